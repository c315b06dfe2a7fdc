/- The plain arithmetic of words.Mul. -/
import Derived.Test.YtoagmdgmbkpghabDoorA3
namespace Go.Proofs.YtoagmdgmbkpghabDoor
open Go.RowKit

/-- Word i as a natural number. -/
def wn (v i : Nat) : Nat := v / 2 ^ (64 * i) % 18446744073709551616
theorem wd_wn (v i : Nat) : wd v i = (wn v i : Int) := rfl
theorem wn_lt (v i : Nat) : wn v i < 18446744073709551616 := Nat.mod_lt _ (by decide)
theorem mod_step (v k : Nat) : v % 2 ^ (64 * (k + 1)) = v % 2 ^ (64 * k) + 2 ^ (64 * k) * wn v k := by
  rw [pow_step, Nat.mod_mul]; rfl

/-- The sum behind j rounds of row i: what was there, and word i of a times the lowest j words of b. -/
def sm (a b i j : Nat) : Nat := (a % 2 ^ (64 * i)) * b + wn a i * (b % 2 ^ (64 * j)) * 2 ^ (64 * i)
def pm (V S t m : Nat) : Int := if m < t then wd S m else wd V m
def mc (a b i j : Nat) : Int := ((((a % 2 ^ (64 * i)) * b) % 2 ^ (64 * (i + j)) + wn a i * (b % 2 ^ (64 * j)) * 2 ^ (64 * i)) / 2 ^ (64 * (i + j)) : Nat)

theorem pow_add' (i j : Nat) : 2 ^ (64 * (i + j)) = 2 ^ (64 * i) * 2 ^ (64 * j) := by rw [Nat.mul_add, Nat.pow_add]
theorem sm_zero (a b i : Nat) : sm a b i 0 = (a % 2 ^ (64 * i)) * b := by unfold sm; simp [Nat.mod_one]
theorem sm_end (a b i : Nat) (hb : b < big) : sm a b i 6 = (a % 2 ^ (64 * (i + 1))) * b := by
  unfold sm
  rw [← big_eq, Nat.mod_eq_of_lt hb, mod_step, Nat.add_mul]
  congr 1
  rw [Nat.mul_assoc, Nat.mul_comm b, ← Nat.mul_assoc, Nat.mul_comm (wn a i)]
theorem sm_step (a b i j : Nat) : sm a b i (j + 1) = sm a b i j + 2 ^ (64 * (i + j)) * (wn a i * wn b j) := by
  unfold sm
  rw [mod_step b j, Nat.mul_add, Nat.add_mul, ← Nat.add_assoc]
  congr 1
  rw [pow_add']
  simp only [Nat.mul_comm, Nat.mul_left_comm, Nat.mul_assoc]
theorem mc_nat (a b i j : Nat) : (((a % 2 ^ (64 * i)) * b) % 2 ^ (64 * (i + j)) + wn a i * (b % 2 ^ (64 * j)) * 2 ^ (64 * i)) / 2 ^ (64 * (i + j)) < 18446744073709551616 := by
  have hq := pow_pos' (i + j)
  have h1 := Nat.mod_lt ((a % 2 ^ (64 * i)) * b) hq
  have h2 := wn_lt a i
  have h3 := Nat.mod_lt b (pow_pos' j)
  rw [Nat.div_lt_iff_lt_mul hq]
  have h4 : wn a i * (b % 2 ^ (64 * j)) * 2 ^ (64 * i) ≤ 18446744073709551615 * 2 ^ (64 * j) * 2 ^ (64 * i) :=
    Nat.mul_le_mul_right _ (Nat.mul_le_mul (by omega) (by omega))
  have h5 : 18446744073709551615 * 2 ^ (64 * j) * 2 ^ (64 * i) = 18446744073709551615 * 2 ^ (64 * (i + j)) := by
    rw [pow_add', Nat.mul_assoc, Nat.mul_comm (2 ^ (64 * j))]
  generalize 2 ^ (64 * (i + j)) = Q at *
  omega
theorem mc_bd (a b i j : Nat) : 0 ≤ mc a b i j ∧ mc a b i j < 18446744073709551616 :=
  ⟨Int.natCast_nonneg _, Int.ofNat_lt.2 (mc_nat a b i j)⟩
theorem mc_zero (a b i : Nat) : mc a b i 0 = 0 := by
  unfold mc
  rw [Nat.add_zero, Nat.mul_zero, Nat.pow_zero, Nat.mod_one, Nat.mul_zero, Nat.zero_mul, Nat.add_zero, Nat.div_eq_of_lt (Nat.mod_lt _ (pow_pos' i))]
  rfl

/-- One step's two words. -/
theorem mul_core (V s : Nat) (x y : Nat) (Q : Nat) (hQ : 0 < Q) :
    (V % (Q * 18446744073709551616) + (s + Q * (x * y))) / (Q * 18446744073709551616) = (x * y + V / Q % 18446744073709551616 + (V % Q + s) / Q) / 18446744073709551616 ∧
    (V + (s + Q * (x * y))) / Q % 18446744073709551616 = (x * y + V / Q % 18446744073709551616 + (V % Q + s) / Q) % 18446744073709551616 := by
  constructor
  · rw [Nat.mod_mul, ← Nat.div_div_eq_div_mul]
    have e : V % Q + Q * (V / Q % 18446744073709551616) + (s + Q * (x * y)) = (V % Q + s) + Q * (x * y + V / Q % 18446744073709551616) := by rw [Nat.mul_add]; omega
    rw [e, Nat.add_mul_div_left _ _ hQ]
    congr 1
    omega
  · have e : V + (s + Q * (x * y)) = (V % Q + s) + Q * (x * y + V / Q) := by
      have := Nat.div_add_mod V Q
      rw [Nat.mul_add]; omega
    rw [e, Nat.add_mul_div_left _ _ hQ]
    omega
theorem mul_hi (a b i j : Nat) : mulHi (wd a i) (wd b j) (wd ((a % 2 ^ (64 * i)) * b) (i + j)) (mc a b i j) = mc a b i (j + 1) := by
  unfold mulHi mc
  have e := (mul_core ((a % 2 ^ (64 * i)) * b) (wn a i * (b % 2 ^ (64 * j)) * 2 ^ (64 * i)) (wn a i) (wn b j) _ (pow_pos' (i + j))).1
  have e2 : wn a i * (b % 2 ^ (64 * (j + 1))) * 2 ^ (64 * i) = wn a i * (b % 2 ^ (64 * j)) * 2 ^ (64 * i) + 2 ^ (64 * (i + j)) * (wn a i * wn b j) := by
    have := sm_step a b i j
    unfold sm at this
    omega
  rw [← Nat.add_assoc i j 1, pow_step (i + j), e2, e, wd_wn, wd_wn, wd_wn]
  unfold wn
  rw [← Int.natCast_mul, ← Int.natCast_add, ← Int.natCast_add]
  rfl
theorem mul_lo (a b i j : Nat) : mulLo (wd a i) (wd b j) (wd ((a % 2 ^ (64 * i)) * b) (i + j)) (mc a b i j) = wd (sm a b i (j + 1)) (i + j) := by
  unfold mulLo mc
  have e := (mul_core ((a % 2 ^ (64 * i)) * b) (wn a i * (b % 2 ^ (64 * j)) * 2 ^ (64 * i)) (wn a i) (wn b j) _ (pow_pos' (i + j))).2
  rw [wd_wn (sm a b i (j + 1))]
  unfold wn at e ⊢
  have es : sm a b i (j + 1) = (a % 2 ^ (64 * i)) * b + (wn a i * (b % 2 ^ (64 * j)) * 2 ^ (64 * i) + 2 ^ (64 * (i + j)) * (wn a i * wn b j)) := by
    rw [sm_step]; unfold sm; omega
  rw [es]
  unfold wn
  rw [e, wd_wn, wd_wn, wd_wn]
  unfold wn
  rw [← Int.natCast_mul, ← Int.natCast_add, ← Int.natCast_add]
  rfl
/-- Words below place t don't see what is added from place t on. -/
theorem wd_low (S x t m : Nat) (h : m < t) : wd (S + 2 ^ (64 * t) * x) m = wd S m := by
  unfold wd
  have e : 2 ^ (64 * t) = 2 ^ (64 * m) * (18446744073709551616 * 2 ^ (64 * (t - m - 1))) := by
    have : 64 * t = 64 * m + (64 + 64 * (t - m - 1)) := by omega
    rw [this, Nat.pow_add, Nat.pow_add]
  rw [e, Nat.mul_assoc, Nat.add_mul_div_left _ _ (pow_pos' m), Nat.mul_assoc, Nat.add_mul_mod_self_left]
theorem pm_step (a b i j m : Nat) : upd (pm ((a % 2 ^ (64 * i)) * b) (sm a b i j) (i + j)) (i + j) (wd (sm a b i (j + 1)) (i + j)) m = pm ((a % 2 ^ (64 * i)) * b) (sm a b i (j + 1)) (i + j + 1) m := by
  unfold upd pm
  by_cases h1 : m = i + j
  · subst h1; rw [if_pos rfl, if_pos (by omega)]
  · rw [if_neg h1]
    by_cases h2 : m < i + j
    · rw [if_pos h2, if_pos (by omega), sm_step, wd_low _ _ _ _ h2]
    · rw [if_neg h2, if_neg (by omega)]
theorem wd_high (S t m : Nat) (hS : S < 2 ^ (64 * t)) (h : t ≤ m) : wd S m = 0 := by
  unfold wd
  have : S < 2 ^ (64 * m) := Nat.lt_of_lt_of_le hS (Nat.pow_le_pow_right (by omega) (by omega))
  rw [Nat.div_eq_of_lt this]; rfl
theorem low_lt (a b i : Nat) (hb : b < big) : (a % 2 ^ (64 * i)) * b < 2 ^ (64 * (i + 6)) := by
  rw [pow_add', ← big_eq]
  have h1 := Nat.mod_lt a (pow_pos' i)
  calc (a % 2 ^ (64 * i)) * b ≤ 2 ^ (64 * i) * b := Nat.mul_le_mul_right _ (by omega)
    _ < 2 ^ (64 * i) * big := Nat.mul_lt_mul_of_pos_left hb (pow_pos' i)
theorem sm_def (a b i j : Nat) : sm a b i j = (a % 2 ^ (64 * i)) * b + wn a i * (b % 2 ^ (64 * j)) * 2 ^ (64 * i) := rfl
theorem sm_lt (a b i : Nat) (hb : b < big) : sm a b i 6 < 2 ^ (64 * (i + 6 + 1)) := by
  rw [sm_end a b i hb]
  have h := low_lt a b (i + 1) hb
  have e : i + 1 + 6 = i + 6 + 1 := by omega
  rw [e] at h
  exact h
theorem mc_end' (a b i n : Nat) (h1 : (a % 2 ^ (64 * i)) * b < 2 ^ (64 * (i + n))) (hlt : sm a b i n < 2 ^ (64 * (i + n + 1))) : mc a b i n = wd (sm a b i n) (i + n) := by
  rw [pow_step] at hlt
  unfold mc wd
  rw [Nat.mod_eq_of_lt h1, ← sm_def]
  generalize sm a b i n = S at hlt ⊢
  have hp := pow_pos' (i + n)
  generalize 2 ^ (64 * (i + n)) = Q at hlt hp ⊢
  rw [Nat.mod_eq_of_lt ((Nat.div_lt_iff_lt_mul hp).2 (by rw [Nat.mul_comm]; exact hlt))]
theorem mc_end (a b i : Nat) (hb : b < big) : mc a b i 6 = wd (sm a b i 6) (i + 6) := mc_end' a b i 6 (low_lt a b i hb) (sm_lt a b i hb)
theorem pm_end (a b i m : Nat) (hb : b < big) : upd (pm ((a % 2 ^ (64 * i)) * b) (sm a b i 6) (i + 6)) (i + 6) (mc a b i 6) m = wd ((a % 2 ^ (64 * (i + 1))) * b) m := by
  rw [mc_end a b i hb, ← sm_end a b i hb]
  unfold upd pm
  by_cases h1 : m = i + 6
  · subst h1; rw [if_pos rfl]
  · rw [if_neg h1]
    by_cases h2 : m < i + 6
    · rw [if_pos h2]
    · rw [if_neg h2, wd_high _ (i + 6) _ (low_lt a b i hb) (by omega)]
      rw [wd_high _ (i + 6 + 1) _ (sm_lt a b i hb) (by omega)]
theorem pm_start (a b i m : Nat) : pm ((a % 2 ^ (64 * i)) * b) (sm a b i 0) (i + 0) m = wd ((a % 2 ^ (64 * i)) * b) m := by
  unfold pm; rw [sm_zero]; split <;> rfl
theorem wd_hi (v j : Nat) : wd v (j + 6) = wd (v / big) j := by
  unfold wd
  rw [Nat.add_comm j 6, pow_add', ← big_eq, Nat.div_div_eq_div_mul]
end Go.Proofs.YtoagmdgmbkpghabDoor
