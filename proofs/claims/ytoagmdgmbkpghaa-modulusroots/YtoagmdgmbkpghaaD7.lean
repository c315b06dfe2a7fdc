/- The plain arithmetic of the document's Mul: halves of words. -/
import Derived.Test.YtoagmdgmbkpghaaD6
import Derived.Test.YtoagmdgmbkpghaaA5
namespace Go.Proofs.Ytoagmdgmbkpghaa
open Go.RowKit

/-- Half i of a number's words. -/
def hfd (v i : Nat) : Int := ((v / 2 ^ (32 * i) % 4294967296 : Nat) : Int)
def mulHh (x y p c : Int) : Int := (x * y + p + c) / 4294967296
def mulLh (x y p c : Int) : Int := (x * y + p + c) % 4294967296
theorem Hpow_step (k : Nat) : 2 ^ (32 * (k + 1)) = 2 ^ (32 * k) * 4294967296 := by
  rw [Nat.mul_add, Nat.pow_add]
theorem Hpow_pos' (k : Nat) : 0 < 2 ^ (32 * k) := Nat.two_pow_pos _
theorem big_half : big = 2 ^ (32 * 12) := by
  obtain ⟨n, hn, e⟩ := big_pow
  rw [e, show 64 * n = 32 * 12 by omega]
/-- Word i as a natural number. -/
def hn (v i : Nat) : Nat := v / 2 ^ (32 * i) % 4294967296
theorem Hwd_wn (v i : Nat) : hfd v i = (hn v i : Int) := rfl
theorem Hwn_lt (v i : Nat) : hn v i < 4294967296 := Nat.mod_lt _ (by decide)
theorem Hmod_step (v k : Nat) : v % 2 ^ (32 * (k + 1)) = v % 2 ^ (32 * k) + 2 ^ (32 * k) * hn v k := by
  rw [Hpow_step, Nat.mod_mul]; rfl

/-- The sum behind j rounds of row i: what was there, and word i of a times the lowest j words of b. -/
def smh (a b i j : Nat) : Nat := (a % 2 ^ (32 * i)) * b + hn a i * (b % 2 ^ (32 * j)) * 2 ^ (32 * i)
def pmh (V S t m : Nat) : Int := if m < t then hfd S m else hfd V m
def mch (a b i j : Nat) : Int := ((((a % 2 ^ (32 * i)) * b) % 2 ^ (32 * (i + j)) + hn a i * (b % 2 ^ (32 * j)) * 2 ^ (32 * i)) / 2 ^ (32 * (i + j)) : Nat)

theorem Hpow_add' (i j : Nat) : 2 ^ (32 * (i + j)) = 2 ^ (32 * i) * 2 ^ (32 * j) := by rw [Nat.mul_add, Nat.pow_add]
theorem Hsm_zero (a b i : Nat) : smh a b i 0 = (a % 2 ^ (32 * i)) * b := by unfold smh; simp [Nat.mod_one]
theorem Hsm_end (a b i : Nat) (hb : b < big) : smh a b i 12 = (a % 2 ^ (32 * (i + 1))) * b := by
  unfold smh
  rw [← big_half, Nat.mod_eq_of_lt hb, Hmod_step, Nat.add_mul]
  congr 1
  rw [Nat.mul_assoc, Nat.mul_comm b, ← Nat.mul_assoc, Nat.mul_comm (hn a i)]
theorem Hsm_step (a b i j : Nat) : smh a b i (j + 1) = smh a b i j + 2 ^ (32 * (i + j)) * (hn a i * hn b j) := by
  unfold smh
  rw [Hmod_step b j, Nat.mul_add, Nat.add_mul, ← Nat.add_assoc]
  congr 1
  rw [Hpow_add']
  simp only [Nat.mul_comm, Nat.mul_left_comm, Nat.mul_assoc]
theorem Hmc_nat (a b i j : Nat) : (((a % 2 ^ (32 * i)) * b) % 2 ^ (32 * (i + j)) + hn a i * (b % 2 ^ (32 * j)) * 2 ^ (32 * i)) / 2 ^ (32 * (i + j)) < 4294967296 := by
  have hq := Hpow_pos' (i + j)
  have h1 := Nat.mod_lt ((a % 2 ^ (32 * i)) * b) hq
  have h2 := Hwn_lt a i
  have h3 := Nat.mod_lt b (Hpow_pos' j)
  rw [Nat.div_lt_iff_lt_mul hq]
  have h4 : hn a i * (b % 2 ^ (32 * j)) * 2 ^ (32 * i) ≤ 4294967295 * 2 ^ (32 * j) * 2 ^ (32 * i) :=
    Nat.mul_le_mul_right _ (Nat.mul_le_mul (by omega) (by omega))
  have h5 : 4294967295 * 2 ^ (32 * j) * 2 ^ (32 * i) = 4294967295 * 2 ^ (32 * (i + j)) := by
    rw [Hpow_add', Nat.mul_assoc, Nat.mul_comm (2 ^ (32 * j))]
  generalize 2 ^ (32 * (i + j)) = Q at *
  omega
theorem Hmc_bd (a b i j : Nat) : 0 ≤ mch a b i j ∧ mch a b i j < 4294967296 :=
  ⟨Int.natCast_nonneg _, Int.ofNat_lt.2 (Hmc_nat a b i j)⟩
theorem Hmc_zero (a b i : Nat) : mch a b i 0 = 0 := by
  unfold mch
  rw [Nat.add_zero, Nat.mul_zero, Nat.pow_zero, Nat.mod_one, Nat.mul_zero, Nat.zero_mul, Nat.add_zero, Nat.div_eq_of_lt (Nat.mod_lt _ (Hpow_pos' i))]
  rfl

/-- One step's two words. -/
theorem Hmul_core (V s : Nat) (x y : Nat) (Q : Nat) (hQ : 0 < Q) :
    (V % (Q * 4294967296) + (s + Q * (x * y))) / (Q * 4294967296) = (x * y + V / Q % 4294967296 + (V % Q + s) / Q) / 4294967296 ∧
    (V + (s + Q * (x * y))) / Q % 4294967296 = (x * y + V / Q % 4294967296 + (V % Q + s) / Q) % 4294967296 := by
  constructor
  · rw [Nat.mod_mul, ← Nat.div_div_eq_div_mul]
    have e : V % Q + Q * (V / Q % 4294967296) + (s + Q * (x * y)) = (V % Q + s) + Q * (x * y + V / Q % 4294967296) := by rw [Nat.mul_add]; omega
    rw [e, Nat.add_mul_div_left _ _ hQ]
    congr 1
    omega
  · have e : V + (s + Q * (x * y)) = (V % Q + s) + Q * (x * y + V / Q) := by
      have := Nat.div_add_mod V Q
      rw [Nat.mul_add]; omega
    rw [e, Nat.add_mul_div_left _ _ hQ]
    omega
theorem Hmul_hi (a b i j : Nat) : mulHh (hfd a i) (hfd b j) (hfd ((a % 2 ^ (32 * i)) * b) (i + j)) (mch a b i j) = mch a b i (j + 1) := by
  unfold mulHh mch
  have e := (Hmul_core ((a % 2 ^ (32 * i)) * b) (hn a i * (b % 2 ^ (32 * j)) * 2 ^ (32 * i)) (hn a i) (hn b j) _ (Hpow_pos' (i + j))).1
  have e2 : hn a i * (b % 2 ^ (32 * (j + 1))) * 2 ^ (32 * i) = hn a i * (b % 2 ^ (32 * j)) * 2 ^ (32 * i) + 2 ^ (32 * (i + j)) * (hn a i * hn b j) := by
    have := Hsm_step a b i j
    unfold smh at this
    omega
  rw [← Nat.add_assoc i j 1, Hpow_step (i + j), e2, e, Hwd_wn, Hwd_wn, Hwd_wn]
  unfold hn
  rw [← Int.natCast_mul, ← Int.natCast_add, ← Int.natCast_add]
  rfl
theorem Hmul_lo (a b i j : Nat) : mulLh (hfd a i) (hfd b j) (hfd ((a % 2 ^ (32 * i)) * b) (i + j)) (mch a b i j) = hfd (smh a b i (j + 1)) (i + j) := by
  unfold mulLh mch
  have e := (Hmul_core ((a % 2 ^ (32 * i)) * b) (hn a i * (b % 2 ^ (32 * j)) * 2 ^ (32 * i)) (hn a i) (hn b j) _ (Hpow_pos' (i + j))).2
  rw [Hwd_wn (smh a b i (j + 1))]
  unfold hn at e ⊢
  have es : smh a b i (j + 1) = (a % 2 ^ (32 * i)) * b + (hn a i * (b % 2 ^ (32 * j)) * 2 ^ (32 * i) + 2 ^ (32 * (i + j)) * (hn a i * hn b j)) := by
    rw [Hsm_step]; unfold smh; omega
  rw [es]
  unfold hn
  rw [e, Hwd_wn, Hwd_wn, Hwd_wn]
  unfold hn
  rw [← Int.natCast_mul, ← Int.natCast_add, ← Int.natCast_add]
  rfl
/-- Words below place t don't see what is added from place t on. -/
theorem Hwd_low (S x t m : Nat) (h : m < t) : hfd (S + 2 ^ (32 * t) * x) m = hfd S m := by
  unfold hfd
  have e : 2 ^ (32 * t) = 2 ^ (32 * m) * (4294967296 * 2 ^ (32 * (t - m - 1))) := by
    have : 32 * t = 32 * m + (32 + 32 * (t - m - 1)) := by omega
    rw [this, Nat.pow_add, Nat.pow_add]
  rw [e, Nat.mul_assoc, Nat.add_mul_div_left _ _ (Hpow_pos' m), Nat.mul_assoc, Nat.add_mul_mod_self_left]
theorem Hpm_step (a b i j m : Nat) : upd (pmh ((a % 2 ^ (32 * i)) * b) (smh a b i j) (i + j)) (i + j) (hfd (smh a b i (j + 1)) (i + j)) m = pmh ((a % 2 ^ (32 * i)) * b) (smh a b i (j + 1)) (i + j + 1) m := by
  unfold upd pmh
  by_cases h1 : m = i + j
  · subst h1; rw [if_pos rfl, if_pos (by omega)]
  · rw [if_neg h1]
    by_cases h2 : m < i + j
    · rw [if_pos h2, if_pos (by omega), Hsm_step, Hwd_low _ _ _ _ h2]
    · rw [if_neg h2, if_neg (by omega)]
theorem Hwd_high (S t m : Nat) (hS : S < 2 ^ (32 * t)) (h : t ≤ m) : hfd S m = 0 := by
  unfold hfd
  have : S < 2 ^ (32 * m) := Nat.lt_of_lt_of_le hS (Nat.pow_le_pow_right (by omega) (by omega))
  rw [Nat.div_eq_of_lt this]; rfl
theorem Hlow_lt (a b i : Nat) (hb : b < big) : (a % 2 ^ (32 * i)) * b < 2 ^ (32 * (i + 12)) := by
  rw [Hpow_add', ← big_half]
  have h1 := Nat.mod_lt a (Hpow_pos' i)
  calc (a % 2 ^ (32 * i)) * b ≤ 2 ^ (32 * i) * b := Nat.mul_le_mul_right _ (by omega)
    _ < 2 ^ (32 * i) * big := Nat.mul_lt_mul_of_pos_left hb (Hpow_pos' i)
theorem Hsm_def (a b i j : Nat) : smh a b i j = (a % 2 ^ (32 * i)) * b + hn a i * (b % 2 ^ (32 * j)) * 2 ^ (32 * i) := rfl
theorem Hsm_lt (a b i : Nat) (hb : b < big) : smh a b i 12 < 2 ^ (32 * (i + 12 + 1)) := by
  rw [Hsm_end a b i hb]
  have h := Hlow_lt a b (i + 1) hb
  have e : i + 1 + 12 = i + 12 + 1 := by omega
  rw [e] at h
  exact h
theorem Hmc_end' (a b i n : Nat) (h1 : (a % 2 ^ (32 * i)) * b < 2 ^ (32 * (i + n))) (hlt : smh a b i n < 2 ^ (32 * (i + n + 1))) : mch a b i n = hfd (smh a b i n) (i + n) := by
  rw [Hpow_step] at hlt
  unfold mch hfd
  rw [Nat.mod_eq_of_lt h1, ← Hsm_def]
  generalize smh a b i n = S at hlt ⊢
  have hp := Hpow_pos' (i + n)
  generalize 2 ^ (32 * (i + n)) = Q at hlt hp ⊢
  rw [Nat.mod_eq_of_lt ((Nat.div_lt_iff_lt_mul hp).2 (by rw [Nat.mul_comm]; exact hlt))]
theorem Hmc_end (a b i : Nat) (hb : b < big) : mch a b i 12 = hfd (smh a b i 12) (i + 12) := Hmc_end' a b i 12 (Hlow_lt a b i hb) (Hsm_lt a b i hb)
theorem Hpm_end (a b i m : Nat) (hb : b < big) : upd (pmh ((a % 2 ^ (32 * i)) * b) (smh a b i 12) (i + 12)) (i + 12) (mch a b i 12) m = hfd ((a % 2 ^ (32 * (i + 1))) * b) m := by
  rw [Hmc_end a b i hb, ← Hsm_end a b i hb]
  unfold upd pmh
  by_cases h1 : m = i + 12
  · subst h1; rw [if_pos rfl]
  · rw [if_neg h1]
    by_cases h2 : m < i + 12
    · rw [if_pos h2]
    · rw [if_neg h2, Hwd_high _ (i + 12) _ (Hlow_lt a b i hb) (by omega)]
      rw [Hwd_high _ (i + 12 + 1) _ (Hsm_lt a b i hb) (by omega)]
theorem Hpm_start (a b i m : Nat) : pmh ((a % 2 ^ (32 * i)) * b) (smh a b i 0) (i + 0) m = hfd ((a % 2 ^ (32 * i)) * b) m := by
  unfold pmh; rw [Hsm_zero]; split <;> rfl

/-- Two halves are a word. -/
theorem half_low (v i : Nat) : bits .and .u64 (wd v i) 4294967295 = hfd v (2 * i) := by
  unfold hfd
  rw [wd_shr, show 32 * (2 * i) = 64 * i by omega, ← Nat.shiftRight_eq_div_pow]
  have h := bits_and_u64_nat (v >>> (64 * i) % 2 ^ 64) 4294967295 (Nat.mod_lt _ (by decide)) (by decide)
  rw [show ((4294967295 : Nat) : Int) = 4294967295 from rfl] at h
  rw [h, show (4294967295 : Nat) = 2 ^ 32 - 1 from rfl, Nat.and_two_pow_sub_one_eq_mod, show (4294967296 : Nat) = 2 ^ 32 from rfl, Nat.mod_mod_of_dvd _ (Nat.pow_dvd_pow 2 (by decide))]
theorem half_high (v i : Nat) : wd v i / 4294967296 = hfd v (2 * i + 1) := by
  unfold wd hfd
  rw [show 32 * (2 * i + 1) = 64 * i + 32 by omega, Nat.pow_add, ← Nat.div_div_eq_div_mul, show (2 : Nat) ^ 32 = 4294967296 from rfl]
  omega
theorem half_bd (v i : Nat) : 0 ≤ hfd v i ∧ hfd v i < 4294967296 := by unfold hfd; omega
theorem half_join (v i : Nat) : bits .or .u64 (hfd v (2 * i)) (IntKind.u64.wrap (hfd v (2 * i + 1) * 4294967296)) = wd v i := by
  have h1 := half_bd v (2 * i + 1)
  have e : IntKind.u64.wrap (hfd v (2 * i + 1) * 4294967296) = hfd v (2 * i + 1) * 4294967296 := by rw [IntKind.wrap_u64]; omega
  rw [e]
  unfold hfd
  have h2 : v / 2 ^ (32 * (2 * i)) % 4294967296 < 2 ^ 32 := Nat.mod_lt _ (by decide)
  have h3 : v / 2 ^ (32 * (2 * i + 1)) % 4294967296 < 2 ^ 32 := Nat.mod_lt _ (by decide)
  have e3 : wd v i = ((v / 2 ^ (32 * (2 * i + 1)) % 4294967296 * 4294967296 + v / 2 ^ (32 * (2 * i)) % 4294967296 : Nat) : Int) := by
    unfold wd
    rw [show 32 * (2 * i + 1) = 64 * i + 32 by omega, show 32 * (2 * i) = 64 * i by omega, Nat.pow_add, ← Nat.div_div_eq_div_mul, show (2 : Nat) ^ 32 = 4294967296 from rfl]
    omega
  generalize v / 2 ^ (32 * (2 * i + 1)) % 4294967296 = h at h3 e3 ⊢
  generalize v / 2 ^ (32 * (2 * i)) % 4294967296 = l at h2 e3 ⊢
  rw [e3, show ((h : Nat) : Int) * 4294967296 = ((h * 4294967296 : Nat) : Int) by omega, bits_or_u64_nat l (h * 4294967296) (by omega) (by omega)]
  have h5 := Nat.shiftLeft_add_eq_or_of_lt (b := l) (i := 32) h2 h
  rw [Nat.shiftLeft_eq, show (2 : Nat) ^ 32 = 4294967296 from rfl] at h5
  rw [Nat.or_comm, ← h5]
theorem half_join_hi (v i : Nat) : bits .or .u64 (hfd v (2 * i + 12)) (IntKind.u64.wrap (hfd v (2 * i + 13) * 4294967296)) = wd (v / big) i := by
  have h := half_join v (i + 6)
  rw [show 2 * (i + 6) = 2 * i + 12 by omega, show 2 * i + 12 + 1 = 2 * i + 13 by omega, wd_hi] at h
  exact h
end Go.Proofs.Ytoagmdgmbkpghaa
