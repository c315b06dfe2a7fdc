/- Texts of the proof, joined. -/
import Derived.Test.YtfmjfgkgoenhnaaDoorP6
import Derived.ProofKit
import Derived.OpenShut
import Derived.Test.YtfmjfgkgoenhnaaDoorRows
import Derived.LaidMore
import Derived.Stop.Joined
import Derived.Test.YtfmjfgkgoenhnaaDoorTie
section
namespace Go.Proofs.YtfmjfgkgoenhnaaDoor
open Go.RowKit
/-- Half i of a number's words. -/
def hfd (v i : Nat) : Int := ((v / 2 ^ (32 * i) % 4294967296 : Nat) : Int)
def mulHh (x y p c : Int) : Int := (x * y + p + c) / 4294967296
def mulLh (x y p c : Int) : Int := (x * y + p + c) % 4294967296
theorem Hpow_step (k : Nat) : 2 ^ (32 * (k + 1)) = 2 ^ (32 * k) * 4294967296 := by
  rw [Nat.mul_add, Nat.pow_add]
theorem Hpow_pos' (k : Nat) : 0 < 2 ^ (32 * k) := Nat.two_pow_pos _
theorem big_half : big = 2 ^ (32 * 12) := by
  obtain ⟨n, hn, e⟩ := big_pow
  rw [e, show 64 * n = 32 * 12 by omega]
/-- Word i as a natural number. -/
def hn (v i : Nat) : Nat := v / 2 ^ (32 * i) % 4294967296
theorem Hwd_wn (v i : Nat) : hfd v i = (hn v i : Int) := rfl
theorem Hwn_lt (v i : Nat) : hn v i < 4294967296 := Nat.mod_lt _ (by decide)
theorem Hmod_step (v k : Nat) : v % 2 ^ (32 * (k + 1)) = v % 2 ^ (32 * k) + 2 ^ (32 * k) * hn v k := by
  rw [Hpow_step, Nat.mod_mul]; rfl
/-- The sum behind j rounds of row i: what was there, and word i of a times the lowest j words of b. -/
def smh (a b i j : Nat) : Nat := (a % 2 ^ (32 * i)) * b + hn a i * (b % 2 ^ (32 * j)) * 2 ^ (32 * i)
def pmh (V S t m : Nat) : Int := if m < t then hfd S m else hfd V m
def mch (a b i j : Nat) : Int := ((((a % 2 ^ (32 * i)) * b) % 2 ^ (32 * (i + j)) + hn a i * (b % 2 ^ (32 * j)) * 2 ^ (32 * i)) / 2 ^ (32 * (i + j)) : Nat)
theorem Hpow_add' (i j : Nat) : 2 ^ (32 * (i + j)) = 2 ^ (32 * i) * 2 ^ (32 * j) := by rw [Nat.mul_add, Nat.pow_add]
theorem Hsm_zero (a b i : Nat) : smh a b i 0 = (a % 2 ^ (32 * i)) * b := by unfold smh; simp [Nat.mod_one]
theorem Hsm_end (a b i : Nat) (hb : b < big) : smh a b i 12 = (a % 2 ^ (32 * (i + 1))) * b := by
  unfold smh
  rw [← big_half, Nat.mod_eq_of_lt hb, Hmod_step, Nat.add_mul]
  congr 1
  rw [Nat.mul_assoc, Nat.mul_comm b, ← Nat.mul_assoc, Nat.mul_comm (hn a i)]
theorem Hsm_step (a b i j : Nat) : smh a b i (j + 1) = smh a b i j + 2 ^ (32 * (i + j)) * (hn a i * hn b j) := by
  unfold smh
  rw [Hmod_step b j, Nat.mul_add, Nat.add_mul, ← Nat.add_assoc]
  congr 1
  rw [Hpow_add']
  simp only [Nat.mul_comm, Nat.mul_left_comm, Nat.mul_assoc]
theorem Hmc_nat (a b i j : Nat) : (((a % 2 ^ (32 * i)) * b) % 2 ^ (32 * (i + j)) + hn a i * (b % 2 ^ (32 * j)) * 2 ^ (32 * i)) / 2 ^ (32 * (i + j)) < 4294967296 := by
  have hq := Hpow_pos' (i + j)
  have h1 := Nat.mod_lt ((a % 2 ^ (32 * i)) * b) hq
  have h2 := Hwn_lt a i
  have h3 := Nat.mod_lt b (Hpow_pos' j)
  rw [Nat.div_lt_iff_lt_mul hq]
  have h4 : hn a i * (b % 2 ^ (32 * j)) * 2 ^ (32 * i) ≤ 4294967295 * 2 ^ (32 * j) * 2 ^ (32 * i) :=
    Nat.mul_le_mul_right _ (Nat.mul_le_mul (by omega) (by omega))
  have h5 : 4294967295 * 2 ^ (32 * j) * 2 ^ (32 * i) = 4294967295 * 2 ^ (32 * (i + j)) := by
    rw [Hpow_add', Nat.mul_assoc, Nat.mul_comm (2 ^ (32 * j))]
  generalize 2 ^ (32 * (i + j)) = Q at *
  omega
theorem Hmc_bd (a b i j : Nat) : 0 ≤ mch a b i j ∧ mch a b i j < 4294967296 :=
  ⟨Int.natCast_nonneg _, Int.ofNat_lt.2 (Hmc_nat a b i j)⟩
theorem Hmc_zero (a b i : Nat) : mch a b i 0 = 0 := by
  unfold mch
  rw [Nat.add_zero, Nat.mul_zero, Nat.pow_zero, Nat.mod_one, Nat.mul_zero, Nat.zero_mul, Nat.add_zero, Nat.div_eq_of_lt (Nat.mod_lt _ (Hpow_pos' i))]
  rfl
/-- One step's two words. -/
theorem Hmul_core (V s : Nat) (x y : Nat) (Q : Nat) (hQ : 0 < Q) :
    (V % (Q * 4294967296) + (s + Q * (x * y))) / (Q * 4294967296) = (x * y + V / Q % 4294967296 + (V % Q + s) / Q) / 4294967296 ∧
    (V + (s + Q * (x * y))) / Q % 4294967296 = (x * y + V / Q % 4294967296 + (V % Q + s) / Q) % 4294967296 := by
  constructor
  · rw [Nat.mod_mul, ← Nat.div_div_eq_div_mul]
    have e : V % Q + Q * (V / Q % 4294967296) + (s + Q * (x * y)) = (V % Q + s) + Q * (x * y + V / Q % 4294967296) := by rw [Nat.mul_add]; omega
    rw [e, Nat.add_mul_div_left _ _ hQ]
    congr 1
    omega
  · have e : V + (s + Q * (x * y)) = (V % Q + s) + Q * (x * y + V / Q) := by
      have := Nat.div_add_mod V Q
      rw [Nat.mul_add]; omega
    rw [e, Nat.add_mul_div_left _ _ hQ]
    omega
theorem Hmul_hi (a b i j : Nat) : mulHh (hfd a i) (hfd b j) (hfd ((a % 2 ^ (32 * i)) * b) (i + j)) (mch a b i j) = mch a b i (j + 1) := by
  unfold mulHh mch
  have e := (Hmul_core ((a % 2 ^ (32 * i)) * b) (hn a i * (b % 2 ^ (32 * j)) * 2 ^ (32 * i)) (hn a i) (hn b j) _ (Hpow_pos' (i + j))).1
  have e2 : hn a i * (b % 2 ^ (32 * (j + 1))) * 2 ^ (32 * i) = hn a i * (b % 2 ^ (32 * j)) * 2 ^ (32 * i) + 2 ^ (32 * (i + j)) * (hn a i * hn b j) := by
    have := Hsm_step a b i j
    unfold smh at this
    omega
  rw [← Nat.add_assoc i j 1, Hpow_step (i + j), e2, e, Hwd_wn, Hwd_wn, Hwd_wn]
  unfold hn
  rw [← Int.natCast_mul, ← Int.natCast_add, ← Int.natCast_add]
  rfl
theorem Hmul_lo (a b i j : Nat) : mulLh (hfd a i) (hfd b j) (hfd ((a % 2 ^ (32 * i)) * b) (i + j)) (mch a b i j) = hfd (smh a b i (j + 1)) (i + j) := by
  unfold mulLh mch
  have e := (Hmul_core ((a % 2 ^ (32 * i)) * b) (hn a i * (b % 2 ^ (32 * j)) * 2 ^ (32 * i)) (hn a i) (hn b j) _ (Hpow_pos' (i + j))).2
  rw [Hwd_wn (smh a b i (j + 1))]
  unfold hn at e ⊢
  have es : smh a b i (j + 1) = (a % 2 ^ (32 * i)) * b + (hn a i * (b % 2 ^ (32 * j)) * 2 ^ (32 * i) + 2 ^ (32 * (i + j)) * (hn a i * hn b j)) := by
    rw [Hsm_step]; unfold smh; omega
  rw [es]
  unfold hn
  rw [e, Hwd_wn, Hwd_wn, Hwd_wn]
  unfold hn
  rw [← Int.natCast_mul, ← Int.natCast_add, ← Int.natCast_add]
  rfl
/-- Words below place t don't see what is added from place t on. -/
theorem Hwd_low (S x t m : Nat) (h : m < t) : hfd (S + 2 ^ (32 * t) * x) m = hfd S m := by
  unfold hfd
  have e : 2 ^ (32 * t) = 2 ^ (32 * m) * (4294967296 * 2 ^ (32 * (t - m - 1))) := by
    have : 32 * t = 32 * m + (32 + 32 * (t - m - 1)) := by omega
    rw [this, Nat.pow_add, Nat.pow_add]
  rw [e, Nat.mul_assoc, Nat.add_mul_div_left _ _ (Hpow_pos' m), Nat.mul_assoc, Nat.add_mul_mod_self_left]
theorem Hpm_step (a b i j m : Nat) : upd (pmh ((a % 2 ^ (32 * i)) * b) (smh a b i j) (i + j)) (i + j) (hfd (smh a b i (j + 1)) (i + j)) m = pmh ((a % 2 ^ (32 * i)) * b) (smh a b i (j + 1)) (i + j + 1) m := by
  unfold upd pmh
  by_cases h1 : m = i + j
  · subst h1; rw [if_pos rfl, if_pos (by omega)]
  · rw [if_neg h1]
    by_cases h2 : m < i + j
    · rw [if_pos h2, if_pos (by omega), Hsm_step, Hwd_low _ _ _ _ h2]
    · rw [if_neg h2, if_neg (by omega)]
theorem Hwd_high (S t m : Nat) (hS : S < 2 ^ (32 * t)) (h : t ≤ m) : hfd S m = 0 := by
  unfold hfd
  have : S < 2 ^ (32 * m) := Nat.lt_of_lt_of_le hS (Nat.pow_le_pow_right (by omega) (by omega))
  rw [Nat.div_eq_of_lt this]; rfl
theorem Hlow_lt (a b i : Nat) (hb : b < big) : (a % 2 ^ (32 * i)) * b < 2 ^ (32 * (i + 12)) := by
  rw [Hpow_add', ← big_half]
  have h1 := Nat.mod_lt a (Hpow_pos' i)
  calc (a % 2 ^ (32 * i)) * b ≤ 2 ^ (32 * i) * b := Nat.mul_le_mul_right _ (by omega)
    _ < 2 ^ (32 * i) * big := Nat.mul_lt_mul_of_pos_left hb (Hpow_pos' i)
theorem Hsm_def (a b i j : Nat) : smh a b i j = (a % 2 ^ (32 * i)) * b + hn a i * (b % 2 ^ (32 * j)) * 2 ^ (32 * i) := rfl
theorem Hsm_lt (a b i : Nat) (hb : b < big) : smh a b i 12 < 2 ^ (32 * (i + 12 + 1)) := by
  rw [Hsm_end a b i hb]
  have h := Hlow_lt a b (i + 1) hb
  have e : i + 1 + 12 = i + 12 + 1 := by omega
  rw [e] at h
  exact h
theorem Hmc_end' (a b i n : Nat) (h1 : (a % 2 ^ (32 * i)) * b < 2 ^ (32 * (i + n))) (hlt : smh a b i n < 2 ^ (32 * (i + n + 1))) : mch a b i n = hfd (smh a b i n) (i + n) := by
  rw [Hpow_step] at hlt
  unfold mch hfd
  rw [Nat.mod_eq_of_lt h1, ← Hsm_def]
  generalize smh a b i n = S at hlt ⊢
  have hp := Hpow_pos' (i + n)
  generalize 2 ^ (32 * (i + n)) = Q at hlt hp ⊢
  rw [Nat.mod_eq_of_lt ((Nat.div_lt_iff_lt_mul hp).2 (by rw [Nat.mul_comm]; exact hlt))]
theorem Hmc_end (a b i : Nat) (hb : b < big) : mch a b i 12 = hfd (smh a b i 12) (i + 12) := Hmc_end' a b i 12 (Hlow_lt a b i hb) (Hsm_lt a b i hb)
theorem Hpm_end (a b i m : Nat) (hb : b < big) : upd (pmh ((a % 2 ^ (32 * i)) * b) (smh a b i 12) (i + 12)) (i + 12) (mch a b i 12) m = hfd ((a % 2 ^ (32 * (i + 1))) * b) m := by
  rw [Hmc_end a b i hb, ← Hsm_end a b i hb]
  unfold upd pmh
  by_cases h1 : m = i + 12
  · subst h1; rw [if_pos rfl]
  · rw [if_neg h1]
    by_cases h2 : m < i + 12
    · rw [if_pos h2]
    · rw [if_neg h2, Hwd_high _ (i + 12) _ (Hlow_lt a b i hb) (by omega)]
      rw [Hwd_high _ (i + 12 + 1) _ (Hsm_lt a b i hb) (by omega)]
theorem Hpm_start (a b i m : Nat) : pmh ((a % 2 ^ (32 * i)) * b) (smh a b i 0) (i + 0) m = hfd ((a % 2 ^ (32 * i)) * b) m := by
  unfold pmh; rw [Hsm_zero]; split <;> rfl
/-- Two halves are a word. -/
theorem half_low (v i : Nat) : bits .and .u64 (wd v i) 4294967295 = hfd v (2 * i) := by
  unfold hfd
  rw [wd_shr, show 32 * (2 * i) = 64 * i by omega, ← Nat.shiftRight_eq_div_pow]
  have h := bits_and_u64_nat (v >>> (64 * i) % 2 ^ 64) 4294967295 (Nat.mod_lt _ (by decide)) (by decide)
  rw [show ((4294967295 : Nat) : Int) = 4294967295 from rfl] at h
  rw [h, show (4294967295 : Nat) = 2 ^ 32 - 1 from rfl, Nat.and_two_pow_sub_one_eq_mod, show (4294967296 : Nat) = 2 ^ 32 from rfl, Nat.mod_mod_of_dvd _ (Nat.pow_dvd_pow 2 (by decide))]
theorem half_high (v i : Nat) : wd v i / 4294967296 = hfd v (2 * i + 1) := by
  unfold wd hfd
  rw [show 32 * (2 * i + 1) = 64 * i + 32 by omega, Nat.pow_add, ← Nat.div_div_eq_div_mul, show (2 : Nat) ^ 32 = 4294967296 from rfl]
  omega
theorem half_bd (v i : Nat) : 0 ≤ hfd v i ∧ hfd v i < 4294967296 := by unfold hfd; omega
theorem half_join (v i : Nat) : bits .or .u64 (hfd v (2 * i)) (IntKind.u64.wrap (hfd v (2 * i + 1) * 4294967296)) = wd v i := by
  have h1 := half_bd v (2 * i + 1)
  have e : IntKind.u64.wrap (hfd v (2 * i + 1) * 4294967296) = hfd v (2 * i + 1) * 4294967296 := by rw [IntKind.wrap_u64]; omega
  rw [e]
  unfold hfd
  have h2 : v / 2 ^ (32 * (2 * i)) % 4294967296 < 2 ^ 32 := Nat.mod_lt _ (by decide)
  have h3 : v / 2 ^ (32 * (2 * i + 1)) % 4294967296 < 2 ^ 32 := Nat.mod_lt _ (by decide)
  have e3 : wd v i = ((v / 2 ^ (32 * (2 * i + 1)) % 4294967296 * 4294967296 + v / 2 ^ (32 * (2 * i)) % 4294967296 : Nat) : Int) := by
    unfold wd
    rw [show 32 * (2 * i + 1) = 64 * i + 32 by omega, show 32 * (2 * i) = 64 * i by omega, Nat.pow_add, ← Nat.div_div_eq_div_mul, show (2 : Nat) ^ 32 = 4294967296 from rfl]
    omega
  generalize v / 2 ^ (32 * (2 * i + 1)) % 4294967296 = h at h3 e3 ⊢
  generalize v / 2 ^ (32 * (2 * i)) % 4294967296 = l at h2 e3 ⊢
  rw [e3, show ((h : Nat) : Int) * 4294967296 = ((h * 4294967296 : Nat) : Int) by omega, bits_or_u64_nat l (h * 4294967296) (by omega) (by omega)]
  have h5 := Nat.shiftLeft_add_eq_or_of_lt (b := l) (i := 32) h2 h
  rw [Nat.shiftLeft_eq, show (2 : Nat) ^ 32 = 4294967296 from rfl] at h5
  rw [Nat.or_comm, ← h5]
theorem half_join_hi (v i : Nat) : bits .or .u64 (hfd v (2 * i + 12)) (IntKind.u64.wrap (hfd v (2 * i + 13) * 4294967296)) = wd (v / big) i := by
  have h := half_join v (i + 6)
  rw [show 2 * (i + 6) = 2 * i + 12 by omega, show 2 * i + 12 + 1 = 2 * i + 13 by omega, wd_hi] at h
  exact h
end Go.Proofs.YtfmjfgkgoenhnaaDoor
end
section
namespace Go.Proofs.YtfmjfgkgoenhnaaDoor
open Go.RowKit
abbrev H12 (v : Nat) : Value := .agg #[.int .u64 (hfd v 0), .int .u64 (hfd v 1), .int .u64 (hfd v 2), .int .u64 (hfd v 3), .int .u64 (hfd v 4), .int .u64 (hfd v 5), .int .u64 (hfd v 6), .int .u64 (hfd v 7), .int .u64 (hfd v 8), .int .u64 (hfd v 9), .int .u64 (hfd v 10), .int .u64 (hfd v 11)]
def parth (v k j : Nat) : Int := if j < 2 * k then hfd v j else 0
theorem parth_step (v k j : Nat) : upd (upd (parth v k) (2 * k) (hfd v (2 * k))) (2 * k + 1) (hfd v (2 * k + 1)) j = parth v (k + 1) j := by
  unfold upd parth
  by_cases h1 : j = 2 * k + 1
  · subst h1; rw [if_pos rfl, if_pos (by omega)]
  · rw [if_neg h1]
    by_cases h2 : j = 2 * k
    · subst h2; rw [if_pos rfl, if_pos (by omega)]
    · rw [if_neg h2]
      by_cases h3 : j < 2 * k
      · rw [if_pos h3, if_pos (by omega)]
      · rw [if_neg h3, if_neg (by omega)]
theorem twenty_four_zero {c : Array Value} (h : c = #[.int .u64 0, .int .u64 0, .int .u64 0, .int .u64 0, .int .u64 0, .int .u64 0, .int .u64 0, .int .u64 0, .int .u64 0, .int .u64 0, .int .u64 0, .int .u64 0, .int .u64 0, .int .u64 0, .int .u64 0, .int .u64 0, .int .u64 0, .int .u64 0, .int .u64 0, .int .u64 0, .int .u64 0, .int .u64 0, .int .u64 0, .int .u64 0]) : ∀ j, j < 24 → c[j]? = some (.int .u64 0) := by
  subst h
  intro j hj
  by_cases h : j < 12
  · match j, h with
    | 0, _ | 1, _ | 2, _ | 3, _ | 4, _ | 5, _ | 6, _ | 7, _ | 8, _ | 9, _ | 10, _ | 11, _ => rfl
  · obtain ⟨i, rfl⟩ : ∃ i, j = i + 12 := ⟨j - 12, by omega⟩
    have hi : i < 12 := by omega
    clear h hj
    match i, hi with
    | 0, _ | 1, _ | 2, _ | 3, _ | 4, _ | 5, _ | 6, _ | 7, _ | 8, _ | 9, _ | 10, _ | 11, _ => rfl
theorem Row.reads12 {w : World} {g : Nat} {f : Nat → Int} (h : Row w g 12 f) : w.cell? ⟨g, 0, none⟩ = some (.int .u64 (f 0)) ∧ w.cell? ⟨g, 1, none⟩ = some (.int .u64 (f 1)) ∧ w.cell? ⟨g, 2, none⟩ = some (.int .u64 (f 2)) ∧ w.cell? ⟨g, 3, none⟩ = some (.int .u64 (f 3)) ∧ w.cell? ⟨g, 4, none⟩ = some (.int .u64 (f 4)) ∧ w.cell? ⟨g, 5, none⟩ = some (.int .u64 (f 5)) ∧ w.cell? ⟨g, 6, none⟩ = some (.int .u64 (f 6)) ∧ w.cell? ⟨g, 7, none⟩ = some (.int .u64 (f 7)) ∧ w.cell? ⟨g, 8, none⟩ = some (.int .u64 (f 8)) ∧ w.cell? ⟨g, 9, none⟩ = some (.int .u64 (f 9)) ∧ w.cell? ⟨g, 10, none⟩ = some (.int .u64 (f 10)) ∧ w.cell? ⟨g, 11, none⟩ = some (.int .u64 (f 11)) :=
  ⟨(h 0 (by omega)).1, (h 1 (by omega)).1, (h 2 (by omega)).1, (h 3 (by omega)).1, (h 4 (by omega)).1, (h 5 (by omega)).1, (h 6 (by omega)).1, (h 7 (by omega)).1, (h 8 (by omega)).1, (h 9 (by omega)).1, (h 10 (by omega)).1, (h 11 (by omega)).1⟩
theorem Row.writes12 {w : World} {g : Nat} {f : Nat → Int} (h : Row w g 12 f) : w.frozen? ⟨g, 0, none⟩ = false ∧ w.frozen? ⟨g, 1, none⟩ = false ∧ w.frozen? ⟨g, 2, none⟩ = false ∧ w.frozen? ⟨g, 3, none⟩ = false ∧ w.frozen? ⟨g, 4, none⟩ = false ∧ w.frozen? ⟨g, 5, none⟩ = false ∧ w.frozen? ⟨g, 6, none⟩ = false ∧ w.frozen? ⟨g, 7, none⟩ = false ∧ w.frozen? ⟨g, 8, none⟩ = false ∧ w.frozen? ⟨g, 9, none⟩ = false ∧ w.frozen? ⟨g, 10, none⟩ = false ∧ w.frozen? ⟨g, 11, none⟩ = false :=
  ⟨(h 0 (by omega)).2, (h 1 (by omega)).2, (h 2 (by omega)).2, (h 3 (by omega)).2, (h 4 (by omega)).2, (h 5 (by omega)).2, (h 6 (by omega)).2, (h 7 (by omega)).2, (h 8 (by omega)).2, (h 9 (by omega)).2, (h 10 (by omega)).2, (h 11 (by omega)).2⟩
theorem below12 {B g : Nat} {w wr : World} (h : Below B w wr) (hg : B ≤ g) (v : Nat → Value) : Below B w ((((((((((((wr.setCell ⟨g, 0, none⟩ (v 0)).setCell ⟨g, 1, none⟩ (v 1)).setCell ⟨g, 2, none⟩ (v 2)).setCell ⟨g, 3, none⟩ (v 3)).setCell ⟨g, 4, none⟩ (v 4)).setCell ⟨g, 5, none⟩ (v 5)).setCell ⟨g, 6, none⟩ (v 6)).setCell ⟨g, 7, none⟩ (v 7)).setCell ⟨g, 8, none⟩ (v 8)).setCell ⟨g, 9, none⟩ (v 9)).setCell ⟨g, 10, none⟩ (v 10)).setCell ⟨g, 11, none⟩ (v 11)) :=
  ((((((((((((h.setCell (p := ⟨g, 0, none⟩) hg _).setCell (p := ⟨g, 1, none⟩) hg _).setCell (p := ⟨g, 2, none⟩) hg _).setCell (p := ⟨g, 3, none⟩) hg _).setCell (p := ⟨g, 4, none⟩) hg _).setCell (p := ⟨g, 5, none⟩) hg _).setCell (p := ⟨g, 6, none⟩) hg _).setCell (p := ⟨g, 7, none⟩) hg _).setCell (p := ⟨g, 8, none⟩) hg _).setCell (p := ⟨g, 9, none⟩) hg _).setCell (p := ⟨g, 10, none⟩) hg _).setCell (p := ⟨g, 11, none⟩) hg _)
set_option maxHeartbeats 2000000 in
set_option maxRecDepth 100000 in
theorem halves_any (a : Nat) (w : World) :
    Calls Tryd.prog 53 #[N a] w fun e w' => e = .returned (H12 a) ∧ Below w.heap.size w w' := by
  go_enter Tryd.func53, Tryd.ntmps53
  go_wp2
  go_loopw [4] (fun i wr => ∃ k : Nat, k ≤ 6 ∧ i = .int .i64 k ∧ Row wr w.heap.size 6 (wd a) ∧ Row wr (w.heap.size + 1) 12 (fun _ => 0) ∧ Row wr (w.heap.size + 1 + 1) 12 (parth a k) ∧ Below w.heap.size w wr) (fun i _ => 6 - (RowKit.intOf i).toNat)
  case atStart =>
    refine ⟨0, by omega, rfl, ?_, ?_, ?_, ?_⟩
    · exact ((Row.new w _ 24 rfl (six_lt rfl)).alloc (by simp) _).alloc (by simp; omega) _
    · exact (Row.new _ _ 66 (by simp) (f := fun _ => 0) (twelve_zero rfl)).alloc (by simp) _
    · exact (Row.new _ _ 66 (by simp) (f := fun _ => 0) (twelve_zero rfl)).congr (fun j _ => by unfold parth; rw [if_neg (by omega)])
    · exact (((Below.refl _ _).alloc (Nat.le_refl _) _).alloc (by simp) _).alloc (by simp; omega) _
  case round =>
    obtain ⟨k, hk, rfl, hA, hZ, hS, hw⟩ := hrel
    by_cases hlt : k < 6
    · have hA1 := (hA k hlt).1
      obtain ⟨s1, s2⟩ := hS (2 * k) (by omega)
      obtain ⟨s3, s4⟩ := hS (2 * k + 1) (by omega)
      have hl := half_low a k
      have hh := half_high a k
      have e0 : IntKind.i64.wrap (2 * (k : Int)) = 2 * (k : Int) := by rw [IntKind.wrap_i64]; omega
      have e1 : IntKind.i64.wrap (2 * (k : Int) + 1) = 2 * (k : Int) + 1 := by rw [IntKind.wrap_i64]; omega
      have t0 : (2 * (k : Int)).toNat = 2 * k := by omega
      have t1 : (2 * (k : Int) + 1).toNat = 2 * k + 1 := by omega
      have b0 : (0 : Int) ≤ 2 * (k : Int) := by omega
      have b1 : 2 * (k : Int) < 12 := by omega
      have b2 : (0 : Int) ≤ 2 * (k : Int) + 1 := by omega
      have b3 : 2 * (k : Int) + 1 < 12 := by omega
      have HM : Hid (_ ∧ _ ∧ _ ∧ _) := ⟨hA, hZ, hS, hw⟩
      clear hA hZ hS hw
      go_wp2
      go_roundw
      case rel =>
        obtain ⟨hA, hZ, hS, hw⟩ := HM.out
        exact ⟨k + 1, by omega, by go_num, (hA.set_other _ (by simp <;> omega)).set_other _ (by simp <;> omega), (hZ.set_other _ (by simp <;> omega)).set_other _ (by simp <;> omega), ((hS.set _).set _).congr (fun j _ => parth_step a k j), (hw.setCell (by simp <;> omega) _).setCell (by simp <;> omega) _⟩
      case measure => simp [RowKit.intOf] <;> omega
    · have hk6 : k = 6 := by omega
      subst hk6
      rw [show ((6 : Nat) : Int) = 6 from rfl]
      obtain ⟨s0, s1, s2, s3, s4, s5, s6, s7, s8, s9, s10, s11⟩ := (hS.congr (f' := hfd a) (fun j hj => by unfold parth; rw [if_pos (by omega)])).reads12
      obtain ⟨z0, z1, z2, z3, z4, z5, z6, z7, z8, z9, z10, z11⟩ := hZ.writes12
      obtain ⟨y0, y1, y2, y3, y4, y5, y6, y7, y8, y9, y10, y11⟩ := hZ.reads12
      have HW : Hid _ := hw
      clear hA hZ hS hw
      go_wp2
      refine bodyPost_ret (v := H12 a) ?_ rfl ⟨rfl, ?_⟩
      · simp [results, Tryd.results53, go_sem, *]
      · exact below12 HW.out (by omega) (fun j => .int .u64 (hfd a j))
end Go.Proofs.YtfmjfgkgoenhnaaDoor
end
section
namespace Go.Proofs.YtfmjfgkgoenhnaaDoor
open Go.RowKit
abbrev cells12 (v : Nat) : List Value := [.int .u64 (hfd v 0), .int .u64 (hfd v 1), .int .u64 (hfd v 2), .int .u64 (hfd v 3), .int .u64 (hfd v 4), .int .u64 (hfd v 5), .int .u64 (hfd v 6), .int .u64 (hfd v 7), .int .u64 (hfd v 8), .int .u64 (hfd v 9), .int .u64 (hfd v 10), .int .u64 (hfd v 11)]
abbrev zero12 : List Value := [.int .u64 0, .int .u64 0, .int .u64 0, .int .u64 0, .int .u64 0, .int .u64 0, .int .u64 0, .int .u64 0, .int .u64 0, .int .u64 0, .int .u64 0, .int .u64 0]
theorem Blk.row12 {w : World} {g v : Nat} (h : Blk w g (cells12 v)) : Row w g 12 (hfd v) := fun j hj => by
  match j, hj with
  | 0, _ => exact h 0 _ rfl
  | 1, _ => exact h 1 _ rfl
  | 2, _ => exact h 2 _ rfl
  | 3, _ => exact h 3 _ rfl
  | 4, _ => exact h 4 _ rfl
  | 5, _ => exact h 5 _ rfl
  | 6, _ => exact h 6 _ rfl
  | 7, _ => exact h 7 _ rfl
  | 8, _ => exact h 8 _ rfl
  | 9, _ => exact h 9 _ rfl
  | 10, _ => exact h 10 _ rfl
  | 11, _ => exact h 11 _ rfl
theorem exec_made12 {ρ : Operand → Value} {o : Oper} {w : World} (ho : o.op = .alloc 66) :
    (execOp ρ o).run Tryd.prog w = .ok (.value (.pointer (some ⟨w.heap.size, 0, none⟩))) (w.alloc (.cells zero12.toArray 66)) := by
  simp only [execOp, ho]
  go_simp
theorem exec_laid12 {ρ : Operand → Value} {o : Oper} {x y : Operand} {g v : Nat} {w : World} (h : Blk w g zero12) (ho : o.op = .store 66 x y) (hx : ρ x = .pointer (some ⟨g, 0, none⟩)) (hy : ρ y = H12 v) :
    (execOp ρ o).run Tryd.prog w = .ok .skip (w.setCells g 0 (cells12 v)) := by
  obtain ⟨c0, f0⟩ := h 0 _ rfl
  obtain ⟨c1, f1⟩ := h 1 _ rfl
  obtain ⟨c2, f2⟩ := h 2 _ rfl
  obtain ⟨c3, f3⟩ := h 3 _ rfl
  obtain ⟨c4, f4⟩ := h 4 _ rfl
  obtain ⟨c5, f5⟩ := h 5 _ rfl
  obtain ⟨c6, f6⟩ := h 6 _ rfl
  obtain ⟨c7, f7⟩ := h 7 _ rfl
  obtain ⟨c8, f8⟩ := h 8 _ rfl
  obtain ⟨c9, f9⟩ := h 9 _ rfl
  obtain ⟨c10, f10⟩ := h 10 _ rfl
  obtain ⟨c11, f11⟩ := h 11 _ rfl
  clear h
  simp only [execOp, ho, hx, hy]
  go_simp
  simp [World.setCells]
/-- The memory of the document's Mul: two results, the halves of a and of b, the product's halves. -/
structure MM (w wr : World) (gx gy gp a b : Nat) (p : Nat → Int) : Prop where
  rl : Row wr (w.heap.size + 1 + 1) 6 (fun _ => 0)
  rh : Row wr (w.heap.size + 1 + 1 + 1) 6 (fun _ => 0)
  rx : Row wr gx 12 (hfd a)
  ry : Row wr gy 12 (hfd b)
  rp : Row wr gp 24 p
  o1 : w.heap.size + 1 + 1 + 1 < gx ∧ gx < gp
  o2 : w.heap.size + 1 + 1 + 1 < gy ∧ gy < gp
  sz : gp < wr.heap.size
  bl : Below w.heap.size w wr
theorem MM.store {w wr : World} {gx gy gp a b : Nat} {p : Nat → Int} (h : MM w wr gx gy gp a b p) (k : Nat) (v : Int) : MM w (wr.setCell ⟨gp, k, none⟩ (.int .u64 v)) gx gy gp a b (upd p k v) :=
  have h1 := h.o1
  have h2 := h.o2
  ⟨h.rl.set_other _ (by simp <;> omega), h.rh.set_other _ (by simp <;> omega), h.rx.set_other _ (by simp <;> omega), h.ry.set_other _ (by simp <;> omega), h.rp.set _, h1, h2, by simpa using h.sz, h.bl.setCell (by simp <;> omega) _⟩
theorem MM.drew {w wr : World} {gx gy gp a b : Nat} {p : Nat → Int} (h : MM w wr gx gy gp a b p) : MM w wr.drew gx gy gp a b p :=
  ⟨h.rl.drew, h.rh.drew, h.rx.drew, h.ry.drew, h.rp.drew, h.o1, h.o2, h.sz, h.bl.drew⟩
theorem MM.congr {w wr : World} {gx gy gp a b : Nat} {p p' : Nat → Int} (h : MM w wr gx gy gp a b p) (e : ∀ j, j < 24 → p j = p' j) : MM w wr gx gy gp a b p' :=
  ⟨h.rl, h.rh, h.rx, h.ry, h.rp.congr e, h.o1, h.o2, h.sz, h.bl⟩
/-- One step's arithmetic, as the machine reckons it. -/
theorem mul_t (x y p c : Int) (x0 : 0 ≤ x) (x1 : x < 4294967296) (y0 : 0 ≤ y) (y1 : y < 4294967296) (p0 : 0 ≤ p) (p1 : p < 4294967296) (c0 : 0 ≤ c) (c1 : c < 4294967296) :
    ∃ X Y T : Int, IntKind.u64.wrap (x * y) = X ∧ IntKind.u64.wrap (X + p) = Y ∧ IntKind.u64.wrap (Y + c) = T ∧ bits .and .u64 T 4294967295 = mulLh x y p c ∧ T / 4294967296 = mulHh x y p c := by
  have h1 : 0 ≤ x * y := Int.mul_nonneg x0 y0
  have h2 : x * y ≤ 4294967295 * 4294967295 := Int.mul_le_mul (by omega) (by omega) y0 (by omega)
  refine ⟨x * y, x * y + p, x * y + p + c, ?_, ?_, ?_, ?_, rfl⟩
  · rw [IntKind.wrap_u64]; omega
  · rw [IntKind.wrap_u64]; omega
  · rw [IntKind.wrap_u64]; omega
  · unfold mulLh
    generalize hT : x * y + p + c = T
    have hT0 : 0 ≤ T := by omega
    have hT1 : T < 18446744073709551616 := by omega
    obtain ⟨n, rfl⟩ := Int.eq_ofNat_of_zero_le hT0
    have h := bits_and_u64_nat n 4294967295 (by omega) (by decide)
    rw [show ((4294967295 : Nat) : Int) = 4294967295 from rfl] at h
    rw [h, show (4294967295 : Nat) = 2 ^ 32 - 1 from rfl, Nat.and_two_pow_sub_one_eq_mod]
    omega
set_option maxHeartbeats 3200000 in
set_option maxRecDepth 100000 in
theorem mul_ref (a b : Nat) (ha : a < big) (hb : b < big) (w : World) :
    Calls Tryd.prog 40 #[N a, N b] w fun e w' => e = .returned (.tuple #[N (a * b % big), N (a * b / big)]) ∧ Below w.heap.size w w' := by
  have HA : Hid (a < big) := ha
  have HB : Hid (b < big) := hb
  have CX : Hid _ := fun w => halves_any a w
  have CY : Hid _ := fun w => halves_any b w
  clear ha hb
  go_enter Tryd.func40, Tryd.ntmps40
  go_wp2_with fail
  have hR0 : Rws ((((w.alloc (O6 a)).alloc (O6 b)).alloc Z6).alloc Z6) [(w.heap.size + 1, b), (w.heap.size, a)] := ((((Rws.nil w).alloc a rfl).alloc b (g := w.heap.size + 1) (by simp)).below ((Below.refl _ _).alloc (Nat.le_refl _) _)).below ((Below.refl _ _).alloc (Nat.le_refl _) _)
  have hZ1 : Row ((((w.alloc (O6 a)).alloc (O6 b)).alloc Z6).alloc Z6) (w.heap.size + 1 + 1) 6 (fun _ => 0) := (Row.new _ _ 24 (by simp) (six_lt (f := fun _ => 0) rfl)).alloc (by simp) _
  have hZ2 : Row ((((w.alloc (O6 a)).alloc (O6 b)).alloc Z6).alloc Z6) (w.heap.size + 1 + 1 + 1) 6 (fun _ => 0) := Row.new _ _ 24 (by simp) (six_lt (f := fun _ => 0) rfl)
  have hB0 : Below w.heap.size w ((((w.alloc (O6 a)).alloc (O6 b)).alloc Z6).alloc Z6) := ((((Below.refl _ _).alloc (Nat.le_refl _) _).alloc (by simp) _).alloc (by first | (simp; done) | (simp; omega)) _).alloc (by first | (simp; done) | (simp; omega)) _
  have hs0 : ((((w.alloc (O6 a)).alloc (O6 b)).alloc Z6).alloc Z6).heap.size = w.heap.size + 1 + 1 + 1 + 1 := by simp
  generalize (((w.alloc (O6 a)).alloc (O6 b)).alloc Z6).alloc Z6 = w0 at hR0 hZ1 hZ2 hB0 hs0 ⊢
  have H0 : Hid (_ ∧ _ ∧ _ ∧ _) := ⟨hZ1, hZ2, hB0, hs0⟩
  have HR0 : Hid (Rws w0 [(w.heap.size + 1, b), (w.heap.size, a)]) := hR0
  clear hR0 hZ1 hZ2 hB0 hs0
  refine region_law (by kernel_rfl) [.quiet (N a), .call (H12 a), .quiet (N b), .call (H12 b), .made zero12 66, .made zero12 66, .laid 4 zero12 (cells12 a), .laid 5 zero12 (cells12 b)] (fun w' => Rws w' [(w.heap.size + 1, b), (w.heap.size, a)]) ?F1 (fun γ => ?hF) (by kernel_rfl) ?hL ?hS ?ho ?he
  case hF =>
    simp only [fill, Kind.val, Act.put, List.setIfInBounds_toArray, List.set_cons_zero, List.set_cons_succ]
    exact rfl
  case hL => exact ⟨⟨_, rfl⟩, ⟨_, rfl⟩, trivial⟩
  case hS => exact fun w' hb => Rws.below HR0.out hb
  case ho =>
    refine AllOk.cons ?_ ?_
    · exact fun γ => ⟨rfl, fun w' h => exec_load6 h (by simp) rfl rfl⟩
    refine AllOk.cons ?_ ?_
    · exact fun γ => ⟨rfl, fun w' h => ⟨53, #[N a], exec_call rfl call53 rfl (by simp only [List.map_toArray, List.map_cons, List.map_nil]; rfl), CX.out w'⟩⟩
    refine AllOk.cons ?_ ?_
    · exact fun γ => ⟨rfl, fun w' h => exec_load6 h (by simp) rfl rfl⟩
    refine AllOk.cons ?_ ?_
    · exact fun γ => ⟨rfl, fun w' h => ⟨53, #[N b], exec_call rfl call53 rfl (by simp only [List.map_toArray, List.map_cons, List.map_nil]; rfl), CY.out w'⟩⟩
    refine AllOk.cons ?_ ?_
    · exact fun γ => ⟨rfl, fun w' => exec_made12 rfl⟩
    refine AllOk.cons ?_ ?_
    · exact fun γ => ⟨rfl, fun w' => exec_made12 rfl⟩
    refine AllOk.cons ?_ ?_
    · exact fun γ => ⟨rfl, rfl, rfl, fun w' h => exec_laid12 h rfl rfl rfl⟩
    refine AllOk.cons ?_ ?_
    · exact fun γ => ⟨rfl, rfl, rfl, fun w' h => exec_laid12 h rfl rfl rfl⟩
    exact trivial
  case he =>
    intro γ w1 l hM hl
    obtain ⟨hx, hx2⟩ := hM.full 6 4 _ _ rfl (hl 6 (by decide))
    obtain ⟨hy, hy2⟩ := hM.full 7 5 _ _ rfl (hl 7 (by decide))
    have hx1 := (hM.made 4 _ _ rfl (hl 4 (by decide))).1
    have hy1 := (hM.made 5 _ _ rfl (hl 5 (by decide))).1
    have hxr := hx.row12
    have hyr := hy.row12
    obtain ⟨hZ1, hZ2, hB0, hs0⟩ := H0.out
    have hz1 := Row.below hM.below hZ1 (by omega)
    have hz2 := Row.below hM.below hZ2 (by omega)
    have hb := hB0.trans (hM.below.mono hB0.size)
    rw [hs0] at hx1 hy1
    clear hM hl l hx hy HR0 H0 hZ1 hZ2 hB0 hs0 CX CY
    generalize γ 4 = gx at hxr hx1 hx2 ⊢
    generalize γ 5 = gy at hyr hy1 hy2 ⊢
    clear γ w0
    have HM0 : Hid (MM w (w1.alloc (.cells #[.int .u64 0, .int .u64 0, .int .u64 0, .int .u64 0, .int .u64 0, .int .u64 0, .int .u64 0, .int .u64 0, .int .u64 0, .int .u64 0, .int .u64 0, .int .u64 0, .int .u64 0, .int .u64 0, .int .u64 0, .int .u64 0, .int .u64 0, .int .u64 0, .int .u64 0, .int .u64 0, .int .u64 0, .int .u64 0, .int .u64 0, .int .u64 0] 68)) gx gy w1.heap.size a b (hfd ((a % 2 ^ (32 * 0)) * b))) :=
      ⟨hz1.alloc (by omega) _, hz2.alloc (by omega) _, hxr.alloc hx2 _, hyr.alloc hy2 _, (Row.new w1 _ 68 rfl (f := fun _ => 0) (twenty_four_zero rfl)).congr (fun j _ => by rw [Nat.mul_zero, Nat.pow_zero, Nat.mod_one, Nat.zero_mul]; unfold hfd; rw [Nat.zero_div]; rfl), ⟨by omega, hx2⟩, ⟨by omega, hy2⟩, by simp, hb.alloc hb.size _⟩
    clear hz1 hz2 hxr hyr hb hx1 hx2 hy1 hy2
    go_wp2_with fail
    go_loopw [9] (fun i wr => ∃ k : Nat, k ≤ 12 ∧ i = .int .i64 k ∧ MM w wr gx gy w1.heap.size a b (hfd ((a % 2 ^ (32 * k)) * b))) (fun i _ => 12 - (RowKit.intOf i).toNat)
    case atStart => exact ⟨0, by omega, rfl, HM0.out⟩
    case round =>
      clear HM0
      obtain ⟨i, hi, rfl, hM⟩ := hrel
      by_cases hlt : i < 12
      · have HM : Hid _ := hM
        clear hM
        have hd : decide ((i : Int) < 12) = true := by simp; omega
        go_wp2
        go_loopw [10, 11] (fun c jv wq => ∃ j : Nat, j ≤ 12 ∧ jv = .int .i64 j ∧ c = .int .u64 (mch a b i j) ∧ MM w wq gx gy w1.heap.size a b (pmh ((a % 2 ^ (32 * i)) * b) (smh a b i j) (i + j))) (fun _ j _ => 12 - (RowKit.intOf j).toNat)
        case atStart => exact ⟨0, by omega, rfl, by rw [Hmc_zero], HM.out.congr (fun m _ => (Hpm_start a b i m).symm)⟩
        case round =>
          obtain ⟨j, hj, rfl, rfl, hQ⟩ := hrel
          by_cases hjl : j < 12
          · have hA1 := (hQ.rx i hlt).1
            have hB1 := (hQ.ry j hjl).1
            obtain ⟨hP1, hP2⟩ := hQ.rp (i + j) (by omega)
            have ep : pmh ((a % 2 ^ (32 * i)) * b) (smh a b i j) (i + j) (i + j) = hfd ((a % 2 ^ (32 * i)) * b) (i + j) := by unfold pmh; rw [if_neg (by omega)]
            rw [ep] at hP1
            clear ep
            have HQ : Hid _ := hQ
            clear hQ HM
            obtain ⟨X, Y, T, m1, m2, m3, m4, m5⟩ := mul_t (hfd a i) (hfd b j) (hfd ((a % 2 ^ (32 * i)) * b) (i + j)) (mch a b i j) (half_bd _ _).1 (half_bd _ _).2 (half_bd _ _).1 (half_bd _ _).2 (half_bd _ _).1 (half_bd _ _).2 (Hmc_bd _ _ _ _).1 (Hmc_bd _ _ _ _).2
            rw [Hmul_lo] at m4
            rw [Hmul_hi] at m5
            have et : ((i : Int) + (j : Int)).toNat = i + j := by omega
            have e0 : (0 : Int) ≤ (i : Int) + (j : Int) := by omega
            have e1 : (i : Int) + (j : Int) < 24 := by omega
            have ew : IntKind.i64.wrap ((i : Int) + (j : Int)) = (i : Int) + (j : Int) := by rw [IntKind.wrap_i64]; omega
            go_wp2
            go_region
            go_wp2
            go_roundw
            case rel =>
              exact ⟨j + 1, by omega, by go_num, rfl, (HQ.out.drew.store (i + j) _).congr (fun m _ => Hpm_step a b i j m)⟩
            case measure => simp [RowKit.intOf]; omega
          · have hj6 : j = 12 := by omega
            subst hj6
            obtain ⟨hP1, hP2⟩ := hQ.rp (i + 12) (by omega)
            have HQ : Hid _ := hQ
            clear hQ HM
            have et : ((i : Int) + 12).toNat = i + 12 := by omega
            have e0 : (0 : Int) ≤ (i : Int) + 12 := by omega
            have e1 : (i : Int) + 12 < 24 := by omega
            have ew : IntKind.i64.wrap ((i : Int) + 12) = (i : Int) + 12 := by rw [IntKind.wrap_i64]; omega
            rw [show ((12 : Nat) : Int) = 12 from rfl]
            go_wp2
            go_roundw
            case rel => exact ⟨i + 1, by omega, by go_num, (HQ.out.store (i + 12) _).congr (fun m _ => Hpm_end a b i m HB.out)⟩
            case measure => simp [RowKit.intOf]; omega
      · have hi6 : i = 12 := by omega
        subst hi6
        obtain ⟨wr0, hwr0⟩ : ∃ x : World, x = wr := ⟨wr, rfl⟩
        subst hwr0
        have hM2 : MM w wr0 gx gy w1.heap.size a b (hfd (a * b)) := by
          rw [← big_half, Nat.mod_eq_of_lt HA.out] at hM
          exact hM
        clear hM
        have HM : Hid _ := hM2
        clear hM2
        generalize w1.heap.size = gp at HM ⊢
        rw [show ((12 : Nat) : Int) = 12 from rfl]
        go_wp2
        go_loopw [15] (fun i wq => ∃ k : Nat, k ≤ 6 ∧ i = .int .i64 k ∧ Row wq (w.heap.size + 1 + 1) 6 (fun _ => 0) ∧ Row wq (w.heap.size + 1 + 1 + 1) 6 (fun _ => 0) ∧ Row wq gp 24 (hfd (a * b)) ∧ Row wq wr0.heap.size 6 (part (a * b) k) ∧ Row wq (wr0.heap.size + 1) 6 (part (a * b / big) k) ∧ Below w.heap.size w wq) (fun i _ => 6 - (RowKit.intOf i).toNat)
        case atStart =>
          have h := HM.out
          have h1 := h.o1
          have h2 := h.sz
          refine ⟨0, by omega, rfl, ?_, ?_, ?_, ?_, ?_, ?_⟩
          · exact (h.rl.alloc (by omega) _).alloc (by simp; omega) _
          · exact (h.rh.alloc (by omega) _).alloc (by simp; omega) _
          · exact (h.rp.alloc h2 _).alloc (by simp; omega) _
          · exact (Row.new _ _ 24 rfl (six_lt (f := part (a * b) 0) rfl)).alloc (by simp) _
          · exact Row.new _ _ 24 (by simp) (six_lt (f := part (a * b / big) 0) rfl)
          · exact (h.bl.alloc h.bl.size _).alloc (by simp; have := h.bl.size; omega) _
        case round =>
          have ho1 := HM.out.o1
          have ho2 := HM.out.sz
          clear HM
          obtain ⟨k, hk, rfl, h1, h2, h3, h4, h5, h6⟩ := hrel
          by_cases hlt2 : k < 6
          · obtain ⟨p1, _⟩ := h3 (2 * k) (by omega)
            obtain ⟨p2, _⟩ := h3 (2 * k + 1) (by omega)
            obtain ⟨p3, _⟩ := h3 (2 * k + 12) (by omega)
            obtain ⟨p4, _⟩ := h3 (2 * k + 13) (by omega)
            obtain ⟨q1, q2⟩ := h4 k hlt2
            obtain ⟨q3, q4⟩ := h5 k hlt2
            have HR : Hid (_ ∧ _ ∧ _ ∧ _ ∧ _ ∧ _) := ⟨h1, h2, h3, h4, h5, h6⟩
            have HO : Hid (_ ∧ _) := ⟨ho1, ho2⟩
            clear h1 h2 h3 h4 h5 h6 ho1 ho2
            have j1 := half_join (a * b) k
            have j2 := half_join_hi (a * b) k
            have e0 : IntKind.i64.wrap (2 * (k : Int)) = 2 * (k : Int) := by rw [IntKind.wrap_i64]; omega
            have e1 : IntKind.i64.wrap (2 * (k : Int) + 1) = 2 * (k : Int) + 1 := by rw [IntKind.wrap_i64]; omega
            have e2 : IntKind.i64.wrap (2 * (k : Int) + 12) = 2 * (k : Int) + 12 := by rw [IntKind.wrap_i64]; omega
            have e3 : IntKind.i64.wrap (2 * (k : Int) + 13) = 2 * (k : Int) + 13 := by rw [IntKind.wrap_i64]; omega
            have t0 : (2 * (k : Int)).toNat = 2 * k := by omega
            have t1 : (2 * (k : Int) + 1).toNat = 2 * k + 1 := by omega
            have t2 : (2 * (k : Int) + 12).toNat = 2 * k + 12 := by omega
            have t3 : (2 * (k : Int) + 13).toNat = 2 * k + 13 := by omega
            have b0 : (0 : Int) ≤ 2 * (k : Int) := by omega
            have b1 : 2 * (k : Int) < 24 := by omega
            have b2 : (0 : Int) ≤ 2 * (k : Int) + 1 := by omega
            have b3 : 2 * (k : Int) + 1 < 24 := by omega
            have b4 : (0 : Int) ≤ 2 * (k : Int) + 12 := by omega
            have b5 : 2 * (k : Int) + 12 < 24 := by omega
            have b6 : (0 : Int) ≤ 2 * (k : Int) + 13 := by omega
            have b7 : 2 * (k : Int) + 13 < 24 := by omega
            have n1 : gp ≠ wr0.heap.size := by have := HO.out; omega
            have n2 : wr0.heap.size ≠ gp := by have := HO.out; omega
            go_wp2
            go_region
            go_wp2
            go_region
            go_wp2
            go_roundw
            case rel =>
              obtain ⟨h1, h2, h3, h4, h5, h6⟩ := HR.out
              have ho := HO.out
              refine ⟨k + 1, by omega, by go_num, ?_, ?_, ?_, ?_, ?_, ?_⟩
              · exact ((h1.set_other _ (by simp <;> omega)).drew.set_other _ (by simp <;> omega)).drew
              · exact ((h2.set_other _ (by simp <;> omega)).drew.set_other _ (by simp <;> omega)).drew
              · exact ((h3.set_other _ (by simp <;> omega)).drew.set_other _ (by simp <;> omega)).drew
              · exact (((h4.set _).congr (fun j _ => part_step rfl j)).drew.set_other _ (by simp <;> omega)).drew
              · exact (((h5.set_other _ (by simp <;> omega)).drew.set _).congr (fun j _ => part_step rfl j)).drew
              · exact ((h6.setCell (by simp <;> omega) _).drew.setCell (by simp <;> omega) _).drew
            case measure => simp [RowKit.intOf]; omega
          · have hk6 : k = 6 := by omega
            subst hk6
            obtain ⟨s0, s1, s2, s3, s4, s5⟩ := (h4.congr (f' := wd (a * b % big)) (fun j hj => by rw [part_lt hj, wd_mod _ _ hj])).reads
            obtain ⟨t0, t1, t2, t3, t4, t5⟩ := (h5.congr (f' := wd (a * b / big)) (fun j hj => by rw [part_lt hj])).reads
            obtain ⟨z0, z1, z2, z3, z4, z5⟩ := h1.writes
            obtain ⟨y0, y1, y2, y3, y4, y5⟩ := h1.reads
            obtain ⟨v0, v1, v2, v3, v4, v5⟩ := h2.writes
            obtain ⟨x0, x1, x2, x3, x4, x5⟩ := h2.reads
            have n1 : w.heap.size + 1 + 1 ≠ wr0.heap.size := by omega
            have n2 : w.heap.size + 1 + 1 ≠ wr0.heap.size + 1 := by omega
            clear h1 h2 h3 h4 h5
            rw [show ((6 : Nat) : Int) = 6 from rfl]
            go_wp2
            go_region
            go_wp2
            refine bodyPost_ret (v := .tuple #[N (a * b % big), N (a * b / big)]) ?_ rfl ⟨rfl, ?_⟩
            · simp [results, Tryd.results40, go_sem, *]
            · exact (below6 (below6 h6 (by omega) _ _ _ _ _ _) (by omega) _ _ _ _ _ _).drew
end Go.Proofs.YtfmjfgkgoenhnaaDoor
end
section
namespace Go.Proofs.YtfmjfgkgoenhnaaDoor
open Go.RowKit
namespace Rg
theorem rreduce_any {n a : Nat} (ok : Ok n) (ha : a < big) (w : World) : Calls Tryd.prog 8 #[N n, N a] w fun e w' => e = .returned (N (a % n)) ∧ Below w.heap.size w w' :=
  rreduce_gen n a (a / n) (a % n) (fun w => divide_ref_some a n ha ok.big (by have := ok.pos; omega) w) w
theorem radd_any {n a b : Nat} (ok : Ok n) (ha : a < big) (hb : b < big) (w : World) : Calls Tryd.prog 12 #[N n, N a, N b] w fun e w' => e = .returned (N ((a + b) % n)) ∧ Below w.heap.size w w' := by
  have h1 := Nat.mod_lt a ok.pos
  have h2 := Nat.mod_lt b ok.pos
  have h3 := ok.top
  have c2 := fun w => add_ref (a % n) (b % n) (okLt ok a) (okLt ok b) w
  rw [decide_eq_false (by omega), Nat.mod_eq_of_lt (show a % n + b % n < big by omega)] at c2
  have c3 := fun w => rreduce_any ok (show a % n + b % n < big by omega) w
  rw [← Nat.add_mod] at c3
  exact radd_gen n a b _ _ _ _ (fun w => rreduce_any ok ha w) (fun w => rreduce_any ok hb w) c2 c3 w
theorem rneg_any {n a : Nat} (ok : Ok n) (ha : a < big) (w : World) : Calls Tryd.prog 16 #[N n, N a] w fun e w' => e = .returned (N (subm n 0 a)) ∧ Below w.heap.size w w' := by
  have h1 := Nat.mod_lt a ok.pos
  have hn := ok.big
  have c2 := fun w => sub_ref n (a % n) hn (okLt ok a) w
  rw [decide_eq_false (by omega), show n + big - a % n = n - a % n + big by omega, Nat.add_mod_right, Nat.mod_eq_of_lt (show n - a % n < big by omega)] at c2
  have c3 := fun w => rreduce_any ok (show n - a % n < big by omega) w
  have e : (n - a % n) % n = subm n 0 a := by unfold subm; rw [Nat.zero_add]
  rw [e] at c3
  exact rneg_gen n a _ _ _ (fun w => rreduce_any ok ha w) c2 c3 w
theorem rsub_any {n a b : Nat} (ok : Ok n) (ha : a < big) (hb : b < big) (w : World) : Calls Tryd.prog 14 #[N n, N a, N b] w fun e w' => e = .returned (N (subm n a b)) ∧ Below w.heap.size w w' := by
  have hn := ok.big
  have c := fun w => radd_any ok ha (Nat.lt_trans (subm_lt_n ok.pos 0 b) hn) w
  have e : (a + subm n 0 b) % n = subm n a b := by unfold subm; rw [Nat.zero_add, Nat.add_mod_mod]
  rw [e] at c
  exact rsub_gen n a b _ _ (fun w => rneg_any ok hb w) c w
theorem rmul_any {n a b : Nat} (ok : Ok n) (ha : a < big) (hb : b < big) (w : World) : Calls Tryd.prog 18 #[N n, N a, N b] w fun e w' => e = .returned (N (a * b % n)) ∧ Below w.heap.size w w' := by
  have hd : a * b / big < big := Nat.div_lt_of_lt_mul (Nat.mul_lt_mul'' ha hb)
  have c := fun w => rwide_any ok (Nat.mod_lt (a * b) big_pos) hd w
  rw [Nat.mul_comm (a * b / big) big, Nat.mod_add_div] at c
  exact rmul_gen n a b _ _ _ (fun w => mul_ref a b ha hb w) c w
theorem rpow_any {n a e : Nat} (ok : Ok n) (ha : a < big) (he : e < big) (w : World) : Calls Tryd.prog 22 #[N n, N a, N e] w fun r w' => r = .returned (N (a ^ e % n)) ∧ Below w.heap.size w w' := by
  have hl : bl e ≤ 384 := by
    obtain ⟨m, hm, h⟩ := big_pow
    rw [h] at he
    have := bl_le_of e _ he
    omega
  have h := rpow_gen n a e 1 (1 % n) (bl e) rfl hl (fun k => a ^ (e / 2 ^ k) % n) (fun k => a ^ (2 * (e / 2 ^ (k + 1))) % n) (fun k => bitv e k) ?_ (bit_cases e) (fun k hk => ?_) (fun w => rreduce_any ok (small_big 1 (by decide)) w) (fun w => len_ref e he w) (fun k w => ?_) (fun k w hk => ?_) (fun k hk w => ?_) w
  · rw [Nat.pow_zero, Nat.div_one] at h
    exact h
  · simp only [Nat.div_eq_of_lt (bl_lt e), Nat.pow_zero]
  · have h2 : e / 2 ^ k % 2 = 0 := by unfold bitv at hk; omega
    have h3 := half_step e k
    rw [h2, Nat.add_zero] at h3
    simp only [← h3]
  · have h := rmul_any ok (okLt ok (a ^ (e / 2 ^ (k + 1)))) (okLt ok (a ^ (e / 2 ^ (k + 1)))) w
    rw [← Nat.mul_mod, ← Nat.pow_add, ← Nat.two_mul] at h
    exact h
  · have h := bit_ref_in e k (by omega) w
    rw [show (((k + 1 : Nat) : Int) - 1) = ((k : Nat) : Int) by omega]
    exact h
  · have h := rmul_any ok (okLt ok (a ^ (2 * (e / 2 ^ (k + 1))))) ha w
    have h2 : e / 2 ^ k % 2 = 1 := by unfold bitv at hk; omega
    have h3 := half_step e k
    rw [h2] at h3
    have h4 : a ^ (2 * (e / 2 ^ (k + 1))) * a = a ^ (e / 2 ^ k) := by rw [h3]; exact (Nat.pow_succ ..).symm
    rw [Nat.mod_mul_mod, h4] at h
    exact h
theorem rinv_none {n a : Nat} (ok : Ok n) (ha : a < big) (hg : Nat.gcd n a ≠ 1) (w : World) : Calls Tryd.prog 20 #[N n, N a] w fun e w' => e = .returned (.tuple #[N 0, .int .i64 6]) ∧ Below w.heap.size w w' :=
  rinv_bad (n := n) (a := a) ok (a % n) 0 1 rfl rfl rfl hg (fun w => rreduce_any ok ha w) (fun r s hr hs h0 w => divide_ref_some r s (Nat.lt_of_le_of_lt hr ok.big) (Nat.lt_of_le_of_lt hs ok.big) h0 w) (fun _ _ hp hq w => rmul_any ok (Nat.lt_of_le_of_lt hp ok.big) (Nat.lt_of_le_of_lt hq ok.big) w) (fun _ _ hp hq w => rsub_any ok (Nat.lt_of_le_of_lt hp ok.big) (Nat.lt_of_le_of_lt hq ok.big) w) w
theorem rinv_some {n a : Nat} (ok : Ok n) (ha : a < big) (hg : Nat.gcd n a = 1) (w : World) :
    Calls Tryd.prog 20 #[N n, N a] w fun e w' => e = .returned (.tuple #[N (invm n a), .int .i64 0]) ∧ Below w.heap.size w w' := by
  refine (rinv_good (n := n) (a := a) ok (a % n) 0 1 rfl rfl rfl hg (fun w => rreduce_any ok ha w) (fun r s hr hs h0 w => divide_ref_some r s (Nat.lt_of_le_of_lt hr ok.big) (Nat.lt_of_le_of_lt hs ok.big) h0 w) (fun _ _ hp hq w => rmul_any ok (Nat.lt_of_le_of_lt hp ok.big) (Nat.lt_of_le_of_lt hq ok.big) w) (fun _ _ hp hq w => rsub_any ok (Nat.lt_of_le_of_lt hp ok.big) (Nat.lt_of_le_of_lt hq ok.big) w) w).mono ?_
  rintro e w' ⟨x, he, h1, h2, hb⟩
  rw [invm_eq h1 h2]
  exact ⟨he, hb⟩
end Rg
end Go.Proofs.YtfmjfgkgoenhnaaDoor
end
section
namespace Go.Proofs.YtfmjfgkgoenhnaaDoor
open Go.RowKit
namespace Rg
theorem ex_buildx {ρ : Operand → Value} {o : Oper} {x : Operand} {c : Nat} {w : World} (hc : c < 18446744073709551616) (ho : o.op = .build 24 #[(0, x)]) (hx : ρ x = .int .u64 ((c : Nat) : Int)) : (execOp ρ o).run Tryd.prog w = .ok (.value (N c)) w := by
  have h1 : wd c 1 = 0 := wd_small c 0 hc
  have h2 : wd c 2 = 0 := wd_small c 1 hc
  have h3 : wd c 3 = 0 := wd_small c 2 hc
  have h4 : wd c 4 = 0 := wd_small c 3 hc
  have h5 : wd c 5 = 0 := wd_small c 4 hc
  have h0 : wd c 0 = c := wd_small0 c hc
  unfold N
  rw [h0, h1, h2, h3, h4, h5]
  simp only [execOp, ho]
  clear h0 h1 h2 h3 h4 h5
  go_simp
set_option maxRecDepth 100000 in
theorem may_1 (n : Nat) (ho : bits BinOp.and IntKind.u64 (wd n 0) 1 = 0) (w : World) :
    Calls Tryd.prog 5 #[N n] w fun e w' => e = .returned (.bool false) ∧ Below w.heap.size w w' := by
  have H0 : Hid (_ ∧ _) := ⟨Mm.nil w, Below.refl w.heap.size w⟩
  go_enter Tryd.func5, Tryd.ntmps5
  refine wp_seq ?_
  refine walk_seq 2 [.made (cells6 n) 24, .quiet (.bool false)] (fun w' => Mm w' []) ?pre1 ?F1 ?hpre1 (fun γ => ?hF1) (by kernel_rfl) ?hL1 ?hS1 ?ho1 ?he1
  case hpre1 =>
    simp only [List.take_succ_cons, List.take_zero]
    exact rfl
  case hF1 =>
    simp only [fill, Kind.val, Act.put, List.setIfInBounds_toArray, List.set_cons_zero, List.set_cons_succ]
    exact rfl
  case hL1 => exact trivial
  case hS1 => exact fun w' hb => H0.out.1.below hb
  case ho1 =>
    refine AllOk.cons ?_ ?_
    · exact fun γ => ⟨rfl, fun w' => ex_box6 rfl rfl⟩
    refine AllOk.cons ?_ ?_
    · exact fun γ => ⟨rfl, fun w' _ => rfl⟩
    exact trivial
  intro γ w1 l hM hl
  have M1 : Mm w1 [(γ 0, cells6 n)] := H0.out.1.grow hM (Nat.le_refl _) hl [0] rfl (by decide)
  have B1 : Below w.heap.size w w1 := H0.out.2.trans (hM.below.mono H0.out.2.size)
  have o1_0 : Hid (w.heap.size ≤ γ 0) := Nat.le_trans H0.out.2.size (hM.fin (Nat.le_refl _) hl (i := 0) rfl).2.1
  clear hM hl l
  generalize γ 0 = γ1_0 at M1 o1_0 ⊢
  clear γ
  have H1 : Hid (_ ∧ _) := ⟨M1, B1⟩
  clear M1 B1
  refine rest_at (l := []) rfl ?_
  refine rest_nil ?_
  refine then_normal ?_
  refine wp_seq ?_
  refine walk_seq 16 [.quiet (PT γ1_0 0), .quiet (.int .u64 (wd n 0)), .quiet (.int .u64 0), .quiet (.bool false), .quiet (.bool false), .gone, .gone, .gone, .quiet (.bool false), .quiet (.bool false), .gone, .gone, .gone, .gone, .quiet (.bool false), .quiet (.bool false)] (fun w' => Mm w' [(γ1_0, cells6 n)]) ?pre2 ?F2 ?hpre2 (fun γ => ?hF2) (by kernel_rfl) ?hL2 ?hS2 ?ho2 ?he2
  case hpre2 =>
    simp only [List.take_succ_cons, List.take_zero]
    exact rfl
  case hF2 =>
    simp only [fill, Kind.val, Act.put, List.setIfInBounds_toArray, List.set_cons_zero, List.set_cons_succ]
    exact rfl
  case hL2 => exact trivial
  case hS2 => exact fun w' hb => H1.out.1.below hb
  case ho2 =>
    refine AllOk.cons ?_ ?_
    · (refine fun γ => ⟨rfl, fun w' h => ?_⟩; clear h; go_simp)
    refine AllOk.cons ?_ ?_
    · exact fun γ => ⟨rfl, fun w' h => ex_load1 h 0 rfl rfl rfl rfl⟩
    refine AllOk.cons ?_ ?_
    · (refine fun γ => ⟨rfl, fun w' h => ?_⟩; clear h; go_simp)
    refine AllOk.cons ?_ ?_
    · (refine fun γ => ⟨rfl, fun w' h => ?_⟩; clear h; go_simp)
    refine AllOk.cons ?_ ?_
    · exact fun γ => ⟨rfl, fun w' _ => rfl⟩
    refine AllOk.cons ?_ ?_
    · exact fun γ => rfl
    refine AllOk.cons ?_ ?_
    · exact fun γ => rfl
    refine AllOk.cons ?_ ?_
    · exact fun γ => rfl
    refine AllOk.cons ?_ ?_
    · (refine fun γ => ⟨rfl, fun w' h => ?_⟩; clear h; go_simp)
    refine AllOk.cons ?_ ?_
    · exact fun γ => ⟨rfl, fun w' _ => rfl⟩
    refine AllOk.cons ?_ ?_
    · exact fun γ => rfl
    refine AllOk.cons ?_ ?_
    · exact fun γ => rfl
    refine AllOk.cons ?_ ?_
    · exact fun γ => rfl
    refine AllOk.cons ?_ ?_
    · exact fun γ => rfl
    refine AllOk.cons ?_ ?_
    · (refine fun γ => ⟨rfl, fun w' h => ?_⟩; clear h; go_simp)
    refine AllOk.cons ?_ ?_
    · exact fun γ => ⟨rfl, fun w' _ => rfl⟩
    exact trivial
  intro γ w2 l hM hl
  have M2 : Mm w2 [(γ1_0, cells6 n)] := H1.out.1.grow hM (Nat.le_refl _) hl [] rfl (by decide)
  have B2 : Below w.heap.size w w2 := H1.out.2.trans (hM.below.mono H1.out.2.size)
  clear hM hl l H1
  clear γ
  have H2 : Hid (_ ∧ _) := ⟨M2, B2⟩
  clear M2 B2
  refine rest_at (l := []) rfl ?_
  refine rest_nil ?_
  refine then_normal ?_
  refine wp_ret ?_
  repeat (first | refine then_ret ?_ | refine block_ret ?_)
  refine bodyPost_ret (v := .bool false) (by simp [results, Tryd.results5, go_sem, *]) rfl ?_
  exact ⟨rfl, H2.out.2⟩
set_option maxRecDepth 100000 in
theorem may_2 (n : Nat) (L : Int) (ho : bits BinOp.and IntKind.u64 (wd n 0) 1 = 1) (hL : ¬ L ≤ 382)
    (c37 : ∀ w, Calls Tryd.prog 27 #[N n] w fun e w' => e = .returned (.int .i64 L) ∧ Below w.heap.size w w') (w : World) :
    Calls Tryd.prog 5 #[N n] w fun e w' => e = .returned (.bool false) ∧ Below w.heap.size w w' := by
  have H0 : Hid (_ ∧ _) := ⟨Mm.nil w, Below.refl w.heap.size w⟩
  have C37 : Hid _ := c37
  clear c37
  go_enter Tryd.func5, Tryd.ntmps5
  refine wp_seq ?_
  refine walk_seq 2 [.made (cells6 n) 24, .quiet (.bool false)] (fun w' => Mm w' []) ?pre1 ?F1 ?hpre1 (fun γ => ?hF1) (by kernel_rfl) ?hL1 ?hS1 ?ho1 ?he1
  case hpre1 =>
    simp only [List.take_succ_cons, List.take_zero]
    exact rfl
  case hF1 =>
    simp only [fill, Kind.val, Act.put, List.setIfInBounds_toArray, List.set_cons_zero, List.set_cons_succ]
    exact rfl
  case hL1 => exact trivial
  case hS1 => exact fun w' hb => H0.out.1.below hb
  case ho1 =>
    refine AllOk.cons ?_ ?_
    · exact fun γ => ⟨rfl, fun w' => ex_box6 rfl rfl⟩
    refine AllOk.cons ?_ ?_
    · exact fun γ => ⟨rfl, fun w' _ => rfl⟩
    exact trivial
  intro γ w1 l hM hl
  have M1 : Mm w1 [(γ 0, cells6 n)] := H0.out.1.grow hM (Nat.le_refl _) hl [0] rfl (by decide)
  have B1 : Below w.heap.size w w1 := H0.out.2.trans (hM.below.mono H0.out.2.size)
  have o1_0 : Hid (w.heap.size ≤ γ 0) := Nat.le_trans H0.out.2.size (hM.fin (Nat.le_refl _) hl (i := 0) rfl).2.1
  clear hM hl l
  generalize γ 0 = γ1_0 at M1 o1_0 ⊢
  clear γ
  have H1 : Hid (_ ∧ _) := ⟨M1, B1⟩
  clear M1 B1
  refine rest_at (l := []) rfl ?_
  refine rest_nil ?_
  refine then_normal ?_
  refine wp_seq ?_
  refine walk_seq 16 [.quiet (PT γ1_0 0), .quiet (.int .u64 (wd n 0)), .quiet (.int .u64 1), .quiet (.bool true), .quiet (.bool true), .quiet (N n), .call (.int .i64 L), .quiet (.bool false), .quiet (.bool false), .quiet (.bool false), .gone, .gone, .gone, .gone, .quiet (.bool false), .quiet (.bool false)] (fun w' => Mm w' [(γ1_0, cells6 n)]) ?pre2 ?F2 ?hpre2 (fun γ => ?hF2) (by kernel_rfl) ?hL2 ?hS2 ?ho2 ?he2
  case hpre2 =>
    simp only [List.take_succ_cons, List.take_zero]
    exact rfl
  case hF2 =>
    simp only [fill, Kind.val, Act.put, List.setIfInBounds_toArray, List.set_cons_zero, List.set_cons_succ]
    exact rfl
  case hL2 => exact trivial
  case hS2 => exact fun w' hb => H1.out.1.below hb
  case ho2 =>
    refine AllOk.cons ?_ ?_
    · (refine fun γ => ⟨rfl, fun w' h => ?_⟩; clear h; go_simp)
    refine AllOk.cons ?_ ?_
    · exact fun γ => ⟨rfl, fun w' h => ex_load1 h 0 rfl rfl rfl rfl⟩
    refine AllOk.cons ?_ ?_
    · (refine fun γ => ⟨rfl, fun w' h => ?_⟩; clear h; go_simp)
    refine AllOk.cons ?_ ?_
    · (refine fun γ => ⟨rfl, fun w' h => ?_⟩; clear h; go_simp)
    refine AllOk.cons ?_ ?_
    · exact fun γ => ⟨rfl, fun w' _ => rfl⟩
    refine AllOk.cons ?_ ?_
    · exact fun γ => ⟨rfl, fun w' h => ex_load6 h 0 rfl rfl rfl rfl⟩
    refine AllOk.cons ?_ ?_
    · exact fun γ => ⟨rfl, fun w' h => ⟨27, #[N n], exec_call rfl call27 rfl (by simp only [List.map_toArray, List.map_cons, List.map_nil]; rfl), C37.out w'⟩⟩
    refine AllOk.cons ?_ ?_
    · (refine fun γ => ⟨rfl, fun w' h => ?_⟩; clear h; go_simp)
    refine AllOk.cons ?_ ?_
    · (refine fun γ => ⟨rfl, fun w' h => ?_⟩; clear h; go_simp)
    refine AllOk.cons ?_ ?_
    · exact fun γ => ⟨rfl, fun w' _ => rfl⟩
    refine AllOk.cons ?_ ?_
    · exact fun γ => rfl
    refine AllOk.cons ?_ ?_
    · exact fun γ => rfl
    refine AllOk.cons ?_ ?_
    · exact fun γ => rfl
    refine AllOk.cons ?_ ?_
    · exact fun γ => rfl
    refine AllOk.cons ?_ ?_
    · (refine fun γ => ⟨rfl, fun w' h => ?_⟩; clear h; go_simp)
    refine AllOk.cons ?_ ?_
    · exact fun γ => ⟨rfl, fun w' _ => rfl⟩
    exact trivial
  intro γ w2 l hM hl
  have M2 : Mm w2 [(γ1_0, cells6 n)] := H1.out.1.grow hM (Nat.le_refl _) hl [] rfl (by decide)
  have B2 : Below w.heap.size w w2 := H1.out.2.trans (hM.below.mono H1.out.2.size)
  clear hM hl l H1
  clear γ
  have H2 : Hid (_ ∧ _) := ⟨M2, B2⟩
  clear M2 B2
  refine rest_at (l := []) rfl ?_
  refine rest_nil ?_
  refine then_normal ?_
  refine wp_ret ?_
  repeat (first | refine then_ret ?_ | refine block_ret ?_)
  refine bodyPost_ret (v := .bool false) (by simp [results, Tryd.results5, go_sem, *]) rfl ?_
  exact ⟨rfl, H2.out.2⟩
set_option maxRecDepth 100000 in
theorem may_3 (n k3 : Nat) (L K : Int) (hk3 : k3 = 3) (ho : bits BinOp.and IntKind.u64 (wd n 0) 1 = 1) (hL : L ≤ 382)
    (c37 : ∀ w, Calls Tryd.prog 27 #[N n] w fun e w' => e = .returned (.int .i64 L) ∧ Below w.heap.size w w') (hK : ¬ 0 ≤ K)
    (c38 : ∀ w, Calls Tryd.prog 28 #[N n, N k3] w fun e w' => e = .returned (.int .i64 K) ∧ Below w.heap.size w w') (w : World) :
    Calls Tryd.prog 5 #[N n] w fun e w' => e = .returned (.bool false) ∧ Below w.heap.size w w' := by
  have H0 : Hid (_ ∧ _) := ⟨Mm.nil w, Below.refl w.heap.size w⟩
  have C37 : Hid _ := c37
  have C38 : Hid _ := c38
  have HK : Hid _ := hk3
  clear hk3 c37 c38
  go_enter Tryd.func5, Tryd.ntmps5
  refine wp_seq ?_
  refine walk_seq 2 [.made (cells6 n) 24, .quiet (.bool false)] (fun w' => Mm w' []) ?pre1 ?F1 ?hpre1 (fun γ => ?hF1) (by kernel_rfl) ?hL1 ?hS1 ?ho1 ?he1
  case hpre1 =>
    simp only [List.take_succ_cons, List.take_zero]
    exact rfl
  case hF1 =>
    simp only [fill, Kind.val, Act.put, List.setIfInBounds_toArray, List.set_cons_zero, List.set_cons_succ]
    exact rfl
  case hL1 => exact trivial
  case hS1 => exact fun w' hb => H0.out.1.below hb
  case ho1 =>
    refine AllOk.cons ?_ ?_
    · exact fun γ => ⟨rfl, fun w' => ex_box6 rfl rfl⟩
    refine AllOk.cons ?_ ?_
    · exact fun γ => ⟨rfl, fun w' _ => rfl⟩
    exact trivial
  intro γ w1 l hM hl
  have M1 : Mm w1 [(γ 0, cells6 n)] := H0.out.1.grow hM (Nat.le_refl _) hl [0] rfl (by decide)
  have B1 : Below w.heap.size w w1 := H0.out.2.trans (hM.below.mono H0.out.2.size)
  have o1_0 : Hid (w.heap.size ≤ γ 0) := Nat.le_trans H0.out.2.size (hM.fin (Nat.le_refl _) hl (i := 0) rfl).2.1
  clear hM hl l
  generalize γ 0 = γ1_0 at M1 o1_0 ⊢
  clear γ
  have H1 : Hid (_ ∧ _) := ⟨M1, B1⟩
  clear M1 B1
  refine rest_at (l := []) rfl ?_
  refine rest_nil ?_
  refine then_normal ?_
  refine wp_seq ?_
  refine walk_seq 16 [.quiet (PT γ1_0 0), .quiet (.int .u64 (wd n 0)), .quiet (.int .u64 1), .quiet (.bool true), .quiet (.bool true), .quiet (N n), .call (.int .i64 L), .quiet (.bool true), .quiet (.bool true), .quiet (.bool true), .quiet (N n), .quiet (N k3), .call (.int .i64 K), .quiet (.bool false), .quiet (.bool false), .quiet (.bool false)] (fun w' => Mm w' [(γ1_0, cells6 n)]) ?pre2 ?F2 ?hpre2 (fun γ => ?hF2) (by kernel_rfl) ?hL2 ?hS2 ?ho2 ?he2
  case hpre2 =>
    simp only [List.take_succ_cons, List.take_zero]
    exact rfl
  case hF2 =>
    simp only [fill, Kind.val, Act.put, List.setIfInBounds_toArray, List.set_cons_zero, List.set_cons_succ]
    exact rfl
  case hL2 => exact trivial
  case hS2 => exact fun w' hb => H1.out.1.below hb
  case ho2 =>
    refine AllOk.cons ?_ ?_
    · (refine fun γ => ⟨rfl, fun w' h => ?_⟩; clear h; go_simp)
    refine AllOk.cons ?_ ?_
    · exact fun γ => ⟨rfl, fun w' h => ex_load1 h 0 rfl rfl rfl rfl⟩
    refine AllOk.cons ?_ ?_
    · (refine fun γ => ⟨rfl, fun w' h => ?_⟩; clear h; go_simp)
    refine AllOk.cons ?_ ?_
    · (refine fun γ => ⟨rfl, fun w' h => ?_⟩; clear h; go_simp)
    refine AllOk.cons ?_ ?_
    · exact fun γ => ⟨rfl, fun w' _ => rfl⟩
    refine AllOk.cons ?_ ?_
    · exact fun γ => ⟨rfl, fun w' h => ex_load6 h 0 rfl rfl rfl rfl⟩
    refine AllOk.cons ?_ ?_
    · exact fun γ => ⟨rfl, fun w' h => ⟨27, #[N n], exec_call rfl call27 rfl (by simp only [List.map_toArray, List.map_cons, List.map_nil]; rfl), C37.out w'⟩⟩
    refine AllOk.cons ?_ ?_
    · (refine fun γ => ⟨rfl, fun w' h => ?_⟩; clear h; go_simp)
    refine AllOk.cons ?_ ?_
    · (refine fun γ => ⟨rfl, fun w' h => ?_⟩; clear h; go_simp)
    refine AllOk.cons ?_ ?_
    · exact fun γ => ⟨rfl, fun w' _ => rfl⟩
    refine AllOk.cons ?_ ?_
    · exact fun γ => ⟨rfl, fun w' h => ex_load6 h 0 rfl rfl rfl rfl⟩
    refine AllOk.cons ?_ ?_
    · exact fun γ => ⟨rfl, fun w' _ => ex_build3 HK.out rfl rfl⟩
    refine AllOk.cons ?_ ?_
    · exact fun γ => ⟨rfl, fun w' h => ⟨28, #[N n, N k3], exec_call rfl call28 rfl (by simp only [List.map_toArray, List.map_cons, List.map_nil]; rfl), C38.out w'⟩⟩
    refine AllOk.cons ?_ ?_
    · (refine fun γ => ⟨rfl, fun w' h => ?_⟩; clear h; go_simp)
    refine AllOk.cons ?_ ?_
    · (refine fun γ => ⟨rfl, fun w' h => ?_⟩; clear h; go_simp)
    refine AllOk.cons ?_ ?_
    · exact fun γ => ⟨rfl, fun w' _ => rfl⟩
    exact trivial
  intro γ w2 l hM hl
  have M2 : Mm w2 [(γ1_0, cells6 n)] := H1.out.1.grow hM (Nat.le_refl _) hl [] rfl (by decide)
  have B2 : Below w.heap.size w w2 := H1.out.2.trans (hM.below.mono H1.out.2.size)
  clear hM hl l H1
  clear γ
  have H2 : Hid (_ ∧ _) := ⟨M2, B2⟩
  clear M2 B2
  refine rest_at (l := []) rfl ?_
  refine rest_nil ?_
  refine then_normal ?_
  refine wp_ret ?_
  repeat (first | refine then_ret ?_ | refine block_ret ?_)
  refine bodyPost_ret (v := .bool false) (by simp [results, Tryd.results5, go_sem, *]) rfl ?_
  exact ⟨rfl, H2.out.2⟩
set_option maxRecDepth 100000 in
theorem may_4 (n k3 : Nat) (L K : Int) (hk3 : k3 = 3) (ho : bits BinOp.and IntKind.u64 (wd n 0) 1 = 1) (hL : L ≤ 382)
    (c37 : ∀ w, Calls Tryd.prog 27 #[N n] w fun e w' => e = .returned (.int .i64 L) ∧ Below w.heap.size w w') (hK : 0 ≤ K)
    (c38 : ∀ w, Calls Tryd.prog 28 #[N n, N k3] w fun e w' => e = .returned (.int .i64 K) ∧ Below w.heap.size w w') (w : World) :
    Calls Tryd.prog 5 #[N n] w fun e w' => e = .returned (.bool true) ∧ Below w.heap.size w w' := by
  have H0 : Hid (_ ∧ _) := ⟨Mm.nil w, Below.refl w.heap.size w⟩
  have C37 : Hid _ := c37
  have C38 : Hid _ := c38
  have HK : Hid _ := hk3
  clear hk3 c37 c38
  go_enter Tryd.func5, Tryd.ntmps5
  refine wp_seq ?_
  refine walk_seq 2 [.made (cells6 n) 24, .quiet (.bool false)] (fun w' => Mm w' []) ?pre1 ?F1 ?hpre1 (fun γ => ?hF1) (by kernel_rfl) ?hL1 ?hS1 ?ho1 ?he1
  case hpre1 =>
    simp only [List.take_succ_cons, List.take_zero]
    exact rfl
  case hF1 =>
    simp only [fill, Kind.val, Act.put, List.setIfInBounds_toArray, List.set_cons_zero, List.set_cons_succ]
    exact rfl
  case hL1 => exact trivial
  case hS1 => exact fun w' hb => H0.out.1.below hb
  case ho1 =>
    refine AllOk.cons ?_ ?_
    · exact fun γ => ⟨rfl, fun w' => ex_box6 rfl rfl⟩
    refine AllOk.cons ?_ ?_
    · exact fun γ => ⟨rfl, fun w' _ => rfl⟩
    exact trivial
  intro γ w1 l hM hl
  have M1 : Mm w1 [(γ 0, cells6 n)] := H0.out.1.grow hM (Nat.le_refl _) hl [0] rfl (by decide)
  have B1 : Below w.heap.size w w1 := H0.out.2.trans (hM.below.mono H0.out.2.size)
  have o1_0 : Hid (w.heap.size ≤ γ 0) := Nat.le_trans H0.out.2.size (hM.fin (Nat.le_refl _) hl (i := 0) rfl).2.1
  clear hM hl l
  generalize γ 0 = γ1_0 at M1 o1_0 ⊢
  clear γ
  have H1 : Hid (_ ∧ _) := ⟨M1, B1⟩
  clear M1 B1
  refine rest_at (l := []) rfl ?_
  refine rest_nil ?_
  refine then_normal ?_
  refine wp_seq ?_
  refine walk_seq 16 [.quiet (PT γ1_0 0), .quiet (.int .u64 (wd n 0)), .quiet (.int .u64 1), .quiet (.bool true), .quiet (.bool true), .quiet (N n), .call (.int .i64 L), .quiet (.bool true), .quiet (.bool true), .quiet (.bool true), .quiet (N n), .quiet (N k3), .call (.int .i64 K), .quiet (.bool true), .quiet (.bool true), .quiet (.bool true)] (fun w' => Mm w' [(γ1_0, cells6 n)]) ?pre2 ?F2 ?hpre2 (fun γ => ?hF2) (by kernel_rfl) ?hL2 ?hS2 ?ho2 ?he2
  case hpre2 =>
    simp only [List.take_succ_cons, List.take_zero]
    exact rfl
  case hF2 =>
    simp only [fill, Kind.val, Act.put, List.setIfInBounds_toArray, List.set_cons_zero, List.set_cons_succ]
    exact rfl
  case hL2 => exact trivial
  case hS2 => exact fun w' hb => H1.out.1.below hb
  case ho2 =>
    refine AllOk.cons ?_ ?_
    · (refine fun γ => ⟨rfl, fun w' h => ?_⟩; clear h; go_simp)
    refine AllOk.cons ?_ ?_
    · exact fun γ => ⟨rfl, fun w' h => ex_load1 h 0 rfl rfl rfl rfl⟩
    refine AllOk.cons ?_ ?_
    · (refine fun γ => ⟨rfl, fun w' h => ?_⟩; clear h; go_simp)
    refine AllOk.cons ?_ ?_
    · (refine fun γ => ⟨rfl, fun w' h => ?_⟩; clear h; go_simp)
    refine AllOk.cons ?_ ?_
    · exact fun γ => ⟨rfl, fun w' _ => rfl⟩
    refine AllOk.cons ?_ ?_
    · exact fun γ => ⟨rfl, fun w' h => ex_load6 h 0 rfl rfl rfl rfl⟩
    refine AllOk.cons ?_ ?_
    · exact fun γ => ⟨rfl, fun w' h => ⟨27, #[N n], exec_call rfl call27 rfl (by simp only [List.map_toArray, List.map_cons, List.map_nil]; rfl), C37.out w'⟩⟩
    refine AllOk.cons ?_ ?_
    · (refine fun γ => ⟨rfl, fun w' h => ?_⟩; clear h; go_simp)
    refine AllOk.cons ?_ ?_
    · (refine fun γ => ⟨rfl, fun w' h => ?_⟩; clear h; go_simp)
    refine AllOk.cons ?_ ?_
    · exact fun γ => ⟨rfl, fun w' _ => rfl⟩
    refine AllOk.cons ?_ ?_
    · exact fun γ => ⟨rfl, fun w' h => ex_load6 h 0 rfl rfl rfl rfl⟩
    refine AllOk.cons ?_ ?_
    · exact fun γ => ⟨rfl, fun w' _ => ex_build3 HK.out rfl rfl⟩
    refine AllOk.cons ?_ ?_
    · exact fun γ => ⟨rfl, fun w' h => ⟨28, #[N n, N k3], exec_call rfl call28 rfl (by simp only [List.map_toArray, List.map_cons, List.map_nil]; rfl), C38.out w'⟩⟩
    refine AllOk.cons ?_ ?_
    · (refine fun γ => ⟨rfl, fun w' h => ?_⟩; clear h; go_simp)
    refine AllOk.cons ?_ ?_
    · (refine fun γ => ⟨rfl, fun w' h => ?_⟩; clear h; go_simp)
    refine AllOk.cons ?_ ?_
    · exact fun γ => ⟨rfl, fun w' _ => rfl⟩
    exact trivial
  intro γ w2 l hM hl
  have M2 : Mm w2 [(γ1_0, cells6 n)] := H1.out.1.grow hM (Nat.le_refl _) hl [] rfl (by decide)
  have B2 : Below w.heap.size w w2 := H1.out.2.trans (hM.below.mono H1.out.2.size)
  clear hM hl l H1
  clear γ
  have H2 : Hid (_ ∧ _) := ⟨M2, B2⟩
  clear M2 B2
  refine rest_at (l := []) rfl ?_
  refine rest_nil ?_
  refine then_normal ?_
  refine wp_ret ?_
  repeat (first | refine then_ret ?_ | refine block_ret ?_)
  refine bodyPost_ret (v := .bool true) (by simp [results, Tryd.results5, go_sem, *]) rfl ?_
  exact ⟨rfl, H2.out.2⟩
end Rg
end Go.Proofs.YtfmjfgkgoenhnaaDoor
end
section
namespace Go.Proofs.YtfmjfgkgoenhnaaDoor
open Go.RowKit
namespace Rg
theorem call5 : ∀ args w, (callFunc 5 args).run Tryd.prog w = .ok (.enter 5 args) w := by intro args w; go_simp
theorem call6 : ∀ args w, (callFunc 6 args).run Tryd.prog w = .ok (.enter 6 args) w := by intro args w; go_simp
theorem call9 : ∀ args w, (callFunc 9 args).run Tryd.prog w = .ok (.enter 9 args) w := by intro args w; go_simp
theorem call20 : ∀ args w, (callFunc 20 args).run Tryd.prog w = .ok (.enter 20 args) w := by intro args w; go_simp
theorem call22 : ∀ args w, (callFunc 22 args).run Tryd.prog w = .ok (.enter 22 args) w := by intro args w; go_simp
set_option maxHeartbeats 4000000 in
set_option maxRecDepth 100000 in
theorem tells_bad (n a b : Nat)
    (c0 : ∀ w, Calls Tryd.prog 4 #[N n] w fun e w' => e = .returned (.tuple #[.pointer none, .int .i64 2]) ∧ Below w.heap.size w w')
    (c1 : ∀ w, Calls Tryd.prog 5 #[N n] w fun e w' => e = .returned (.bool false) ∧ Below w.heap.size w w') (w : World) (hm : Mm w [(0, dtab)]) :
    Calls Tryd.prog 3 #[N n, N a, N b] w fun e w' => e = .returned (.bool true) ∧ Below w.heap.size w w' := by
  have H0 : Hid (_ ∧ _) := ⟨hm, Below.refl w.heap.size w⟩
  clear hm
  have C0 : Hid _ := c0
  have C1 : Hid _ := c1
  clear c0 c1
  go_enter Tryd.func3, Tryd.ntmps3
  refine wp_seq ?_
  refine walk_seq 4 [.made (cells6 n) 24, .made (cells6 a) 24, .made (cells6 b) 24, .quiet (.bool false)] (fun w' => Mm w' [(0, dtab)]) ?pre1 ?F1 ?hpre1 (fun γ => ?hF1) (by kernel_rfl) ?hL1 ?hS1 ?ho1 ?he1
  case hpre1 =>
    simp only [List.take_succ_cons, List.take_zero]
    exact rfl
  case hF1 =>
    simp only [fill, Kind.val, Act.put, List.setIfInBounds_toArray, List.set_cons_zero, List.set_cons_succ]
    exact rfl
  case hL1 => exact trivial
  case hS1 => exact fun w' hb => H0.out.1.below hb
  case ho1 =>
    refine AllOk.cons ?_ ?_
    · exact fun γ => ⟨rfl, fun w' => ex_box6 rfl rfl⟩
    refine AllOk.cons ?_ ?_
    · exact fun γ => ⟨rfl, fun w' => ex_box6 rfl rfl⟩
    refine AllOk.cons ?_ ?_
    · exact fun γ => ⟨rfl, fun w' => ex_box6 rfl rfl⟩
    refine AllOk.cons ?_ ?_
    · exact fun γ => ⟨rfl, fun w' _ => rfl⟩
    exact trivial
  intro γ w1 l hM hl
  have M1 : Mm w1 [(γ 0, cells6 n), (γ 1, cells6 a), (γ 2, cells6 b), (0, dtab)] := H0.out.1.grow hM (Nat.le_refl _) hl [0, 1, 2] rfl (by decide)
  have B1 : Below w.heap.size w w1 := H0.out.2.trans (hM.below.mono H0.out.2.size)
  have o1_0 : Hid (w.heap.size ≤ γ 0) := Nat.le_trans H0.out.2.size (hM.fin (Nat.le_refl _) hl (i := 0) rfl).2.1
  have o1_1 : Hid (w.heap.size ≤ γ 1) := Nat.le_trans H0.out.2.size (hM.fin (Nat.le_refl _) hl (i := 1) rfl).2.1
  have o1_2 : Hid (w.heap.size ≤ γ 2) := Nat.le_trans H0.out.2.size (hM.fin (Nat.le_refl _) hl (i := 2) rfl).2.1
  clear hM hl l
  generalize γ 0 = γ1_0 at M1 o1_0 ⊢
  generalize γ 1 = γ1_1 at M1 o1_1 ⊢
  generalize γ 2 = γ1_2 at M1 o1_2 ⊢
  clear γ
  have H1 : Hid (_ ∧ _) := ⟨M1, B1⟩
  clear M1 B1
  refine rest_at (l := []) rfl ?_
  refine rest_nil ?_
  refine then_normal ?_
  refine wp_seq ?_
  refine walk_seq 7 [.quiet (N n), .call (.tuple #[.pointer none, .int .i64 2]), .quiet (.tuple #[.pointer none, .int .i64 2]), .quiet (.pointer none), .quiet (.int .i64 2), .quiet (.pointer none), .quiet (.int .i64 2)] (fun w' => Mm w' [(γ1_0, cells6 n), (γ1_1, cells6 a), (γ1_2, cells6 b), (0, dtab)]) ?pre2 ?F2 ?hpre2 (fun γ => ?hF2) (by kernel_rfl) ?hL2 ?hS2 ?ho2 ?he2
  case hpre2 =>
    simp only [List.take_succ_cons, List.take_zero]
    exact rfl
  case hF2 =>
    simp only [fill, Kind.val, Act.put, List.setIfInBounds_toArray, List.set_cons_zero, List.set_cons_succ]
    exact rfl
  case hL2 => exact trivial
  case hS2 => exact fun w' hb => H1.out.1.below hb
  case ho2 =>
    refine AllOk.cons ?_ ?_
    · exact fun γ => ⟨rfl, fun w' h => ex_load6 h 0 rfl rfl rfl rfl⟩
    refine AllOk.cons ?_ ?_
    · exact fun γ => ⟨rfl, fun w' h => ⟨4, #[N n], exec_call rfl call4 rfl (by simp only [List.map_toArray, List.map_cons, List.map_nil]; rfl), C0.out w'⟩⟩
    refine AllOk.cons ?_ ?_
    · exact fun γ => ⟨rfl, fun w' _ => rfl⟩
    refine AllOk.cons ?_ ?_
    · (refine fun γ => ⟨rfl, fun w' h => ?_⟩; clear h; go_simp)
    refine AllOk.cons ?_ ?_
    · (refine fun γ => ⟨rfl, fun w' h => ?_⟩; clear h; go_simp)
    refine AllOk.cons ?_ ?_
    · exact fun γ => ⟨rfl, fun w' _ => rfl⟩
    refine AllOk.cons ?_ ?_
    · exact fun γ => ⟨rfl, fun w' _ => rfl⟩
    exact trivial
  intro γ w2 l hM hl
  have M2 : Mm w2 [(γ1_0, cells6 n), (γ1_1, cells6 a), (γ1_2, cells6 b), (0, dtab)] := H1.out.1.grow hM (Nat.le_refl _) hl [] rfl (by decide)
  have B2 : Below w.heap.size w w2 := H1.out.2.trans (hM.below.mono H1.out.2.size)
  clear hM hl l H1
  clear γ
  have H2 : Hid (_ ∧ _) := ⟨M2, B2⟩
  clear M2 B2
  refine rest_at (l := []) rfl ?_
  refine rest_nil ?_
  refine then_normal ?_
  refine wp_seq ?_
  refine wp_seq ?_
  refine walk_seq 3 [.quiet (N n), .call (.bool false), .quiet (.bool true)] (fun w' => Mm w' [(γ1_0, cells6 n), (γ1_1, cells6 a), (γ1_2, cells6 b), (0, dtab)]) ?pre3 ?F3 ?hpre3 (fun γ => ?hF3) (by kernel_rfl) ?hL3 ?hS3 ?ho3 ?he3
  case hpre3 =>
    simp only [List.take_succ_cons, List.take_zero]
    exact rfl
  case hF3 =>
    simp only [fill, Kind.val, Act.put, List.setIfInBounds_toArray, List.set_cons_zero, List.set_cons_succ]
    exact rfl
  case hL3 => exact trivial
  case hS3 => exact fun w' hb => H2.out.1.below hb
  case ho3 =>
    refine AllOk.cons ?_ ?_
    · exact fun γ => ⟨rfl, fun w' h => ex_load6 h 0 rfl rfl rfl rfl⟩
    refine AllOk.cons ?_ ?_
    · exact fun γ => ⟨rfl, fun w' h => ⟨5, #[N n], exec_call rfl call5 rfl (by simp only [List.map_toArray, List.map_cons, List.map_nil]; rfl), C1.out w'⟩⟩
    refine AllOk.cons ?_ ?_
    · (refine fun γ => ⟨rfl, fun w' h => ?_⟩; clear h; go_simp)
    exact trivial
  intro γ w3 l hM hl
  have M3 : Mm w3 [(γ1_0, cells6 n), (γ1_1, cells6 a), (γ1_2, cells6 b), (0, dtab)] := H2.out.1.grow hM (Nat.le_refl _) hl [] rfl (by decide)
  have B3 : Below w.heap.size w w3 := H2.out.2.trans (hM.below.mono H2.out.2.size)
  clear hM hl l H2
  clear γ
  have H3 : Hid (_ ∧ _) := ⟨M3, B3⟩
  clear M3 B3
  refine rest_at (l := []) rfl ?_
  refine rest_nil ?_
  refine then_normal ?_
  refine wp_cond_true rfl ?_
  refine wp_seq ?_
  refine walk_seq 7 [.quiet (.pointer none), .quiet (.bool true), .quiet (.bool true), .quiet (.int .i64 2), .quiet (.bool true), .quiet (.bool true), .quiet (.bool true)] (fun w' => Mm w' [(γ1_0, cells6 n), (γ1_1, cells6 a), (γ1_2, cells6 b), (0, dtab)]) ?pre4 ?F4 ?hpre4 (fun γ => ?hF4) (by kernel_rfl) ?hL4 ?hS4 ?ho4 ?he4
  case hpre4 =>
    simp only [List.take_succ_cons, List.take_zero]
    exact rfl
  case hF4 =>
    simp only [fill, Kind.val, Act.put, List.setIfInBounds_toArray, List.set_cons_zero, List.set_cons_succ]
    exact rfl
  case hL4 => exact trivial
  case hS4 => exact fun w' hb => H3.out.1.below hb
  case ho4 =>
    refine AllOk.cons ?_ ?_
    · exact fun γ => ⟨rfl, fun w' _ => rfl⟩
    refine AllOk.cons ?_ ?_
    · (refine fun γ => ⟨rfl, fun w' h => ?_⟩; clear h; go_simp)
    refine AllOk.cons ?_ ?_
    · exact fun γ => ⟨rfl, fun w' _ => rfl⟩
    refine AllOk.cons ?_ ?_
    · exact fun γ => ⟨rfl, fun w' _ => rfl⟩
    refine AllOk.cons ?_ ?_
    · (refine fun γ => ⟨rfl, fun w' h => ?_⟩; clear h; go_simp)
    refine AllOk.cons ?_ ?_
    · (refine fun γ => ⟨rfl, fun w' h => ?_⟩; clear h; go_simp)
    refine AllOk.cons ?_ ?_
    · exact fun γ => ⟨rfl, fun w' _ => rfl⟩
    exact trivial
  intro γ w4 l hM hl
  have M4 : Mm w4 [(γ1_0, cells6 n), (γ1_1, cells6 a), (γ1_2, cells6 b), (0, dtab)] := H3.out.1.grow hM (Nat.le_refl _) hl [] rfl (by decide)
  have B4 : Below w.heap.size w w4 := H3.out.2.trans (hM.below.mono H3.out.2.size)
  clear hM hl l H3
  clear γ
  have H4 : Hid (_ ∧ _) := ⟨M4, B4⟩
  clear M4 B4
  refine rest_at (l := []) rfl ?_
  refine rest_nil ?_
  refine then_normal ?_
  refine wp_ret ?_
  repeat (first | refine then_ret ?_ | refine block_ret ?_)
  refine bodyPost_ret (v := .bool true) (by simp [results, Tryd.results3, go_sem, *]) rfl ?_
  exact ⟨rfl, H4.out.2⟩
set_option maxHeartbeats 4000000 in
set_option maxRecDepth 100000 in
theorem tells_0 (n a b sm r1 r2 r3 r4 r5 r6 r7 r8 : Nat) (hsm : sm < 18446744073709551616) (hx : bits BinOp.and IntKind.u64 (wd b 0) 1099511627775 = ((sm : Nat) : Int))
    (e_n : ∀ w, (Op.equalIn 10000 24 (N n) (N n)).run Tryd.prog w = .ok true w) (e_r1 : ∀ w, (Op.equalIn 10000 24 (N r1) (N r1)).run Tryd.prog w = .ok true w) (e_r2 : ∀ w, (Op.equalIn 10000 24 (N r2) (N r2)).run Tryd.prog w = .ok true w) (e_r3 : ∀ w, (Op.equalIn 10000 24 (N r3) (N r3)).run Tryd.prog w = .ok true w) (e_r4 : ∀ w, (Op.equalIn 10000 24 (N r4) (N r4)).run Tryd.prog w = .ok true w) (e_r5 : ∀ w, (Op.equalIn 10000 24 (N r5) (N r5)).run Tryd.prog w = .ok true w) (e_r6 : ∀ w, (Op.equalIn 10000 24 (N r6) (N r6)).run Tryd.prog w = .ok true w) (e_r7 : ∀ w, (Op.equalIn 10000 24 (N r7) (N r7)).run Tryd.prog w = .ok true w) (e_r8 : ∀ w, (Op.equalIn 10000 24 (N r8) (N r8)).run Tryd.prog w = .ok true w)
    (c0 : ∀ w, Calls Tryd.prog 4 #[N n] w fun e w' => Below w.heap.size w w' ∧ ∃ g, e = .returned (.tuple #[PT g 0, .int .i64 0]) ∧ w.heap.size ≤ g ∧ g < w'.heap.size ∧ Blk w' g (modc n))
    (c1 : ∀ w, Calls Tryd.prog 5 #[N n] w fun e w' => e = .returned (.bool true) ∧ Below w.heap.size w w')
    (c2 : ∀ g w, Mm w [(g, modc n)] → Calls Tryd.prog 6 #[PT g 0] w fun e w' => e = .returned (N n) ∧ Below w.heap.size w w')
    (c3 : ∀ g w, Mm w [(g, modc n)] → Calls Tryd.prog 7 #[PT g 0, N a] w fun e w' => e = .returned (N r1) ∧ Below w.heap.size w w')
    (c4 : ∀ w, Calls Tryd.prog 8 #[N n, N a] w fun e w' => e = .returned (N r1) ∧ Below w.heap.size w w')
    (c5 : ∀ g w, Mm w [(g, modc n)] → Calls Tryd.prog 9 #[PT g 0, N a, N b] w fun e w' => e = .returned (N r2) ∧ Below w.heap.size w w')
    (c6 : ∀ w, Calls Tryd.prog 10 #[N n, N a, N b] w fun e w' => e = .returned (N r2) ∧ Below w.heap.size w w')
    (c7 : ∀ g w, Mm w [(g, modc n)] → Calls Tryd.prog 11 #[PT g 0, N a, N b] w fun e w' => e = .returned (N r3) ∧ Below w.heap.size w w')
    (c8 : ∀ w, Calls Tryd.prog 12 #[N n, N a, N b] w fun e w' => e = .returned (N r3) ∧ Below w.heap.size w w')
    (c9 : ∀ g w, Mm w [(g, modc n)] → Calls Tryd.prog 13 #[PT g 0, N a, N b] w fun e w' => e = .returned (N r4) ∧ Below w.heap.size w w')
    (c10 : ∀ w, Calls Tryd.prog 14 #[N n, N a, N b] w fun e w' => e = .returned (N r4) ∧ Below w.heap.size w w')
    (c11 : ∀ g w, Mm w [(g, modc n)] → Calls Tryd.prog 15 #[PT g 0, N a] w fun e w' => e = .returned (N r5) ∧ Below w.heap.size w w')
    (c12 : ∀ w, Calls Tryd.prog 16 #[N n, N a] w fun e w' => e = .returned (N r5) ∧ Below w.heap.size w w')
    (c13 : ∀ g w, Mm w [(g, modc n)] → Calls Tryd.prog 17 #[PT g 0, N a, N b] w fun e w' => e = .returned (N r6) ∧ Below w.heap.size w w')
    (c14 : ∀ w, Calls Tryd.prog 18 #[N n, N a, N b] w fun e w' => e = .returned (N r6) ∧ Below w.heap.size w w')
    (c15 : ∀ g w, Mm w [(g, modc n)] → Calls Tryd.prog 21 #[PT g 0, N a, N sm] w fun e w' => e = .returned (N r7) ∧ Below w.heap.size w w')
    (c16 : ∀ w, Calls Tryd.prog 22 #[N n, N a, N sm] w fun e w' => e = .returned (N r7) ∧ Below w.heap.size w w')
    (c17 : ∀ g w, Mm w [(g, modc n), (0, dtab)] → Calls Tryd.prog 19 #[PT g 0, N a] w fun e w' => e = .returned (.tuple #[N r8, .int .i64 0]) ∧ Below w.heap.size w w')
    (c18 : ∀ w, Calls Tryd.prog 20 #[N n, N a] w fun e w' => e = .returned (.tuple #[N r8, .int .i64 0]) ∧ Below w.heap.size w w') (w : World) (hm : Mm w [(0, dtab)]) :
    Calls Tryd.prog 3 #[N n, N a, N b] w fun e w' => e = .returned (.bool true) ∧ Below w.heap.size w w' := by
  have H0 : Hid (_ ∧ _) := ⟨hm, Below.refl w.heap.size w⟩
  clear hm
  have HS : Hid _ := hsm
  clear hsm
  have C0 : Hid _ := c0
  have C1 : Hid _ := c1
  have C2 : Hid _ := c2
  have C3 : Hid _ := c3
  have C4 : Hid _ := c4
  have C5 : Hid _ := c5
  have C6 : Hid _ := c6
  have C7 : Hid _ := c7
  have C8 : Hid _ := c8
  have C9 : Hid _ := c9
  have C10 : Hid _ := c10
  have C11 : Hid _ := c11
  have C12 : Hid _ := c12
  have C13 : Hid _ := c13
  have C14 : Hid _ := c14
  have C15 : Hid _ := c15
  have C16 : Hid _ := c16
  have C17 : Hid _ := c17
  have C18 : Hid _ := c18
  clear c0 c1 c2 c3 c4 c5 c6 c7 c8 c9 c10 c11 c12 c13 c14 c15 c16 c17 c18
  go_enter Tryd.func3, Tryd.ntmps3
  refine wp_seq ?_
  refine walk_seq 4 [.made (cells6 n) 24, .made (cells6 a) 24, .made (cells6 b) 24, .quiet (.bool false)] (fun w' => Mm w' [(0, dtab)]) ?pre1 ?F1 ?hpre1 (fun γ => ?hF1) (by kernel_rfl) ?hL1 ?hS1 ?ho1 ?he1
  case hpre1 =>
    simp only [List.take_succ_cons, List.take_zero]
    exact rfl
  case hF1 =>
    simp only [fill, Kind.val, Act.put, List.setIfInBounds_toArray, List.set_cons_zero, List.set_cons_succ]
    exact rfl
  case hL1 => exact trivial
  case hS1 => exact fun w' hb => H0.out.1.below hb
  case ho1 =>
    refine AllOk.cons ?_ ?_
    · exact fun γ => ⟨rfl, fun w' => ex_box6 rfl rfl⟩
    refine AllOk.cons ?_ ?_
    · exact fun γ => ⟨rfl, fun w' => ex_box6 rfl rfl⟩
    refine AllOk.cons ?_ ?_
    · exact fun γ => ⟨rfl, fun w' => ex_box6 rfl rfl⟩
    refine AllOk.cons ?_ ?_
    · exact fun γ => ⟨rfl, fun w' _ => rfl⟩
    exact trivial
  intro γ w1 l hM hl
  have M1 : Mm w1 [(γ 0, cells6 n), (γ 1, cells6 a), (γ 2, cells6 b), (0, dtab)] := H0.out.1.grow hM (Nat.le_refl _) hl [0, 1, 2] rfl (by decide)
  have B1 : Below w.heap.size w w1 := H0.out.2.trans (hM.below.mono H0.out.2.size)
  have o1_0 : Hid (w.heap.size ≤ γ 0) := Nat.le_trans H0.out.2.size (hM.fin (Nat.le_refl _) hl (i := 0) rfl).2.1
  have o1_1 : Hid (w.heap.size ≤ γ 1) := Nat.le_trans H0.out.2.size (hM.fin (Nat.le_refl _) hl (i := 1) rfl).2.1
  have o1_2 : Hid (w.heap.size ≤ γ 2) := Nat.le_trans H0.out.2.size (hM.fin (Nat.le_refl _) hl (i := 2) rfl).2.1
  clear hM hl l
  generalize γ 0 = γ1_0 at M1 o1_0 ⊢
  generalize γ 1 = γ1_1 at M1 o1_1 ⊢
  generalize γ 2 = γ1_2 at M1 o1_2 ⊢
  clear γ
  have H1 : Hid (_ ∧ _) := ⟨M1, B1⟩
  clear M1 B1
  refine rest_at (l := []) rfl ?_
  refine rest_nil ?_
  refine then_normal ?_
  refine wp_seq ?_
  refine walk_seq 2 [.quiet (N n), .born (fun g => .tuple #[PT g 0, .int .i64 0]) (modc n)] (fun w' => Mm w' [(γ1_0, cells6 n), (γ1_1, cells6 a), (γ1_2, cells6 b), (0, dtab)]) ?pre2 ?F2 ?hpre2 (fun γ => ?hF2) (by kernel_rfl) ?hL2 ?hS2 ?ho2 ?he2
  case hpre2 =>
    simp only [List.take_succ_cons, List.take_zero]
    exact rfl
  case hF2 =>
    simp only [fill, Kind.val, Act.put, List.setIfInBounds_toArray, List.set_cons_zero, List.set_cons_succ]
    exact rfl
  case hL2 => exact trivial
  case hS2 => exact fun w' hb => H1.out.1.below hb
  case ho2 =>
    refine AllOk.cons ?_ ?_
    · exact fun γ => ⟨rfl, fun w' h => ex_load6 h 0 rfl rfl rfl rfl⟩
    refine AllOk.cons ?_ ?_
    · exact fun γ => ⟨rfl, fun w' h => ⟨4, #[N n], exec_call rfl call4 rfl (by simp only [List.map_toArray, List.map_cons, List.map_nil]; rfl), C0.out w'⟩⟩
    exact trivial
  intro γ w2 l hM hl
  have M2 : Mm w2 [(γ 1, modc n), (γ1_0, cells6 n), (γ1_1, cells6 a), (γ1_2, cells6 b), (0, dtab)] := H1.out.1.grow hM (Nat.le_refl _) hl [1] rfl (by decide)
  have B2 : Below w.heap.size w w2 := H1.out.2.trans (hM.below.mono H1.out.2.size)
  have o2_1 : Hid (w.heap.size ≤ γ 1) := Nat.le_trans H1.out.2.size (hM.fin (Nat.le_refl _) hl (i := 1) rfl).2.1
  clear hM hl l H1
  generalize γ 1 = γ2_1 at M2 o2_1 ⊢
  clear γ
  have H2 : Hid (_ ∧ _) := ⟨M2, B2⟩
  clear M2 B2
  refine rest_at (l := [2, 3, 4, 5, 6]) rfl ?_
  refine rest_set (d := 15) rfl rfl rfl rfl ?_
  simp only [Act.put, List.setIfInBounds_toArray, List.set_cons_zero, List.set_cons_succ]
  refine rest_set (d := 18) (v := PT γ2_1 0) (w' := w2) rfl rfl rfl (by go_simp) ?_
  simp only [Act.put, List.setIfInBounds_toArray, List.set_cons_zero, List.set_cons_succ]
  refine rest_set (d := 19) (v := .int .i64 0) (w' := w2) rfl rfl rfl (by go_simp) ?_
  simp only [Act.put, List.setIfInBounds_toArray, List.set_cons_zero, List.set_cons_succ]
  refine rest_set (d := 7) rfl rfl rfl rfl ?_
  simp only [Act.put, List.setIfInBounds_toArray, List.set_cons_zero, List.set_cons_succ]
  refine rest_set (d := 8) rfl rfl rfl rfl ?_
  simp only [Act.put, List.setIfInBounds_toArray, List.set_cons_zero, List.set_cons_succ]
  refine rest_nil ?_
  refine then_normal ?_
  refine wp_seq ?_
  refine wp_seq ?_
  refine walk_seq 3 [.quiet (N n), .call (.bool true), .quiet (.bool false)] (fun w' => Mm w' [(γ2_1, modc n), (γ1_0, cells6 n), (γ1_1, cells6 a), (γ1_2, cells6 b), (0, dtab)]) ?pre3 ?F3 ?hpre3 (fun γ => ?hF3) (by kernel_rfl) ?hL3 ?hS3 ?ho3 ?he3
  case hpre3 =>
    simp only [List.take_succ_cons, List.take_zero]
    exact rfl
  case hF3 =>
    simp only [fill, Kind.val, Act.put, List.setIfInBounds_toArray, List.set_cons_zero, List.set_cons_succ]
    exact rfl
  case hL3 => exact trivial
  case hS3 => exact fun w' hb => H2.out.1.below hb
  case ho3 =>
    refine AllOk.cons ?_ ?_
    · exact fun γ => ⟨rfl, fun w' h => ex_load6 h 1 rfl rfl rfl rfl⟩
    refine AllOk.cons ?_ ?_
    · exact fun γ => ⟨rfl, fun w' h => ⟨5, #[N n], exec_call rfl call5 rfl (by simp only [List.map_toArray, List.map_cons, List.map_nil]; rfl), C1.out w'⟩⟩
    refine AllOk.cons ?_ ?_
    · (refine fun γ => ⟨rfl, fun w' h => ?_⟩; clear h; go_simp)
    exact trivial
  intro γ w3 l hM hl
  have M3 : Mm w3 [(γ2_1, modc n), (γ1_0, cells6 n), (γ1_1, cells6 a), (γ1_2, cells6 b), (0, dtab)] := H2.out.1.grow hM (Nat.le_refl _) hl [] rfl (by decide)
  have B3 : Below w.heap.size w w3 := H2.out.2.trans (hM.below.mono H2.out.2.size)
  clear hM hl l H2
  clear γ
  have H3 : Hid (_ ∧ _) := ⟨M3, B3⟩
  clear M3 B3
  refine rest_at (l := []) rfl ?_
  refine rest_nil ?_
  refine then_normal ?_
  refine wp_cond_false rfl ?_
  refine wp_skip ?_
  refine then_normal ?_
  refine wp_seq ?_
  refine wp_seq ?_
  refine walk_any (by kernel_rfl) 12 [.quiet (PT γ2_1 0), .quiet (.bool false), .quiet (.bool false), .quiet (.int .i64 0), .quiet (.bool false), .quiet (.bool false), .quiet (.bool false), .quiet (PT γ2_1 0), .call (N n), .quiet (N n), .quiet (.bool false), .quiet (.bool false)] (fun w' => Mm w' [(γ2_1, modc n), (γ1_0, cells6 n), (γ1_1, cells6 a), (γ1_2, cells6 b), (0, dtab)]) ?pre4 ?F4 ?hpre4 (fun γ => ?hF4) (by kernel_rfl) ?hL4 ?hS4 ?ho4 ?he4
  case hpre4 =>
    simp only [List.take_succ_cons, List.take_zero]
    exact rfl
  case hF4 =>
    simp only [fill, Kind.val, Act.put, List.setIfInBounds_toArray, List.set_cons_zero, List.set_cons_succ]
    exact rfl
  case hL4 => exact trivial
  case hS4 => exact fun w' hb => H3.out.1.below hb
  case ho4 =>
    refine AllOk.cons ?_ ?_
    · exact fun γ => ⟨rfl, fun w' _ => rfl⟩
    refine AllOk.cons ?_ ?_
    · (refine fun γ => ⟨rfl, fun w' h => ?_⟩; clear h; go_simp)
    refine AllOk.cons ?_ ?_
    · exact fun γ => ⟨rfl, fun w' _ => rfl⟩
    refine AllOk.cons ?_ ?_
    · exact fun γ => ⟨rfl, fun w' _ => rfl⟩
    refine AllOk.cons ?_ ?_
    · (refine fun γ => ⟨rfl, fun w' h => ?_⟩; clear h; go_simp)
    refine AllOk.cons ?_ ?_
    · (refine fun γ => ⟨rfl, fun w' h => ?_⟩; clear h; go_simp)
    refine AllOk.cons ?_ ?_
    · exact fun γ => ⟨rfl, fun w' _ => rfl⟩
    refine AllOk.cons ?_ ?_
    · exact fun γ => ⟨rfl, fun w' _ => rfl⟩
    refine AllOk.cons ?_ ?_
    · exact fun γ => ⟨rfl, fun w' h => ⟨6, #[PT γ2_1 0], exec_call rfl call6 rfl (by simp only [List.map_toArray, List.map_cons, List.map_nil]; rfl), C2.out _ w' (h.one 0 rfl)⟩⟩
    refine AllOk.cons ?_ ?_
    · exact fun γ => ⟨rfl, fun w' h => ex_load6 h 1 rfl rfl rfl rfl⟩
    refine AllOk.cons ?_ ?_
    · exact fun γ => ⟨rfl, fun w' _ => exec_neq6 e_n rfl rfl rfl⟩
    refine AllOk.cons ?_ ?_
    · (refine fun γ => ⟨rfl, fun w' h => ?_⟩; clear h; go_simp)
    exact trivial
  intro γ w4 l hM hl
  have M4 : Mm w4 [(γ2_1, modc n), (γ1_0, cells6 n), (γ1_1, cells6 a), (γ1_2, cells6 b), (0, dtab)] := H3.out.1.grow hM (Nat.le_refl _) hl [] rfl (by decide)
  have B4 : Below w.heap.size w w4 := H3.out.2.trans (hM.below.mono H3.out.2.size)
  clear hM hl l H3
  clear γ
  have H4 : Hid (_ ∧ _) := ⟨M4, B4⟩
  clear M4 B4
  refine rest_at (l := []) rfl ?_
  refine rest_nil ?_
  refine then_normal ?_
  refine wp_cond_false rfl ?_
  refine wp_skip ?_
  refine then_normal ?_
  refine wp_seq ?_
  refine walk_any (by kernel_rfl) 61 [.quiet (PT γ2_1 0), .quiet (N a), .call (N r1), .quiet (N n), .quiet (N a), .call (N r1), .quiet (.bool true), .quiet (.bool true), .quiet (PT γ2_1 0), .quiet (N a), .quiet (N b), .call (N r2), .quiet (N n), .quiet (N a), .quiet (N b), .call (N r2), .quiet (.bool true), .quiet (.bool true), .quiet (.bool true), .quiet (PT γ2_1 0), .quiet (N a), .quiet (N b), .call (N r3), .quiet (N n), .quiet (N a), .quiet (N b), .call (N r3), .quiet (.bool true), .quiet (.bool true), .quiet (.bool true), .quiet (PT γ2_1 0), .quiet (N a), .quiet (N b), .call (N r4), .quiet (N n), .quiet (N a), .quiet (N b), .call (N r4), .quiet (.bool true), .quiet (.bool true), .quiet (.bool true), .quiet (PT γ2_1 0), .quiet (N a), .call (N r5), .quiet (N n), .quiet (N a), .call (N r5), .quiet (.bool true), .quiet (.bool true), .quiet (.bool true), .quiet (PT γ2_1 0), .quiet (N a), .quiet (N b), .call (N r6), .quiet (N n), .quiet (N a), .quiet (N b), .call (N r6), .quiet (.bool true), .quiet (.bool true), .quiet (.bool true)] (fun w' => Mm w' [(γ2_1, modc n), (γ1_0, cells6 n), (γ1_1, cells6 a), (γ1_2, cells6 b), (0, dtab)]) ?pre5 ?F5 ?hpre5 (fun γ => ?hF5) (by kernel_rfl) ?hL5 ?hS5 ?ho5 ?he5
  case hpre5 =>
    simp only [List.take_succ_cons, List.take_zero]
    exact rfl
  case hF5 =>
    simp only [fill, Kind.val, Act.put, List.setIfInBounds_toArray, List.set_cons_zero, List.set_cons_succ]
    exact rfl
  case hL5 => exact trivial
  case hS5 => exact fun w' hb => H4.out.1.below hb
  case ho5 =>
    refine AllOk.cons ?_ ?_
    · exact fun γ => ⟨rfl, fun w' _ => rfl⟩
    refine AllOk.cons ?_ ?_
    · exact fun γ => ⟨rfl, fun w' h => ex_load6 h 2 rfl rfl rfl rfl⟩
    refine AllOk.cons ?_ ?_
    · exact fun γ => ⟨rfl, fun w' h => ⟨7, #[PT γ2_1 0, N a], exec_call rfl call7 rfl (by simp only [List.map_toArray, List.map_cons, List.map_nil]; rfl), C3.out _ w' (h.one 0 rfl)⟩⟩
    refine AllOk.cons ?_ ?_
    · exact fun γ => ⟨rfl, fun w' h => ex_load6 h 1 rfl rfl rfl rfl⟩
    refine AllOk.cons ?_ ?_
    · exact fun γ => ⟨rfl, fun w' h => ex_load6 h 2 rfl rfl rfl rfl⟩
    refine AllOk.cons ?_ ?_
    · exact fun γ => ⟨rfl, fun w' h => ⟨8, #[N n, N a], exec_call rfl call8 rfl (by simp only [List.map_toArray, List.map_cons, List.map_nil]; rfl), C4.out w'⟩⟩
    refine AllOk.cons ?_ ?_
    · exact fun γ => ⟨rfl, fun w' _ => exec_eq6 e_r1 rfl rfl rfl⟩
    refine AllOk.cons ?_ ?_
    · exact fun γ => ⟨rfl, fun w' _ => rfl⟩
    refine AllOk.cons ?_ ?_
    · exact fun γ => ⟨rfl, fun w' _ => rfl⟩
    refine AllOk.cons ?_ ?_
    · exact fun γ => ⟨rfl, fun w' h => ex_load6 h 2 rfl rfl rfl rfl⟩
    refine AllOk.cons ?_ ?_
    · exact fun γ => ⟨rfl, fun w' h => ex_load6 h 3 rfl rfl rfl rfl⟩
    refine AllOk.cons ?_ ?_
    · exact fun γ => ⟨rfl, fun w' h => ⟨9, #[PT γ2_1 0, N a, N b], exec_call rfl call9 rfl (by simp only [List.map_toArray, List.map_cons, List.map_nil]; rfl), C5.out _ w' (h.one 0 rfl)⟩⟩
    refine AllOk.cons ?_ ?_
    · exact fun γ => ⟨rfl, fun w' h => ex_load6 h 1 rfl rfl rfl rfl⟩
    refine AllOk.cons ?_ ?_
    · exact fun γ => ⟨rfl, fun w' h => ex_load6 h 2 rfl rfl rfl rfl⟩
    refine AllOk.cons ?_ ?_
    · exact fun γ => ⟨rfl, fun w' h => ex_load6 h 3 rfl rfl rfl rfl⟩
    refine AllOk.cons ?_ ?_
    · exact fun γ => ⟨rfl, fun w' h => ⟨10, #[N n, N a, N b], exec_call rfl call10 rfl (by simp only [List.map_toArray, List.map_cons, List.map_nil]; rfl), C6.out w'⟩⟩
    refine AllOk.cons ?_ ?_
    · exact fun γ => ⟨rfl, fun w' _ => exec_eq6 e_r2 rfl rfl rfl⟩
    refine AllOk.cons ?_ ?_
    · (refine fun γ => ⟨rfl, fun w' h => ?_⟩; clear h; go_simp)
    refine AllOk.cons ?_ ?_
    · exact fun γ => ⟨rfl, fun w' _ => rfl⟩
    refine AllOk.cons ?_ ?_
    · exact fun γ => ⟨rfl, fun w' _ => rfl⟩
    refine AllOk.cons ?_ ?_
    · exact fun γ => ⟨rfl, fun w' h => ex_load6 h 2 rfl rfl rfl rfl⟩
    refine AllOk.cons ?_ ?_
    · exact fun γ => ⟨rfl, fun w' h => ex_load6 h 3 rfl rfl rfl rfl⟩
    refine AllOk.cons ?_ ?_
    · exact fun γ => ⟨rfl, fun w' h => ⟨11, #[PT γ2_1 0, N a, N b], exec_call rfl call11 rfl (by simp only [List.map_toArray, List.map_cons, List.map_nil]; rfl), C7.out _ w' (h.one 0 rfl)⟩⟩
    refine AllOk.cons ?_ ?_
    · exact fun γ => ⟨rfl, fun w' h => ex_load6 h 1 rfl rfl rfl rfl⟩
    refine AllOk.cons ?_ ?_
    · exact fun γ => ⟨rfl, fun w' h => ex_load6 h 2 rfl rfl rfl rfl⟩
    refine AllOk.cons ?_ ?_
    · exact fun γ => ⟨rfl, fun w' h => ex_load6 h 3 rfl rfl rfl rfl⟩
    refine AllOk.cons ?_ ?_
    · exact fun γ => ⟨rfl, fun w' h => ⟨12, #[N n, N a, N b], exec_call rfl call12 rfl (by simp only [List.map_toArray, List.map_cons, List.map_nil]; rfl), C8.out w'⟩⟩
    refine AllOk.cons ?_ ?_
    · exact fun γ => ⟨rfl, fun w' _ => exec_eq6 e_r3 rfl rfl rfl⟩
    refine AllOk.cons ?_ ?_
    · (refine fun γ => ⟨rfl, fun w' h => ?_⟩; clear h; go_simp)
    refine AllOk.cons ?_ ?_
    · exact fun γ => ⟨rfl, fun w' _ => rfl⟩
    refine AllOk.cons ?_ ?_
    · exact fun γ => ⟨rfl, fun w' _ => rfl⟩
    refine AllOk.cons ?_ ?_
    · exact fun γ => ⟨rfl, fun w' h => ex_load6 h 2 rfl rfl rfl rfl⟩
    refine AllOk.cons ?_ ?_
    · exact fun γ => ⟨rfl, fun w' h => ex_load6 h 3 rfl rfl rfl rfl⟩
    refine AllOk.cons ?_ ?_
    · exact fun γ => ⟨rfl, fun w' h => ⟨13, #[PT γ2_1 0, N a, N b], exec_call rfl call13 rfl (by simp only [List.map_toArray, List.map_cons, List.map_nil]; rfl), C9.out _ w' (h.one 0 rfl)⟩⟩
    refine AllOk.cons ?_ ?_
    · exact fun γ => ⟨rfl, fun w' h => ex_load6 h 1 rfl rfl rfl rfl⟩
    refine AllOk.cons ?_ ?_
    · exact fun γ => ⟨rfl, fun w' h => ex_load6 h 2 rfl rfl rfl rfl⟩
    refine AllOk.cons ?_ ?_
    · exact fun γ => ⟨rfl, fun w' h => ex_load6 h 3 rfl rfl rfl rfl⟩
    refine AllOk.cons ?_ ?_
    · exact fun γ => ⟨rfl, fun w' h => ⟨14, #[N n, N a, N b], exec_call rfl call14 rfl (by simp only [List.map_toArray, List.map_cons, List.map_nil]; rfl), C10.out w'⟩⟩
    refine AllOk.cons ?_ ?_
    · exact fun γ => ⟨rfl, fun w' _ => exec_eq6 e_r4 rfl rfl rfl⟩
    refine AllOk.cons ?_ ?_
    · (refine fun γ => ⟨rfl, fun w' h => ?_⟩; clear h; go_simp)
    refine AllOk.cons ?_ ?_
    · exact fun γ => ⟨rfl, fun w' _ => rfl⟩
    refine AllOk.cons ?_ ?_
    · exact fun γ => ⟨rfl, fun w' _ => rfl⟩
    refine AllOk.cons ?_ ?_
    · exact fun γ => ⟨rfl, fun w' h => ex_load6 h 2 rfl rfl rfl rfl⟩
    refine AllOk.cons ?_ ?_
    · exact fun γ => ⟨rfl, fun w' h => ⟨15, #[PT γ2_1 0, N a], exec_call rfl call15 rfl (by simp only [List.map_toArray, List.map_cons, List.map_nil]; rfl), C11.out _ w' (h.one 0 rfl)⟩⟩
    refine AllOk.cons ?_ ?_
    · exact fun γ => ⟨rfl, fun w' h => ex_load6 h 1 rfl rfl rfl rfl⟩
    refine AllOk.cons ?_ ?_
    · exact fun γ => ⟨rfl, fun w' h => ex_load6 h 2 rfl rfl rfl rfl⟩
    refine AllOk.cons ?_ ?_
    · exact fun γ => ⟨rfl, fun w' h => ⟨16, #[N n, N a], exec_call rfl call16 rfl (by simp only [List.map_toArray, List.map_cons, List.map_nil]; rfl), C12.out w'⟩⟩
    refine AllOk.cons ?_ ?_
    · exact fun γ => ⟨rfl, fun w' _ => exec_eq6 e_r5 rfl rfl rfl⟩
    refine AllOk.cons ?_ ?_
    · (refine fun γ => ⟨rfl, fun w' h => ?_⟩; clear h; go_simp)
    refine AllOk.cons ?_ ?_
    · exact fun γ => ⟨rfl, fun w' _ => rfl⟩
    refine AllOk.cons ?_ ?_
    · exact fun γ => ⟨rfl, fun w' _ => rfl⟩
    refine AllOk.cons ?_ ?_
    · exact fun γ => ⟨rfl, fun w' h => ex_load6 h 2 rfl rfl rfl rfl⟩
    refine AllOk.cons ?_ ?_
    · exact fun γ => ⟨rfl, fun w' h => ex_load6 h 3 rfl rfl rfl rfl⟩
    refine AllOk.cons ?_ ?_
    · exact fun γ => ⟨rfl, fun w' h => ⟨17, #[PT γ2_1 0, N a, N b], exec_call rfl call17 rfl (by simp only [List.map_toArray, List.map_cons, List.map_nil]; rfl), C13.out _ w' (h.one 0 rfl)⟩⟩
    refine AllOk.cons ?_ ?_
    · exact fun γ => ⟨rfl, fun w' h => ex_load6 h 1 rfl rfl rfl rfl⟩
    refine AllOk.cons ?_ ?_
    · exact fun γ => ⟨rfl, fun w' h => ex_load6 h 2 rfl rfl rfl rfl⟩
    refine AllOk.cons ?_ ?_
    · exact fun γ => ⟨rfl, fun w' h => ex_load6 h 3 rfl rfl rfl rfl⟩
    refine AllOk.cons ?_ ?_
    · exact fun γ => ⟨rfl, fun w' h => ⟨18, #[N n, N a, N b], exec_call rfl call18 rfl (by simp only [List.map_toArray, List.map_cons, List.map_nil]; rfl), C14.out w'⟩⟩
    refine AllOk.cons ?_ ?_
    · exact fun γ => ⟨rfl, fun w' _ => exec_eq6 e_r6 rfl rfl rfl⟩
    refine AllOk.cons ?_ ?_
    · (refine fun γ => ⟨rfl, fun w' h => ?_⟩; clear h; go_simp)
    refine AllOk.cons ?_ ?_
    · exact fun γ => ⟨rfl, fun w' _ => rfl⟩
    exact trivial
  intro γ w5 l hM hl
  have M5 : Mm w5 [(γ2_1, modc n), (γ1_0, cells6 n), (γ1_1, cells6 a), (γ1_2, cells6 b), (0, dtab)] := H4.out.1.grow hM (Nat.le_refl _) hl [] rfl (by decide)
  have B5 : Below w.heap.size w w5 := H4.out.2.trans (hM.below.mono H4.out.2.size)
  clear hM hl l H4
  clear γ
  have H5 : Hid (_ ∧ _) := ⟨M5, B5⟩
  clear M5 B5
  refine rest_at (l := []) rfl ?_
  refine rest_nil ?_
  refine then_normal ?_
  refine wp_seq ?_
  refine walk_seq 6 [.quiet (PT γ1_2 0), .quiet (.int .u64 (wd b 0)), .quiet (.int .u64 ((sm : Nat) : Int)), .quiet (N sm), .made zero6 24, .laid 4 zero6 (cells6 sm)] (fun w' => Mm w' [(γ2_1, modc n), (γ1_0, cells6 n), (γ1_1, cells6 a), (γ1_2, cells6 b), (0, dtab)]) ?pre6 ?F6 ?hpre6 (fun γ => ?hF6) (by kernel_rfl) ?hL6 ?hS6 ?ho6 ?he6
  case hpre6 =>
    simp only [List.take_succ_cons, List.take_zero]
    exact rfl
  case hF6 =>
    simp only [fill, Kind.val, Act.put, List.setIfInBounds_toArray, List.set_cons_zero, List.set_cons_succ]
    exact rfl
  case hL6 => exact ⟨⟨_, rfl⟩, trivial⟩
  case hS6 => exact fun w' hb => H5.out.1.below hb
  case ho6 =>
    refine AllOk.cons ?_ ?_
    · (refine fun γ => ⟨rfl, fun w' h => ?_⟩; clear h; go_simp)
    refine AllOk.cons ?_ ?_
    · exact fun γ => ⟨rfl, fun w' h => ex_load1 h 3 rfl rfl rfl rfl⟩
    refine AllOk.cons ?_ ?_
    · (refine fun γ => ⟨rfl, fun w' h => ?_⟩; clear h; go_simp)
    refine AllOk.cons ?_ ?_
    · exact fun γ => ⟨rfl, fun w' _ => ex_buildx HS.out rfl rfl⟩
    refine AllOk.cons ?_ ?_
    · exact fun γ => ⟨rfl, fun w' => exec_made6 rfl⟩
    refine AllOk.cons ?_ ?_
    · exact fun γ => ⟨rfl, rfl, rfl, fun w' h => exec_laid6 h rfl rfl rfl⟩
    exact trivial
  intro γ w6 l hM hl
  have M6 : Mm w6 [(γ 4, cells6 sm), (γ2_1, modc n), (γ1_0, cells6 n), (γ1_1, cells6 a), (γ1_2, cells6 b), (0, dtab)] := H5.out.1.grow hM (Nat.le_refl _) hl [4] rfl (by decide)
  have B6 : Below w.heap.size w w6 := H5.out.2.trans (hM.below.mono H5.out.2.size)
  have o6_4 : Hid (w.heap.size ≤ γ 4) := Nat.le_trans H5.out.2.size (hM.fin (Nat.le_refl _) hl (i := 4) rfl).2.1
  clear hM hl l H5
  generalize γ 4 = γ6_4 at M6 o6_4 ⊢
  clear γ
  have H6 : Hid (_ ∧ _) := ⟨M6, B6⟩
  clear M6 B6
  refine rest_at (l := []) rfl ?_
  refine rest_nil ?_
  refine then_normal ?_
  refine wp_seq ?_
  refine walk_seq 9 [.quiet (PT γ2_1 0), .quiet (N a), .call (.tuple #[N r8, .int .i64 0]), .quiet (.tuple #[N r8, .int .i64 0]), .quiet (N r8), .quiet (.int .i64 0), .made zero6 24, .laid 6 zero6 (cells6 r8), .quiet (.int .i64 0)] (fun w' => Mm w' [(γ6_4, cells6 sm), (γ2_1, modc n), (γ1_0, cells6 n), (γ1_1, cells6 a), (γ1_2, cells6 b), (0, dtab)]) ?pre7 ?F7 ?hpre7 (fun γ => ?hF7) (by kernel_rfl) ?hL7 ?hS7 ?ho7 ?he7
  case hpre7 =>
    simp only [List.take_succ_cons, List.take_zero]
    exact rfl
  case hF7 =>
    simp only [fill, Kind.val, Act.put, List.setIfInBounds_toArray, List.set_cons_zero, List.set_cons_succ]
    exact rfl
  case hL7 => exact ⟨⟨_, rfl⟩, trivial⟩
  case hS7 => exact fun w' hb => H6.out.1.below hb
  case ho7 =>
    refine AllOk.cons ?_ ?_
    · exact fun γ => ⟨rfl, fun w' _ => rfl⟩
    refine AllOk.cons ?_ ?_
    · exact fun γ => ⟨rfl, fun w' h => ex_load6 h 3 rfl rfl rfl rfl⟩
    refine AllOk.cons ?_ ?_
    · exact fun γ => ⟨rfl, fun w' h => ⟨19, #[PT γ2_1 0, N a], exec_call rfl call19 rfl (by simp only [List.map_toArray, List.map_cons, List.map_nil]; rfl), C17.out _ w' (h.two 1 5 rfl rfl (by decide))⟩⟩
    refine AllOk.cons ?_ ?_
    · exact fun γ => ⟨rfl, fun w' _ => rfl⟩
    refine AllOk.cons ?_ ?_
    · (refine fun γ => ⟨rfl, fun w' h => ?_⟩; clear h; go_simp)
    refine AllOk.cons ?_ ?_
    · (refine fun γ => ⟨rfl, fun w' h => ?_⟩; clear h; go_simp)
    refine AllOk.cons ?_ ?_
    · exact fun γ => ⟨rfl, fun w' => exec_made6 rfl⟩
    refine AllOk.cons ?_ ?_
    · exact fun γ => ⟨rfl, rfl, rfl, fun w' h => exec_laid6 h rfl rfl rfl⟩
    refine AllOk.cons ?_ ?_
    · exact fun γ => ⟨rfl, fun w' _ => rfl⟩
    exact trivial
  intro γ w7 l hM hl
  have M7 : Mm w7 [(γ 6, cells6 r8), (γ6_4, cells6 sm), (γ2_1, modc n), (γ1_0, cells6 n), (γ1_1, cells6 a), (γ1_2, cells6 b), (0, dtab)] := H6.out.1.grow hM (Nat.le_refl _) hl [6] rfl (by decide)
  have B7 : Below w.heap.size w w7 := H6.out.2.trans (hM.below.mono H6.out.2.size)
  have o7_6 : Hid (w.heap.size ≤ γ 6) := Nat.le_trans H6.out.2.size (hM.fin (Nat.le_refl _) hl (i := 6) rfl).2.1
  clear hM hl l H6
  generalize γ 6 = γ7_6 at M7 o7_6 ⊢
  clear γ
  have H7 : Hid (_ ∧ _) := ⟨M7, B7⟩
  clear M7 B7
  refine rest_at (l := []) rfl ?_
  refine rest_nil ?_
  refine then_normal ?_
  refine wp_seq ?_
  refine walk_seq 9 [.quiet (N n), .quiet (N a), .call (.tuple #[N r8, .int .i64 0]), .quiet (.tuple #[N r8, .int .i64 0]), .quiet (N r8), .quiet (.int .i64 0), .made zero6 24, .laid 6 zero6 (cells6 r8), .quiet (.int .i64 0)] (fun w' => Mm w' [(γ7_6, cells6 r8), (γ6_4, cells6 sm), (γ2_1, modc n), (γ1_0, cells6 n), (γ1_1, cells6 a), (γ1_2, cells6 b), (0, dtab)]) ?pre8 ?F8 ?hpre8 (fun γ => ?hF8) (by kernel_rfl) ?hL8 ?hS8 ?ho8 ?he8
  case hpre8 =>
    simp only [List.take_succ_cons, List.take_zero]
    exact rfl
  case hF8 =>
    simp only [fill, Kind.val, Act.put, List.setIfInBounds_toArray, List.set_cons_zero, List.set_cons_succ]
    exact rfl
  case hL8 => exact ⟨⟨_, rfl⟩, trivial⟩
  case hS8 => exact fun w' hb => H7.out.1.below hb
  case ho8 =>
    refine AllOk.cons ?_ ?_
    · exact fun γ => ⟨rfl, fun w' h => ex_load6 h 3 rfl rfl rfl rfl⟩
    refine AllOk.cons ?_ ?_
    · exact fun γ => ⟨rfl, fun w' h => ex_load6 h 4 rfl rfl rfl rfl⟩
    refine AllOk.cons ?_ ?_
    · exact fun γ => ⟨rfl, fun w' h => ⟨20, #[N n, N a], exec_call rfl call20 rfl (by simp only [List.map_toArray, List.map_cons, List.map_nil]; rfl), C18.out w'⟩⟩
    refine AllOk.cons ?_ ?_
    · exact fun γ => ⟨rfl, fun w' _ => rfl⟩
    refine AllOk.cons ?_ ?_
    · (refine fun γ => ⟨rfl, fun w' h => ?_⟩; clear h; go_simp)
    refine AllOk.cons ?_ ?_
    · (refine fun γ => ⟨rfl, fun w' h => ?_⟩; clear h; go_simp)
    refine AllOk.cons ?_ ?_
    · exact fun γ => ⟨rfl, fun w' => exec_made6 rfl⟩
    refine AllOk.cons ?_ ?_
    · exact fun γ => ⟨rfl, rfl, rfl, fun w' h => exec_laid6 h rfl rfl rfl⟩
    refine AllOk.cons ?_ ?_
    · exact fun γ => ⟨rfl, fun w' _ => rfl⟩
    exact trivial
  intro γ w8 l hM hl
  have M8 : Mm w8 [(γ 6, cells6 r8), (γ7_6, cells6 r8), (γ6_4, cells6 sm), (γ2_1, modc n), (γ1_0, cells6 n), (γ1_1, cells6 a), (γ1_2, cells6 b), (0, dtab)] := H7.out.1.grow hM (Nat.le_refl _) hl [6] rfl (by decide)
  have B8 : Below w.heap.size w w8 := H7.out.2.trans (hM.below.mono H7.out.2.size)
  have o8_6 : Hid (w.heap.size ≤ γ 6) := Nat.le_trans H7.out.2.size (hM.fin (Nat.le_refl _) hl (i := 6) rfl).2.1
  clear hM hl l H7
  generalize γ 6 = γ8_6 at M8 o8_6 ⊢
  clear γ
  have H8 : Hid (_ ∧ _) := ⟨M8, B8⟩
  clear M8 B8
  refine rest_at (l := []) rfl ?_
  refine rest_nil ?_
  refine then_normal ?_
  refine wp_seq ?_
  refine walk_any (by kernel_rfl) 23 [.quiet (.bool true), .quiet (.bool true), .quiet (PT γ2_1 0), .quiet (N a), .quiet (N sm), .call (N r7), .quiet (N n), .quiet (N a), .quiet (N sm), .call (N r7), .quiet (.bool true), .quiet (.bool true), .quiet (.bool true), .quiet (N r8), .quiet (N r8), .quiet (.bool true), .quiet (.bool true), .quiet (.bool true), .quiet (.int .i64 0), .quiet (.int .i64 0), .quiet (.bool true), .quiet (.bool true), .quiet (.bool true)] (fun w' => Mm w' [(γ8_6, cells6 r8), (γ7_6, cells6 r8), (γ6_4, cells6 sm), (γ2_1, modc n), (γ1_0, cells6 n), (γ1_1, cells6 a), (γ1_2, cells6 b), (0, dtab)]) ?pre9 ?F9 ?hpre9 (fun γ => ?hF9) (by kernel_rfl) ?hL9 ?hS9 ?ho9 ?he9
  case hpre9 =>
    simp only [List.take_succ_cons, List.take_zero]
    exact rfl
  case hF9 =>
    simp only [fill, Kind.val, Act.put, List.setIfInBounds_toArray, List.set_cons_zero, List.set_cons_succ]
    exact rfl
  case hL9 => exact trivial
  case hS9 => exact fun w' hb => H8.out.1.below hb
  case ho9 =>
    refine AllOk.cons ?_ ?_
    · exact fun γ => ⟨rfl, fun w' _ => rfl⟩
    refine AllOk.cons ?_ ?_
    · exact fun γ => ⟨rfl, fun w' _ => rfl⟩
    refine AllOk.cons ?_ ?_
    · exact fun γ => ⟨rfl, fun w' _ => rfl⟩
    refine AllOk.cons ?_ ?_
    · exact fun γ => ⟨rfl, fun w' h => ex_load6 h 5 rfl rfl rfl rfl⟩
    refine AllOk.cons ?_ ?_
    · exact fun γ => ⟨rfl, fun w' h => ex_load6 h 2 rfl rfl rfl rfl⟩
    refine AllOk.cons ?_ ?_
    · exact fun γ => ⟨rfl, fun w' h => ⟨21, #[PT γ2_1 0, N a, N sm], exec_call rfl call21 rfl (by simp only [List.map_toArray, List.map_cons, List.map_nil]; rfl), C15.out _ w' (h.one 3 rfl)⟩⟩
    refine AllOk.cons ?_ ?_
    · exact fun γ => ⟨rfl, fun w' h => ex_load6 h 4 rfl rfl rfl rfl⟩
    refine AllOk.cons ?_ ?_
    · exact fun γ => ⟨rfl, fun w' h => ex_load6 h 5 rfl rfl rfl rfl⟩
    refine AllOk.cons ?_ ?_
    · exact fun γ => ⟨rfl, fun w' h => ex_load6 h 2 rfl rfl rfl rfl⟩
    refine AllOk.cons ?_ ?_
    · exact fun γ => ⟨rfl, fun w' h => ⟨22, #[N n, N a, N sm], exec_call rfl call22 rfl (by simp only [List.map_toArray, List.map_cons, List.map_nil]; rfl), C16.out w'⟩⟩
    refine AllOk.cons ?_ ?_
    · exact fun γ => ⟨rfl, fun w' _ => exec_eq6 e_r7 rfl rfl rfl⟩
    refine AllOk.cons ?_ ?_
    · (refine fun γ => ⟨rfl, fun w' h => ?_⟩; clear h; go_simp)
    refine AllOk.cons ?_ ?_
    · exact fun γ => ⟨rfl, fun w' _ => rfl⟩
    refine AllOk.cons ?_ ?_
    · exact fun γ => ⟨rfl, fun w' h => ex_load6 h 1 rfl rfl rfl rfl⟩
    refine AllOk.cons ?_ ?_
    · exact fun γ => ⟨rfl, fun w' h => ex_load6 h 0 rfl rfl rfl rfl⟩
    refine AllOk.cons ?_ ?_
    · exact fun γ => ⟨rfl, fun w' _ => exec_eq6 e_r8 rfl rfl rfl⟩
    refine AllOk.cons ?_ ?_
    · (refine fun γ => ⟨rfl, fun w' h => ?_⟩; clear h; go_simp)
    refine AllOk.cons ?_ ?_
    · exact fun γ => ⟨rfl, fun w' _ => rfl⟩
    refine AllOk.cons ?_ ?_
    · exact fun γ => ⟨rfl, fun w' _ => rfl⟩
    refine AllOk.cons ?_ ?_
    · exact fun γ => ⟨rfl, fun w' _ => rfl⟩
    refine AllOk.cons ?_ ?_
    · (refine fun γ => ⟨rfl, fun w' h => ?_⟩; clear h; go_simp)
    refine AllOk.cons ?_ ?_
    · (refine fun γ => ⟨rfl, fun w' h => ?_⟩; clear h; go_simp)
    refine AllOk.cons ?_ ?_
    · exact fun γ => ⟨rfl, fun w' _ => rfl⟩
    exact trivial
  intro γ w9 l hM hl
  have M9 : Mm w9 [(γ8_6, cells6 r8), (γ7_6, cells6 r8), (γ6_4, cells6 sm), (γ2_1, modc n), (γ1_0, cells6 n), (γ1_1, cells6 a), (γ1_2, cells6 b), (0, dtab)] := H8.out.1.grow hM (Nat.le_refl _) hl [] rfl (by decide)
  have B9 : Below w.heap.size w w9 := H8.out.2.trans (hM.below.mono H8.out.2.size)
  clear hM hl l H8
  clear γ
  have H9 : Hid (_ ∧ _) := ⟨M9, B9⟩
  clear M9 B9
  refine rest_at (l := []) rfl ?_
  refine rest_nil ?_
  refine then_normal ?_
  refine wp_ret ?_
  repeat (first | refine then_ret ?_ | refine block_ret ?_)
  refine bodyPost_ret (v := .bool true) (by simp [results, Tryd.results3, go_sem, *]) rfl ?_
  exact ⟨rfl, H9.out.2⟩
set_option maxHeartbeats 4000000 in
set_option maxRecDepth 100000 in
theorem tells_6 (n a b sm r1 r2 r3 r4 r5 r6 r7 r8 : Nat) (hsm : sm < 18446744073709551616) (hx : bits BinOp.and IntKind.u64 (wd b 0) 1099511627775 = ((sm : Nat) : Int))
    (e_n : ∀ w, (Op.equalIn 10000 24 (N n) (N n)).run Tryd.prog w = .ok true w) (e_r1 : ∀ w, (Op.equalIn 10000 24 (N r1) (N r1)).run Tryd.prog w = .ok true w) (e_r2 : ∀ w, (Op.equalIn 10000 24 (N r2) (N r2)).run Tryd.prog w = .ok true w) (e_r3 : ∀ w, (Op.equalIn 10000 24 (N r3) (N r3)).run Tryd.prog w = .ok true w) (e_r4 : ∀ w, (Op.equalIn 10000 24 (N r4) (N r4)).run Tryd.prog w = .ok true w) (e_r5 : ∀ w, (Op.equalIn 10000 24 (N r5) (N r5)).run Tryd.prog w = .ok true w) (e_r6 : ∀ w, (Op.equalIn 10000 24 (N r6) (N r6)).run Tryd.prog w = .ok true w) (e_r7 : ∀ w, (Op.equalIn 10000 24 (N r7) (N r7)).run Tryd.prog w = .ok true w) (e_r8 : ∀ w, (Op.equalIn 10000 24 (N r8) (N r8)).run Tryd.prog w = .ok true w)
    (c0 : ∀ w, Calls Tryd.prog 4 #[N n] w fun e w' => Below w.heap.size w w' ∧ ∃ g, e = .returned (.tuple #[PT g 0, .int .i64 0]) ∧ w.heap.size ≤ g ∧ g < w'.heap.size ∧ Blk w' g (modc n))
    (c1 : ∀ w, Calls Tryd.prog 5 #[N n] w fun e w' => e = .returned (.bool true) ∧ Below w.heap.size w w')
    (c2 : ∀ g w, Mm w [(g, modc n)] → Calls Tryd.prog 6 #[PT g 0] w fun e w' => e = .returned (N n) ∧ Below w.heap.size w w')
    (c3 : ∀ g w, Mm w [(g, modc n)] → Calls Tryd.prog 7 #[PT g 0, N a] w fun e w' => e = .returned (N r1) ∧ Below w.heap.size w w')
    (c4 : ∀ w, Calls Tryd.prog 8 #[N n, N a] w fun e w' => e = .returned (N r1) ∧ Below w.heap.size w w')
    (c5 : ∀ g w, Mm w [(g, modc n)] → Calls Tryd.prog 9 #[PT g 0, N a, N b] w fun e w' => e = .returned (N r2) ∧ Below w.heap.size w w')
    (c6 : ∀ w, Calls Tryd.prog 10 #[N n, N a, N b] w fun e w' => e = .returned (N r2) ∧ Below w.heap.size w w')
    (c7 : ∀ g w, Mm w [(g, modc n)] → Calls Tryd.prog 11 #[PT g 0, N a, N b] w fun e w' => e = .returned (N r3) ∧ Below w.heap.size w w')
    (c8 : ∀ w, Calls Tryd.prog 12 #[N n, N a, N b] w fun e w' => e = .returned (N r3) ∧ Below w.heap.size w w')
    (c9 : ∀ g w, Mm w [(g, modc n)] → Calls Tryd.prog 13 #[PT g 0, N a, N b] w fun e w' => e = .returned (N r4) ∧ Below w.heap.size w w')
    (c10 : ∀ w, Calls Tryd.prog 14 #[N n, N a, N b] w fun e w' => e = .returned (N r4) ∧ Below w.heap.size w w')
    (c11 : ∀ g w, Mm w [(g, modc n)] → Calls Tryd.prog 15 #[PT g 0, N a] w fun e w' => e = .returned (N r5) ∧ Below w.heap.size w w')
    (c12 : ∀ w, Calls Tryd.prog 16 #[N n, N a] w fun e w' => e = .returned (N r5) ∧ Below w.heap.size w w')
    (c13 : ∀ g w, Mm w [(g, modc n)] → Calls Tryd.prog 17 #[PT g 0, N a, N b] w fun e w' => e = .returned (N r6) ∧ Below w.heap.size w w')
    (c14 : ∀ w, Calls Tryd.prog 18 #[N n, N a, N b] w fun e w' => e = .returned (N r6) ∧ Below w.heap.size w w')
    (c15 : ∀ g w, Mm w [(g, modc n)] → Calls Tryd.prog 21 #[PT g 0, N a, N sm] w fun e w' => e = .returned (N r7) ∧ Below w.heap.size w w')
    (c16 : ∀ w, Calls Tryd.prog 22 #[N n, N a, N sm] w fun e w' => e = .returned (N r7) ∧ Below w.heap.size w w')
    (c17 : ∀ g w, Mm w [(g, modc n), (0, dtab)] → Calls Tryd.prog 19 #[PT g 0, N a] w fun e w' => e = .returned (.tuple #[N r8, .int .i64 6]) ∧ Below w.heap.size w w')
    (c18 : ∀ w, Calls Tryd.prog 20 #[N n, N a] w fun e w' => e = .returned (.tuple #[N r8, .int .i64 6]) ∧ Below w.heap.size w w') (w : World) (hm : Mm w [(0, dtab)]) :
    Calls Tryd.prog 3 #[N n, N a, N b] w fun e w' => e = .returned (.bool true) ∧ Below w.heap.size w w' := by
  have H0 : Hid (_ ∧ _) := ⟨hm, Below.refl w.heap.size w⟩
  clear hm
  have HS : Hid _ := hsm
  clear hsm
  have C0 : Hid _ := c0
  have C1 : Hid _ := c1
  have C2 : Hid _ := c2
  have C3 : Hid _ := c3
  have C4 : Hid _ := c4
  have C5 : Hid _ := c5
  have C6 : Hid _ := c6
  have C7 : Hid _ := c7
  have C8 : Hid _ := c8
  have C9 : Hid _ := c9
  have C10 : Hid _ := c10
  have C11 : Hid _ := c11
  have C12 : Hid _ := c12
  have C13 : Hid _ := c13
  have C14 : Hid _ := c14
  have C15 : Hid _ := c15
  have C16 : Hid _ := c16
  have C17 : Hid _ := c17
  have C18 : Hid _ := c18
  clear c0 c1 c2 c3 c4 c5 c6 c7 c8 c9 c10 c11 c12 c13 c14 c15 c16 c17 c18
  go_enter Tryd.func3, Tryd.ntmps3
  refine wp_seq ?_
  refine walk_seq 4 [.made (cells6 n) 24, .made (cells6 a) 24, .made (cells6 b) 24, .quiet (.bool false)] (fun w' => Mm w' [(0, dtab)]) ?pre1 ?F1 ?hpre1 (fun γ => ?hF1) (by kernel_rfl) ?hL1 ?hS1 ?ho1 ?he1
  case hpre1 =>
    simp only [List.take_succ_cons, List.take_zero]
    exact rfl
  case hF1 =>
    simp only [fill, Kind.val, Act.put, List.setIfInBounds_toArray, List.set_cons_zero, List.set_cons_succ]
    exact rfl
  case hL1 => exact trivial
  case hS1 => exact fun w' hb => H0.out.1.below hb
  case ho1 =>
    refine AllOk.cons ?_ ?_
    · exact fun γ => ⟨rfl, fun w' => ex_box6 rfl rfl⟩
    refine AllOk.cons ?_ ?_
    · exact fun γ => ⟨rfl, fun w' => ex_box6 rfl rfl⟩
    refine AllOk.cons ?_ ?_
    · exact fun γ => ⟨rfl, fun w' => ex_box6 rfl rfl⟩
    refine AllOk.cons ?_ ?_
    · exact fun γ => ⟨rfl, fun w' _ => rfl⟩
    exact trivial
  intro γ w1 l hM hl
  have M1 : Mm w1 [(γ 0, cells6 n), (γ 1, cells6 a), (γ 2, cells6 b), (0, dtab)] := H0.out.1.grow hM (Nat.le_refl _) hl [0, 1, 2] rfl (by decide)
  have B1 : Below w.heap.size w w1 := H0.out.2.trans (hM.below.mono H0.out.2.size)
  have o1_0 : Hid (w.heap.size ≤ γ 0) := Nat.le_trans H0.out.2.size (hM.fin (Nat.le_refl _) hl (i := 0) rfl).2.1
  have o1_1 : Hid (w.heap.size ≤ γ 1) := Nat.le_trans H0.out.2.size (hM.fin (Nat.le_refl _) hl (i := 1) rfl).2.1
  have o1_2 : Hid (w.heap.size ≤ γ 2) := Nat.le_trans H0.out.2.size (hM.fin (Nat.le_refl _) hl (i := 2) rfl).2.1
  clear hM hl l
  generalize γ 0 = γ1_0 at M1 o1_0 ⊢
  generalize γ 1 = γ1_1 at M1 o1_1 ⊢
  generalize γ 2 = γ1_2 at M1 o1_2 ⊢
  clear γ
  have H1 : Hid (_ ∧ _) := ⟨M1, B1⟩
  clear M1 B1
  refine rest_at (l := []) rfl ?_
  refine rest_nil ?_
  refine then_normal ?_
  refine wp_seq ?_
  refine walk_seq 2 [.quiet (N n), .born (fun g => .tuple #[PT g 0, .int .i64 0]) (modc n)] (fun w' => Mm w' [(γ1_0, cells6 n), (γ1_1, cells6 a), (γ1_2, cells6 b), (0, dtab)]) ?pre2 ?F2 ?hpre2 (fun γ => ?hF2) (by kernel_rfl) ?hL2 ?hS2 ?ho2 ?he2
  case hpre2 =>
    simp only [List.take_succ_cons, List.take_zero]
    exact rfl
  case hF2 =>
    simp only [fill, Kind.val, Act.put, List.setIfInBounds_toArray, List.set_cons_zero, List.set_cons_succ]
    exact rfl
  case hL2 => exact trivial
  case hS2 => exact fun w' hb => H1.out.1.below hb
  case ho2 =>
    refine AllOk.cons ?_ ?_
    · exact fun γ => ⟨rfl, fun w' h => ex_load6 h 0 rfl rfl rfl rfl⟩
    refine AllOk.cons ?_ ?_
    · exact fun γ => ⟨rfl, fun w' h => ⟨4, #[N n], exec_call rfl call4 rfl (by simp only [List.map_toArray, List.map_cons, List.map_nil]; rfl), C0.out w'⟩⟩
    exact trivial
  intro γ w2 l hM hl
  have M2 : Mm w2 [(γ 1, modc n), (γ1_0, cells6 n), (γ1_1, cells6 a), (γ1_2, cells6 b), (0, dtab)] := H1.out.1.grow hM (Nat.le_refl _) hl [1] rfl (by decide)
  have B2 : Below w.heap.size w w2 := H1.out.2.trans (hM.below.mono H1.out.2.size)
  have o2_1 : Hid (w.heap.size ≤ γ 1) := Nat.le_trans H1.out.2.size (hM.fin (Nat.le_refl _) hl (i := 1) rfl).2.1
  clear hM hl l H1
  generalize γ 1 = γ2_1 at M2 o2_1 ⊢
  clear γ
  have H2 : Hid (_ ∧ _) := ⟨M2, B2⟩
  clear M2 B2
  refine rest_at (l := [2, 3, 4, 5, 6]) rfl ?_
  refine rest_set (d := 15) rfl rfl rfl rfl ?_
  simp only [Act.put, List.setIfInBounds_toArray, List.set_cons_zero, List.set_cons_succ]
  refine rest_set (d := 18) (v := PT γ2_1 0) (w' := w2) rfl rfl rfl (by go_simp) ?_
  simp only [Act.put, List.setIfInBounds_toArray, List.set_cons_zero, List.set_cons_succ]
  refine rest_set (d := 19) (v := .int .i64 0) (w' := w2) rfl rfl rfl (by go_simp) ?_
  simp only [Act.put, List.setIfInBounds_toArray, List.set_cons_zero, List.set_cons_succ]
  refine rest_set (d := 7) rfl rfl rfl rfl ?_
  simp only [Act.put, List.setIfInBounds_toArray, List.set_cons_zero, List.set_cons_succ]
  refine rest_set (d := 8) rfl rfl rfl rfl ?_
  simp only [Act.put, List.setIfInBounds_toArray, List.set_cons_zero, List.set_cons_succ]
  refine rest_nil ?_
  refine then_normal ?_
  refine wp_seq ?_
  refine wp_seq ?_
  refine walk_seq 3 [.quiet (N n), .call (.bool true), .quiet (.bool false)] (fun w' => Mm w' [(γ2_1, modc n), (γ1_0, cells6 n), (γ1_1, cells6 a), (γ1_2, cells6 b), (0, dtab)]) ?pre3 ?F3 ?hpre3 (fun γ => ?hF3) (by kernel_rfl) ?hL3 ?hS3 ?ho3 ?he3
  case hpre3 =>
    simp only [List.take_succ_cons, List.take_zero]
    exact rfl
  case hF3 =>
    simp only [fill, Kind.val, Act.put, List.setIfInBounds_toArray, List.set_cons_zero, List.set_cons_succ]
    exact rfl
  case hL3 => exact trivial
  case hS3 => exact fun w' hb => H2.out.1.below hb
  case ho3 =>
    refine AllOk.cons ?_ ?_
    · exact fun γ => ⟨rfl, fun w' h => ex_load6 h 1 rfl rfl rfl rfl⟩
    refine AllOk.cons ?_ ?_
    · exact fun γ => ⟨rfl, fun w' h => ⟨5, #[N n], exec_call rfl call5 rfl (by simp only [List.map_toArray, List.map_cons, List.map_nil]; rfl), C1.out w'⟩⟩
    refine AllOk.cons ?_ ?_
    · (refine fun γ => ⟨rfl, fun w' h => ?_⟩; clear h; go_simp)
    exact trivial
  intro γ w3 l hM hl
  have M3 : Mm w3 [(γ2_1, modc n), (γ1_0, cells6 n), (γ1_1, cells6 a), (γ1_2, cells6 b), (0, dtab)] := H2.out.1.grow hM (Nat.le_refl _) hl [] rfl (by decide)
  have B3 : Below w.heap.size w w3 := H2.out.2.trans (hM.below.mono H2.out.2.size)
  clear hM hl l H2
  clear γ
  have H3 : Hid (_ ∧ _) := ⟨M3, B3⟩
  clear M3 B3
  refine rest_at (l := []) rfl ?_
  refine rest_nil ?_
  refine then_normal ?_
  refine wp_cond_false rfl ?_
  refine wp_skip ?_
  refine then_normal ?_
  refine wp_seq ?_
  refine wp_seq ?_
  refine walk_any (by kernel_rfl) 12 [.quiet (PT γ2_1 0), .quiet (.bool false), .quiet (.bool false), .quiet (.int .i64 0), .quiet (.bool false), .quiet (.bool false), .quiet (.bool false), .quiet (PT γ2_1 0), .call (N n), .quiet (N n), .quiet (.bool false), .quiet (.bool false)] (fun w' => Mm w' [(γ2_1, modc n), (γ1_0, cells6 n), (γ1_1, cells6 a), (γ1_2, cells6 b), (0, dtab)]) ?pre4 ?F4 ?hpre4 (fun γ => ?hF4) (by kernel_rfl) ?hL4 ?hS4 ?ho4 ?he4
  case hpre4 =>
    simp only [List.take_succ_cons, List.take_zero]
    exact rfl
  case hF4 =>
    simp only [fill, Kind.val, Act.put, List.setIfInBounds_toArray, List.set_cons_zero, List.set_cons_succ]
    exact rfl
  case hL4 => exact trivial
  case hS4 => exact fun w' hb => H3.out.1.below hb
  case ho4 =>
    refine AllOk.cons ?_ ?_
    · exact fun γ => ⟨rfl, fun w' _ => rfl⟩
    refine AllOk.cons ?_ ?_
    · (refine fun γ => ⟨rfl, fun w' h => ?_⟩; clear h; go_simp)
    refine AllOk.cons ?_ ?_
    · exact fun γ => ⟨rfl, fun w' _ => rfl⟩
    refine AllOk.cons ?_ ?_
    · exact fun γ => ⟨rfl, fun w' _ => rfl⟩
    refine AllOk.cons ?_ ?_
    · (refine fun γ => ⟨rfl, fun w' h => ?_⟩; clear h; go_simp)
    refine AllOk.cons ?_ ?_
    · (refine fun γ => ⟨rfl, fun w' h => ?_⟩; clear h; go_simp)
    refine AllOk.cons ?_ ?_
    · exact fun γ => ⟨rfl, fun w' _ => rfl⟩
    refine AllOk.cons ?_ ?_
    · exact fun γ => ⟨rfl, fun w' _ => rfl⟩
    refine AllOk.cons ?_ ?_
    · exact fun γ => ⟨rfl, fun w' h => ⟨6, #[PT γ2_1 0], exec_call rfl call6 rfl (by simp only [List.map_toArray, List.map_cons, List.map_nil]; rfl), C2.out _ w' (h.one 0 rfl)⟩⟩
    refine AllOk.cons ?_ ?_
    · exact fun γ => ⟨rfl, fun w' h => ex_load6 h 1 rfl rfl rfl rfl⟩
    refine AllOk.cons ?_ ?_
    · exact fun γ => ⟨rfl, fun w' _ => exec_neq6 e_n rfl rfl rfl⟩
    refine AllOk.cons ?_ ?_
    · (refine fun γ => ⟨rfl, fun w' h => ?_⟩; clear h; go_simp)
    exact trivial
  intro γ w4 l hM hl
  have M4 : Mm w4 [(γ2_1, modc n), (γ1_0, cells6 n), (γ1_1, cells6 a), (γ1_2, cells6 b), (0, dtab)] := H3.out.1.grow hM (Nat.le_refl _) hl [] rfl (by decide)
  have B4 : Below w.heap.size w w4 := H3.out.2.trans (hM.below.mono H3.out.2.size)
  clear hM hl l H3
  clear γ
  have H4 : Hid (_ ∧ _) := ⟨M4, B4⟩
  clear M4 B4
  refine rest_at (l := []) rfl ?_
  refine rest_nil ?_
  refine then_normal ?_
  refine wp_cond_false rfl ?_
  refine wp_skip ?_
  refine then_normal ?_
  refine wp_seq ?_
  refine walk_any (by kernel_rfl) 61 [.quiet (PT γ2_1 0), .quiet (N a), .call (N r1), .quiet (N n), .quiet (N a), .call (N r1), .quiet (.bool true), .quiet (.bool true), .quiet (PT γ2_1 0), .quiet (N a), .quiet (N b), .call (N r2), .quiet (N n), .quiet (N a), .quiet (N b), .call (N r2), .quiet (.bool true), .quiet (.bool true), .quiet (.bool true), .quiet (PT γ2_1 0), .quiet (N a), .quiet (N b), .call (N r3), .quiet (N n), .quiet (N a), .quiet (N b), .call (N r3), .quiet (.bool true), .quiet (.bool true), .quiet (.bool true), .quiet (PT γ2_1 0), .quiet (N a), .quiet (N b), .call (N r4), .quiet (N n), .quiet (N a), .quiet (N b), .call (N r4), .quiet (.bool true), .quiet (.bool true), .quiet (.bool true), .quiet (PT γ2_1 0), .quiet (N a), .call (N r5), .quiet (N n), .quiet (N a), .call (N r5), .quiet (.bool true), .quiet (.bool true), .quiet (.bool true), .quiet (PT γ2_1 0), .quiet (N a), .quiet (N b), .call (N r6), .quiet (N n), .quiet (N a), .quiet (N b), .call (N r6), .quiet (.bool true), .quiet (.bool true), .quiet (.bool true)] (fun w' => Mm w' [(γ2_1, modc n), (γ1_0, cells6 n), (γ1_1, cells6 a), (γ1_2, cells6 b), (0, dtab)]) ?pre5 ?F5 ?hpre5 (fun γ => ?hF5) (by kernel_rfl) ?hL5 ?hS5 ?ho5 ?he5
  case hpre5 =>
    simp only [List.take_succ_cons, List.take_zero]
    exact rfl
  case hF5 =>
    simp only [fill, Kind.val, Act.put, List.setIfInBounds_toArray, List.set_cons_zero, List.set_cons_succ]
    exact rfl
  case hL5 => exact trivial
  case hS5 => exact fun w' hb => H4.out.1.below hb
  case ho5 =>
    refine AllOk.cons ?_ ?_
    · exact fun γ => ⟨rfl, fun w' _ => rfl⟩
    refine AllOk.cons ?_ ?_
    · exact fun γ => ⟨rfl, fun w' h => ex_load6 h 2 rfl rfl rfl rfl⟩
    refine AllOk.cons ?_ ?_
    · exact fun γ => ⟨rfl, fun w' h => ⟨7, #[PT γ2_1 0, N a], exec_call rfl call7 rfl (by simp only [List.map_toArray, List.map_cons, List.map_nil]; rfl), C3.out _ w' (h.one 0 rfl)⟩⟩
    refine AllOk.cons ?_ ?_
    · exact fun γ => ⟨rfl, fun w' h => ex_load6 h 1 rfl rfl rfl rfl⟩
    refine AllOk.cons ?_ ?_
    · exact fun γ => ⟨rfl, fun w' h => ex_load6 h 2 rfl rfl rfl rfl⟩
    refine AllOk.cons ?_ ?_
    · exact fun γ => ⟨rfl, fun w' h => ⟨8, #[N n, N a], exec_call rfl call8 rfl (by simp only [List.map_toArray, List.map_cons, List.map_nil]; rfl), C4.out w'⟩⟩
    refine AllOk.cons ?_ ?_
    · exact fun γ => ⟨rfl, fun w' _ => exec_eq6 e_r1 rfl rfl rfl⟩
    refine AllOk.cons ?_ ?_
    · exact fun γ => ⟨rfl, fun w' _ => rfl⟩
    refine AllOk.cons ?_ ?_
    · exact fun γ => ⟨rfl, fun w' _ => rfl⟩
    refine AllOk.cons ?_ ?_
    · exact fun γ => ⟨rfl, fun w' h => ex_load6 h 2 rfl rfl rfl rfl⟩
    refine AllOk.cons ?_ ?_
    · exact fun γ => ⟨rfl, fun w' h => ex_load6 h 3 rfl rfl rfl rfl⟩
    refine AllOk.cons ?_ ?_
    · exact fun γ => ⟨rfl, fun w' h => ⟨9, #[PT γ2_1 0, N a, N b], exec_call rfl call9 rfl (by simp only [List.map_toArray, List.map_cons, List.map_nil]; rfl), C5.out _ w' (h.one 0 rfl)⟩⟩
    refine AllOk.cons ?_ ?_
    · exact fun γ => ⟨rfl, fun w' h => ex_load6 h 1 rfl rfl rfl rfl⟩
    refine AllOk.cons ?_ ?_
    · exact fun γ => ⟨rfl, fun w' h => ex_load6 h 2 rfl rfl rfl rfl⟩
    refine AllOk.cons ?_ ?_
    · exact fun γ => ⟨rfl, fun w' h => ex_load6 h 3 rfl rfl rfl rfl⟩
    refine AllOk.cons ?_ ?_
    · exact fun γ => ⟨rfl, fun w' h => ⟨10, #[N n, N a, N b], exec_call rfl call10 rfl (by simp only [List.map_toArray, List.map_cons, List.map_nil]; rfl), C6.out w'⟩⟩
    refine AllOk.cons ?_ ?_
    · exact fun γ => ⟨rfl, fun w' _ => exec_eq6 e_r2 rfl rfl rfl⟩
    refine AllOk.cons ?_ ?_
    · (refine fun γ => ⟨rfl, fun w' h => ?_⟩; clear h; go_simp)
    refine AllOk.cons ?_ ?_
    · exact fun γ => ⟨rfl, fun w' _ => rfl⟩
    refine AllOk.cons ?_ ?_
    · exact fun γ => ⟨rfl, fun w' _ => rfl⟩
    refine AllOk.cons ?_ ?_
    · exact fun γ => ⟨rfl, fun w' h => ex_load6 h 2 rfl rfl rfl rfl⟩
    refine AllOk.cons ?_ ?_
    · exact fun γ => ⟨rfl, fun w' h => ex_load6 h 3 rfl rfl rfl rfl⟩
    refine AllOk.cons ?_ ?_
    · exact fun γ => ⟨rfl, fun w' h => ⟨11, #[PT γ2_1 0, N a, N b], exec_call rfl call11 rfl (by simp only [List.map_toArray, List.map_cons, List.map_nil]; rfl), C7.out _ w' (h.one 0 rfl)⟩⟩
    refine AllOk.cons ?_ ?_
    · exact fun γ => ⟨rfl, fun w' h => ex_load6 h 1 rfl rfl rfl rfl⟩
    refine AllOk.cons ?_ ?_
    · exact fun γ => ⟨rfl, fun w' h => ex_load6 h 2 rfl rfl rfl rfl⟩
    refine AllOk.cons ?_ ?_
    · exact fun γ => ⟨rfl, fun w' h => ex_load6 h 3 rfl rfl rfl rfl⟩
    refine AllOk.cons ?_ ?_
    · exact fun γ => ⟨rfl, fun w' h => ⟨12, #[N n, N a, N b], exec_call rfl call12 rfl (by simp only [List.map_toArray, List.map_cons, List.map_nil]; rfl), C8.out w'⟩⟩
    refine AllOk.cons ?_ ?_
    · exact fun γ => ⟨rfl, fun w' _ => exec_eq6 e_r3 rfl rfl rfl⟩
    refine AllOk.cons ?_ ?_
    · (refine fun γ => ⟨rfl, fun w' h => ?_⟩; clear h; go_simp)
    refine AllOk.cons ?_ ?_
    · exact fun γ => ⟨rfl, fun w' _ => rfl⟩
    refine AllOk.cons ?_ ?_
    · exact fun γ => ⟨rfl, fun w' _ => rfl⟩
    refine AllOk.cons ?_ ?_
    · exact fun γ => ⟨rfl, fun w' h => ex_load6 h 2 rfl rfl rfl rfl⟩
    refine AllOk.cons ?_ ?_
    · exact fun γ => ⟨rfl, fun w' h => ex_load6 h 3 rfl rfl rfl rfl⟩
    refine AllOk.cons ?_ ?_
    · exact fun γ => ⟨rfl, fun w' h => ⟨13, #[PT γ2_1 0, N a, N b], exec_call rfl call13 rfl (by simp only [List.map_toArray, List.map_cons, List.map_nil]; rfl), C9.out _ w' (h.one 0 rfl)⟩⟩
    refine AllOk.cons ?_ ?_
    · exact fun γ => ⟨rfl, fun w' h => ex_load6 h 1 rfl rfl rfl rfl⟩
    refine AllOk.cons ?_ ?_
    · exact fun γ => ⟨rfl, fun w' h => ex_load6 h 2 rfl rfl rfl rfl⟩
    refine AllOk.cons ?_ ?_
    · exact fun γ => ⟨rfl, fun w' h => ex_load6 h 3 rfl rfl rfl rfl⟩
    refine AllOk.cons ?_ ?_
    · exact fun γ => ⟨rfl, fun w' h => ⟨14, #[N n, N a, N b], exec_call rfl call14 rfl (by simp only [List.map_toArray, List.map_cons, List.map_nil]; rfl), C10.out w'⟩⟩
    refine AllOk.cons ?_ ?_
    · exact fun γ => ⟨rfl, fun w' _ => exec_eq6 e_r4 rfl rfl rfl⟩
    refine AllOk.cons ?_ ?_
    · (refine fun γ => ⟨rfl, fun w' h => ?_⟩; clear h; go_simp)
    refine AllOk.cons ?_ ?_
    · exact fun γ => ⟨rfl, fun w' _ => rfl⟩
    refine AllOk.cons ?_ ?_
    · exact fun γ => ⟨rfl, fun w' _ => rfl⟩
    refine AllOk.cons ?_ ?_
    · exact fun γ => ⟨rfl, fun w' h => ex_load6 h 2 rfl rfl rfl rfl⟩
    refine AllOk.cons ?_ ?_
    · exact fun γ => ⟨rfl, fun w' h => ⟨15, #[PT γ2_1 0, N a], exec_call rfl call15 rfl (by simp only [List.map_toArray, List.map_cons, List.map_nil]; rfl), C11.out _ w' (h.one 0 rfl)⟩⟩
    refine AllOk.cons ?_ ?_
    · exact fun γ => ⟨rfl, fun w' h => ex_load6 h 1 rfl rfl rfl rfl⟩
    refine AllOk.cons ?_ ?_
    · exact fun γ => ⟨rfl, fun w' h => ex_load6 h 2 rfl rfl rfl rfl⟩
    refine AllOk.cons ?_ ?_
    · exact fun γ => ⟨rfl, fun w' h => ⟨16, #[N n, N a], exec_call rfl call16 rfl (by simp only [List.map_toArray, List.map_cons, List.map_nil]; rfl), C12.out w'⟩⟩
    refine AllOk.cons ?_ ?_
    · exact fun γ => ⟨rfl, fun w' _ => exec_eq6 e_r5 rfl rfl rfl⟩
    refine AllOk.cons ?_ ?_
    · (refine fun γ => ⟨rfl, fun w' h => ?_⟩; clear h; go_simp)
    refine AllOk.cons ?_ ?_
    · exact fun γ => ⟨rfl, fun w' _ => rfl⟩
    refine AllOk.cons ?_ ?_
    · exact fun γ => ⟨rfl, fun w' _ => rfl⟩
    refine AllOk.cons ?_ ?_
    · exact fun γ => ⟨rfl, fun w' h => ex_load6 h 2 rfl rfl rfl rfl⟩
    refine AllOk.cons ?_ ?_
    · exact fun γ => ⟨rfl, fun w' h => ex_load6 h 3 rfl rfl rfl rfl⟩
    refine AllOk.cons ?_ ?_
    · exact fun γ => ⟨rfl, fun w' h => ⟨17, #[PT γ2_1 0, N a, N b], exec_call rfl call17 rfl (by simp only [List.map_toArray, List.map_cons, List.map_nil]; rfl), C13.out _ w' (h.one 0 rfl)⟩⟩
    refine AllOk.cons ?_ ?_
    · exact fun γ => ⟨rfl, fun w' h => ex_load6 h 1 rfl rfl rfl rfl⟩
    refine AllOk.cons ?_ ?_
    · exact fun γ => ⟨rfl, fun w' h => ex_load6 h 2 rfl rfl rfl rfl⟩
    refine AllOk.cons ?_ ?_
    · exact fun γ => ⟨rfl, fun w' h => ex_load6 h 3 rfl rfl rfl rfl⟩
    refine AllOk.cons ?_ ?_
    · exact fun γ => ⟨rfl, fun w' h => ⟨18, #[N n, N a, N b], exec_call rfl call18 rfl (by simp only [List.map_toArray, List.map_cons, List.map_nil]; rfl), C14.out w'⟩⟩
    refine AllOk.cons ?_ ?_
    · exact fun γ => ⟨rfl, fun w' _ => exec_eq6 e_r6 rfl rfl rfl⟩
    refine AllOk.cons ?_ ?_
    · (refine fun γ => ⟨rfl, fun w' h => ?_⟩; clear h; go_simp)
    refine AllOk.cons ?_ ?_
    · exact fun γ => ⟨rfl, fun w' _ => rfl⟩
    exact trivial
  intro γ w5 l hM hl
  have M5 : Mm w5 [(γ2_1, modc n), (γ1_0, cells6 n), (γ1_1, cells6 a), (γ1_2, cells6 b), (0, dtab)] := H4.out.1.grow hM (Nat.le_refl _) hl [] rfl (by decide)
  have B5 : Below w.heap.size w w5 := H4.out.2.trans (hM.below.mono H4.out.2.size)
  clear hM hl l H4
  clear γ
  have H5 : Hid (_ ∧ _) := ⟨M5, B5⟩
  clear M5 B5
  refine rest_at (l := []) rfl ?_
  refine rest_nil ?_
  refine then_normal ?_
  refine wp_seq ?_
  refine walk_seq 6 [.quiet (PT γ1_2 0), .quiet (.int .u64 (wd b 0)), .quiet (.int .u64 ((sm : Nat) : Int)), .quiet (N sm), .made zero6 24, .laid 4 zero6 (cells6 sm)] (fun w' => Mm w' [(γ2_1, modc n), (γ1_0, cells6 n), (γ1_1, cells6 a), (γ1_2, cells6 b), (0, dtab)]) ?pre6 ?F6 ?hpre6 (fun γ => ?hF6) (by kernel_rfl) ?hL6 ?hS6 ?ho6 ?he6
  case hpre6 =>
    simp only [List.take_succ_cons, List.take_zero]
    exact rfl
  case hF6 =>
    simp only [fill, Kind.val, Act.put, List.setIfInBounds_toArray, List.set_cons_zero, List.set_cons_succ]
    exact rfl
  case hL6 => exact ⟨⟨_, rfl⟩, trivial⟩
  case hS6 => exact fun w' hb => H5.out.1.below hb
  case ho6 =>
    refine AllOk.cons ?_ ?_
    · (refine fun γ => ⟨rfl, fun w' h => ?_⟩; clear h; go_simp)
    refine AllOk.cons ?_ ?_
    · exact fun γ => ⟨rfl, fun w' h => ex_load1 h 3 rfl rfl rfl rfl⟩
    refine AllOk.cons ?_ ?_
    · (refine fun γ => ⟨rfl, fun w' h => ?_⟩; clear h; go_simp)
    refine AllOk.cons ?_ ?_
    · exact fun γ => ⟨rfl, fun w' _ => ex_buildx HS.out rfl rfl⟩
    refine AllOk.cons ?_ ?_
    · exact fun γ => ⟨rfl, fun w' => exec_made6 rfl⟩
    refine AllOk.cons ?_ ?_
    · exact fun γ => ⟨rfl, rfl, rfl, fun w' h => exec_laid6 h rfl rfl rfl⟩
    exact trivial
  intro γ w6 l hM hl
  have M6 : Mm w6 [(γ 4, cells6 sm), (γ2_1, modc n), (γ1_0, cells6 n), (γ1_1, cells6 a), (γ1_2, cells6 b), (0, dtab)] := H5.out.1.grow hM (Nat.le_refl _) hl [4] rfl (by decide)
  have B6 : Below w.heap.size w w6 := H5.out.2.trans (hM.below.mono H5.out.2.size)
  have o6_4 : Hid (w.heap.size ≤ γ 4) := Nat.le_trans H5.out.2.size (hM.fin (Nat.le_refl _) hl (i := 4) rfl).2.1
  clear hM hl l H5
  generalize γ 4 = γ6_4 at M6 o6_4 ⊢
  clear γ
  have H6 : Hid (_ ∧ _) := ⟨M6, B6⟩
  clear M6 B6
  refine rest_at (l := []) rfl ?_
  refine rest_nil ?_
  refine then_normal ?_
  refine wp_seq ?_
  refine walk_seq 9 [.quiet (PT γ2_1 0), .quiet (N a), .call (.tuple #[N r8, .int .i64 6]), .quiet (.tuple #[N r8, .int .i64 6]), .quiet (N r8), .quiet (.int .i64 6), .made zero6 24, .laid 6 zero6 (cells6 r8), .quiet (.int .i64 6)] (fun w' => Mm w' [(γ6_4, cells6 sm), (γ2_1, modc n), (γ1_0, cells6 n), (γ1_1, cells6 a), (γ1_2, cells6 b), (0, dtab)]) ?pre7 ?F7 ?hpre7 (fun γ => ?hF7) (by kernel_rfl) ?hL7 ?hS7 ?ho7 ?he7
  case hpre7 =>
    simp only [List.take_succ_cons, List.take_zero]
    exact rfl
  case hF7 =>
    simp only [fill, Kind.val, Act.put, List.setIfInBounds_toArray, List.set_cons_zero, List.set_cons_succ]
    exact rfl
  case hL7 => exact ⟨⟨_, rfl⟩, trivial⟩
  case hS7 => exact fun w' hb => H6.out.1.below hb
  case ho7 =>
    refine AllOk.cons ?_ ?_
    · exact fun γ => ⟨rfl, fun w' _ => rfl⟩
    refine AllOk.cons ?_ ?_
    · exact fun γ => ⟨rfl, fun w' h => ex_load6 h 3 rfl rfl rfl rfl⟩
    refine AllOk.cons ?_ ?_
    · exact fun γ => ⟨rfl, fun w' h => ⟨19, #[PT γ2_1 0, N a], exec_call rfl call19 rfl (by simp only [List.map_toArray, List.map_cons, List.map_nil]; rfl), C17.out _ w' (h.two 1 5 rfl rfl (by decide))⟩⟩
    refine AllOk.cons ?_ ?_
    · exact fun γ => ⟨rfl, fun w' _ => rfl⟩
    refine AllOk.cons ?_ ?_
    · (refine fun γ => ⟨rfl, fun w' h => ?_⟩; clear h; go_simp)
    refine AllOk.cons ?_ ?_
    · (refine fun γ => ⟨rfl, fun w' h => ?_⟩; clear h; go_simp)
    refine AllOk.cons ?_ ?_
    · exact fun γ => ⟨rfl, fun w' => exec_made6 rfl⟩
    refine AllOk.cons ?_ ?_
    · exact fun γ => ⟨rfl, rfl, rfl, fun w' h => exec_laid6 h rfl rfl rfl⟩
    refine AllOk.cons ?_ ?_
    · exact fun γ => ⟨rfl, fun w' _ => rfl⟩
    exact trivial
  intro γ w7 l hM hl
  have M7 : Mm w7 [(γ 6, cells6 r8), (γ6_4, cells6 sm), (γ2_1, modc n), (γ1_0, cells6 n), (γ1_1, cells6 a), (γ1_2, cells6 b), (0, dtab)] := H6.out.1.grow hM (Nat.le_refl _) hl [6] rfl (by decide)
  have B7 : Below w.heap.size w w7 := H6.out.2.trans (hM.below.mono H6.out.2.size)
  have o7_6 : Hid (w.heap.size ≤ γ 6) := Nat.le_trans H6.out.2.size (hM.fin (Nat.le_refl _) hl (i := 6) rfl).2.1
  clear hM hl l H6
  generalize γ 6 = γ7_6 at M7 o7_6 ⊢
  clear γ
  have H7 : Hid (_ ∧ _) := ⟨M7, B7⟩
  clear M7 B7
  refine rest_at (l := []) rfl ?_
  refine rest_nil ?_
  refine then_normal ?_
  refine wp_seq ?_
  refine walk_seq 9 [.quiet (N n), .quiet (N a), .call (.tuple #[N r8, .int .i64 6]), .quiet (.tuple #[N r8, .int .i64 6]), .quiet (N r8), .quiet (.int .i64 6), .made zero6 24, .laid 6 zero6 (cells6 r8), .quiet (.int .i64 6)] (fun w' => Mm w' [(γ7_6, cells6 r8), (γ6_4, cells6 sm), (γ2_1, modc n), (γ1_0, cells6 n), (γ1_1, cells6 a), (γ1_2, cells6 b), (0, dtab)]) ?pre8 ?F8 ?hpre8 (fun γ => ?hF8) (by kernel_rfl) ?hL8 ?hS8 ?ho8 ?he8
  case hpre8 =>
    simp only [List.take_succ_cons, List.take_zero]
    exact rfl
  case hF8 =>
    simp only [fill, Kind.val, Act.put, List.setIfInBounds_toArray, List.set_cons_zero, List.set_cons_succ]
    exact rfl
  case hL8 => exact ⟨⟨_, rfl⟩, trivial⟩
  case hS8 => exact fun w' hb => H7.out.1.below hb
  case ho8 =>
    refine AllOk.cons ?_ ?_
    · exact fun γ => ⟨rfl, fun w' h => ex_load6 h 3 rfl rfl rfl rfl⟩
    refine AllOk.cons ?_ ?_
    · exact fun γ => ⟨rfl, fun w' h => ex_load6 h 4 rfl rfl rfl rfl⟩
    refine AllOk.cons ?_ ?_
    · exact fun γ => ⟨rfl, fun w' h => ⟨20, #[N n, N a], exec_call rfl call20 rfl (by simp only [List.map_toArray, List.map_cons, List.map_nil]; rfl), C18.out w'⟩⟩
    refine AllOk.cons ?_ ?_
    · exact fun γ => ⟨rfl, fun w' _ => rfl⟩
    refine AllOk.cons ?_ ?_
    · (refine fun γ => ⟨rfl, fun w' h => ?_⟩; clear h; go_simp)
    refine AllOk.cons ?_ ?_
    · (refine fun γ => ⟨rfl, fun w' h => ?_⟩; clear h; go_simp)
    refine AllOk.cons ?_ ?_
    · exact fun γ => ⟨rfl, fun w' => exec_made6 rfl⟩
    refine AllOk.cons ?_ ?_
    · exact fun γ => ⟨rfl, rfl, rfl, fun w' h => exec_laid6 h rfl rfl rfl⟩
    refine AllOk.cons ?_ ?_
    · exact fun γ => ⟨rfl, fun w' _ => rfl⟩
    exact trivial
  intro γ w8 l hM hl
  have M8 : Mm w8 [(γ 6, cells6 r8), (γ7_6, cells6 r8), (γ6_4, cells6 sm), (γ2_1, modc n), (γ1_0, cells6 n), (γ1_1, cells6 a), (γ1_2, cells6 b), (0, dtab)] := H7.out.1.grow hM (Nat.le_refl _) hl [6] rfl (by decide)
  have B8 : Below w.heap.size w w8 := H7.out.2.trans (hM.below.mono H7.out.2.size)
  have o8_6 : Hid (w.heap.size ≤ γ 6) := Nat.le_trans H7.out.2.size (hM.fin (Nat.le_refl _) hl (i := 6) rfl).2.1
  clear hM hl l H7
  generalize γ 6 = γ8_6 at M8 o8_6 ⊢
  clear γ
  have H8 : Hid (_ ∧ _) := ⟨M8, B8⟩
  clear M8 B8
  refine rest_at (l := []) rfl ?_
  refine rest_nil ?_
  refine then_normal ?_
  refine wp_seq ?_
  refine walk_any (by kernel_rfl) 23 [.quiet (.bool true), .quiet (.bool true), .quiet (PT γ2_1 0), .quiet (N a), .quiet (N sm), .call (N r7), .quiet (N n), .quiet (N a), .quiet (N sm), .call (N r7), .quiet (.bool true), .quiet (.bool true), .quiet (.bool true), .quiet (N r8), .quiet (N r8), .quiet (.bool true), .quiet (.bool true), .quiet (.bool true), .quiet (.int .i64 6), .quiet (.int .i64 6), .quiet (.bool true), .quiet (.bool true), .quiet (.bool true)] (fun w' => Mm w' [(γ8_6, cells6 r8), (γ7_6, cells6 r8), (γ6_4, cells6 sm), (γ2_1, modc n), (γ1_0, cells6 n), (γ1_1, cells6 a), (γ1_2, cells6 b), (0, dtab)]) ?pre9 ?F9 ?hpre9 (fun γ => ?hF9) (by kernel_rfl) ?hL9 ?hS9 ?ho9 ?he9
  case hpre9 =>
    simp only [List.take_succ_cons, List.take_zero]
    exact rfl
  case hF9 =>
    simp only [fill, Kind.val, Act.put, List.setIfInBounds_toArray, List.set_cons_zero, List.set_cons_succ]
    exact rfl
  case hL9 => exact trivial
  case hS9 => exact fun w' hb => H8.out.1.below hb
  case ho9 =>
    refine AllOk.cons ?_ ?_
    · exact fun γ => ⟨rfl, fun w' _ => rfl⟩
    refine AllOk.cons ?_ ?_
    · exact fun γ => ⟨rfl, fun w' _ => rfl⟩
    refine AllOk.cons ?_ ?_
    · exact fun γ => ⟨rfl, fun w' _ => rfl⟩
    refine AllOk.cons ?_ ?_
    · exact fun γ => ⟨rfl, fun w' h => ex_load6 h 5 rfl rfl rfl rfl⟩
    refine AllOk.cons ?_ ?_
    · exact fun γ => ⟨rfl, fun w' h => ex_load6 h 2 rfl rfl rfl rfl⟩
    refine AllOk.cons ?_ ?_
    · exact fun γ => ⟨rfl, fun w' h => ⟨21, #[PT γ2_1 0, N a, N sm], exec_call rfl call21 rfl (by simp only [List.map_toArray, List.map_cons, List.map_nil]; rfl), C15.out _ w' (h.one 3 rfl)⟩⟩
    refine AllOk.cons ?_ ?_
    · exact fun γ => ⟨rfl, fun w' h => ex_load6 h 4 rfl rfl rfl rfl⟩
    refine AllOk.cons ?_ ?_
    · exact fun γ => ⟨rfl, fun w' h => ex_load6 h 5 rfl rfl rfl rfl⟩
    refine AllOk.cons ?_ ?_
    · exact fun γ => ⟨rfl, fun w' h => ex_load6 h 2 rfl rfl rfl rfl⟩
    refine AllOk.cons ?_ ?_
    · exact fun γ => ⟨rfl, fun w' h => ⟨22, #[N n, N a, N sm], exec_call rfl call22 rfl (by simp only [List.map_toArray, List.map_cons, List.map_nil]; rfl), C16.out w'⟩⟩
    refine AllOk.cons ?_ ?_
    · exact fun γ => ⟨rfl, fun w' _ => exec_eq6 e_r7 rfl rfl rfl⟩
    refine AllOk.cons ?_ ?_
    · (refine fun γ => ⟨rfl, fun w' h => ?_⟩; clear h; go_simp)
    refine AllOk.cons ?_ ?_
    · exact fun γ => ⟨rfl, fun w' _ => rfl⟩
    refine AllOk.cons ?_ ?_
    · exact fun γ => ⟨rfl, fun w' h => ex_load6 h 1 rfl rfl rfl rfl⟩
    refine AllOk.cons ?_ ?_
    · exact fun γ => ⟨rfl, fun w' h => ex_load6 h 0 rfl rfl rfl rfl⟩
    refine AllOk.cons ?_ ?_
    · exact fun γ => ⟨rfl, fun w' _ => exec_eq6 e_r8 rfl rfl rfl⟩
    refine AllOk.cons ?_ ?_
    · (refine fun γ => ⟨rfl, fun w' h => ?_⟩; clear h; go_simp)
    refine AllOk.cons ?_ ?_
    · exact fun γ => ⟨rfl, fun w' _ => rfl⟩
    refine AllOk.cons ?_ ?_
    · exact fun γ => ⟨rfl, fun w' _ => rfl⟩
    refine AllOk.cons ?_ ?_
    · exact fun γ => ⟨rfl, fun w' _ => rfl⟩
    refine AllOk.cons ?_ ?_
    · (refine fun γ => ⟨rfl, fun w' h => ?_⟩; clear h; go_simp)
    refine AllOk.cons ?_ ?_
    · (refine fun γ => ⟨rfl, fun w' h => ?_⟩; clear h; go_simp)
    refine AllOk.cons ?_ ?_
    · exact fun γ => ⟨rfl, fun w' _ => rfl⟩
    exact trivial
  intro γ w9 l hM hl
  have M9 : Mm w9 [(γ8_6, cells6 r8), (γ7_6, cells6 r8), (γ6_4, cells6 sm), (γ2_1, modc n), (γ1_0, cells6 n), (γ1_1, cells6 a), (γ1_2, cells6 b), (0, dtab)] := H8.out.1.grow hM (Nat.le_refl _) hl [] rfl (by decide)
  have B9 : Below w.heap.size w w9 := H8.out.2.trans (hM.below.mono H8.out.2.size)
  clear hM hl l H8
  clear γ
  have H9 : Hid (_ ∧ _) := ⟨M9, B9⟩
  clear M9 B9
  refine rest_at (l := []) rfl ?_
  refine rest_nil ?_
  refine then_normal ?_
  refine wp_ret ?_
  repeat (first | refine then_ret ?_ | refine block_ret ?_)
  refine bodyPost_ret (v := .bool true) (by simp [results, Tryd.results3, go_sem, *]) rfl ?_
  exact ⟨rfl, H9.out.2⟩
end Rg
end Go.Proofs.YtfmjfgkgoenhnaaDoor
end
section
namespace Go.Proofs.YtfmjfgkgoenhnaaDoor
open Go.RowKit
namespace Rg
theorem wd_zero_nat (n : Nat) : wd n 0 = ((n % 18446744073709551616 : Nat) : Int) := by unfold wd; rw [Nat.mul_zero, Nat.pow_zero, Nat.div_one]
theorem low_bit (n : Nat) : bits BinOp.and IntKind.u64 (wd n 0) 1 = ((n % 2 : Nat) : Int) := by
  have h := bits_and_u64_nat (n % 18446744073709551616) 1 (Nat.mod_lt _ (by decide)) (by decide)
  rw [Nat.and_one_is_mod, show n % 18446744073709551616 % 2 = n % 2 by omega] at h
  rw [wd_zero_nat]
  exact h
theorem mask40 (b : Nat) : bits BinOp.and IntKind.u64 (wd b 0) 1099511627775 = ((b % 18446744073709551616 % 1099511627776 : Nat) : Int) := by
  have h := bits_and_u64_nat (b % 18446744073709551616) 1099511627775 (Nat.mod_lt _ (by decide)) (by decide)
  have e : b % 18446744073709551616 &&& 1099511627775 = b % 18446744073709551616 % 1099511627776 := Nat.and_two_pow_sub_one_eq_mod _ 40
  rw [e] at h
  rw [wd_zero_nat]
  exact h
theorem cmp_three {n : Nat} (h : 3 ≤ n) : 0 ≤ cmpv n 3 := by
  unfold cmpv
  split
  · exact Int.le_refl _
  · rw [if_neg (by omega)]; decide
theorem may_ok {n : Nat} (ok : Ok n) (w : World) : Calls Tryd.prog 5 #[N n] w fun e w' => e = .returned (.bool true) ∧ Below w.heap.size w w' := by
  have hb := low_bit n
  rw [ok.odd] at hb
  exact may_4 n 3 _ _ rfl hb (by have := len_ok ok; omega) (fun w => len_ref n ok.big w) (cmp_three ok.three) (fun w => compare_ref n 3 ok.big (small_big 3 (by decide)) w) w
theorem may_no {n : Nat} (hn : n < big) (bad : ¬ Ok n) (w : World) : Calls Tryd.prog 5 #[N n] w fun e w' => e = .returned (.bool false) ∧ Below w.heap.size w w' := by
  have hb := low_bit n
  by_cases h : n % 2 = 1
  · rw [h] at hb
    by_cases h3 : (382 : Int) < (bl n : Nat)
    · exact may_2 n _ hb (by omega) (fun w => len_ref n hn w) w
    · have h2 : n = 1 := Classical.byContradiction fun h2 => bad (ok_len h h2 h3)
      have hc : cmpv n 3 = -1 := by
        rw [h2]; decide
      exact may_3 n 3 _ _ rfl hb (by omega) (fun w => len_ref n hn w) (by rw [hc]; decide) (fun w => compare_ref n 3 hn (small_big 3 (by decide)) w) w
  · rw [show n % 2 = 0 by omega] at hb
    exact may_1 n hb w
theorem tells_any (n a b : Nat) (hn : n < big) (ha : a < big) (hb : b < big) (w : World) (hm : Mm w [(0, dtab)]) :
    Calls Tryd.prog 3 #[N n, N a, N b] w fun e w' => e = .returned (.bool true) ∧ Below w.heap.size w w' := by
  by_cases ok : Ok n
  · have l := okLt ok
    have hk := mask40 b
    have hs := Nat.mod_lt (b % 18446744073709551616) (show 0 < 1099511627776 by decide)
    generalize b % 18446744073709551616 % 1099511627776 = sm at hk hs
    have sb := small_big sm (by omega)
    have s := fun x => Nat.lt_trans (subm_lt_n ok.pos x b) ok.big
    have s' := Nat.lt_trans (subm_lt_n ok.pos 0 a) ok.big
    by_cases hg : Nat.gcd n a = 1
    · have hi : invm n a < big := Nat.lt_trans (invm_spec ok hg).1 ok.big
      exact tells_0 n a b sm _ _ _ _ _ _ _ _ (by omega) hk (eq_refl7 ok.big) (eq_refl7 (l _)) (eq_refl7 (l _)) (eq_refl7 (l _)) (eq_refl7 (s a)) (eq_refl7 s') (eq_refl7 (l _)) (eq_refl7 (l _)) (eq_refl7 hi)
        (fun w => new_ok ok w) (fun w => may_ok ok w) (fun _ w hm => n_any ok w hm)
        (fun _ w hm => reduce_any ok ha w hm) (fun w => rreduce_any ok ha w) (fun _ w hm => wide_any ok ha hb w hm) (fun w => rwide_any ok ha hb w)
        (fun _ w hm => addm_any ok ha hb w hm) (fun w => radd_any ok ha hb w) (fun _ w hm => subm_any ok ha hb w hm) (fun w => rsub_any ok ha hb w)
        (fun _ w hm => negm_any ok ha w hm) (fun w => rneg_any ok ha w) (fun _ w hm => mulm_any ok ha hb w hm) (fun w => rmul_any ok ha hb w)
        (fun _ w hm => powm_any ok ha sb w hm) (fun w => rpow_any ok ha sb w) (fun _ w hm => inv_ok ok ha hg w hm) (fun w => rinv_some ok ha hg w) w hm
    · exact tells_6 n a b sm _ _ _ _ _ _ _ _ (by omega) hk (eq_refl7 ok.big) (eq_refl7 (l _)) (eq_refl7 (l _)) (eq_refl7 (l _)) (eq_refl7 (s a)) (eq_refl7 s') (eq_refl7 (l _)) (eq_refl7 (l _)) (eq_refl7 big_pos)
        (fun w => new_ok ok w) (fun w => may_ok ok w) (fun _ w hm => n_any ok w hm)
        (fun _ w hm => reduce_any ok ha w hm) (fun w => rreduce_any ok ha w) (fun _ w hm => wide_any ok ha hb w hm) (fun w => rwide_any ok ha hb w)
        (fun _ w hm => addm_any ok ha hb w hm) (fun w => radd_any ok ha hb w) (fun _ w hm => subm_any ok ha hb w hm) (fun w => rsub_any ok ha hb w)
        (fun _ w hm => negm_any ok ha w hm) (fun w => rneg_any ok ha w) (fun _ w hm => mulm_any ok ha hb w hm) (fun w => rmul_any ok ha hb w)
        (fun _ w hm => powm_any ok ha sb w hm) (fun w => rpow_any ok ha sb w) (fun _ w hm => inv_bad ok ha hg w hm) (fun w => rinv_none ok ha hg w) w hm
  · exact tells_bad n a b (fun w => new_bad hn ok w) (fun w => may_no hn ok w) w hm
end Rg
end Go.Proofs.YtfmjfgkgoenhnaaDoor
end
section
namespace Go.Proofs.YtfmjfgkgoenhnaaDoor
open Go.ChangeShapes Go.WideShapes Go.ChangeAt Go.RowKit
theorem Tryd.own : ownKnob Tryd.prog.godebug = none := by kernel_rfl
theorem Tryd.laidOut : laidOutB Tryd.prog = true := by kernel_rfl
theorem wd_cons_zero (x r : Nat) (hx : x < 18446744073709551616) : wd (x + 18446744073709551616 * r) 0 = x := by
  unfold wd; rw [Nat.mul_zero, Nat.pow_zero, Nat.div_one]; omega
theorem wd_cons_succ (x r i : Nat) (hx : x < 18446744073709551616) : wd (x + 18446744073709551616 * r) (i + 1) = wd r i := by
  unfold wd
  rw [pow_step, Nat.mul_comm (2 ^ (64 * i)), ← Nat.div_div_eq_div_mul, show (x + 18446744073709551616 * r) / 18446744073709551616 = r by omega]
theorem lt_cons (x r k : Nat) (hx : x < 18446744073709551616) (hr : r < 2 ^ (64 * k)) : x + 18446744073709551616 * r < 2 ^ (64 * (k + 1)) := by
  rw [pow_step]; omega
theorem num_of_words (x : Nat → Nat) (hx : ∀ i, x i < 18446744073709551616) (n : Nat) : ∃ a, a < 2 ^ (64 * n) ∧ ∀ i, i < n → wd a i = x i := by
  induction n generalizing x with
  | zero => exact ⟨0, Nat.two_pow_pos _, fun i h => absurd h (Nat.not_lt_zero _)⟩
  | succ n ih =>
    obtain ⟨r, hr, hw⟩ := ih (fun i => x (i + 1)) (fun i => hx _)
    refine ⟨x 0 + 18446744073709551616 * r, lt_cons _ _ _ (hx 0) hr, fun i hi => ?_⟩
    cases i with
    | zero => exact wd_cons_zero _ _ (hx 0)
    | succ i => rw [wd_cons_succ _ _ _ (hx 0)]; exact hw i (by omega)
theorem open_num {H : Type} {enc : TypeId × Value → H} {w : World} {base : Nat} {sp : Nat → Bool} {held : Bool} {r : Reach} {b0 : Nat} {v : Value} {d : DataW H} {ps : List MemPlace}
    (hval : Value.okWide Tryd.prog w r b0 24 v) (hd : DataW.Trod enc Tryd.prog w base sp held 24 v d ps) : ∃ a, a < big ∧ v = N a ∧ ps = [] := by
  unfold Value.okWide at hval
  rw [Tryd.underlying24] at hval
  obtain ⟨cs, rfl, hsz, _⟩ := hval
  obtain ⟨fuel, hf⟩ := hd
  obtain ⟨xs, m, -, hx, hl, hn, hel⟩ := DataW.trod_array Tryd.underlying24 hf
  have hc : Tryd.prog.cellsOf 22 = 1 := by kernel_rfl
  have hc6 : Tryd.prog.cellsOf 24 = 6 := by kernel_rfl
  rw [hc6] at hsz
  have key : ∀ i, i < 6 → ∃ n : Nat, n < 18446744073709551616 ∧ cs[i]? = some (.int .u64 n) ∧ ∃ z, xs[i]? = some z ∧ z.2 = [] := by
    intro i hi
    have h := hel i hi
    rw [hc] at h
    have hlt : i < xs.length := by rw [hn]; exact hi
    obtain ⟨z, hz⟩ : ∃ z, xs[i]? = some z := ⟨xs[i], List.getElem?_eq_getElem hlt⟩
    rw [hz] at h
    obtain ⟨n, e1, e2, e3⟩ := DataW.trod_int Tryd.underlying22 h
    have hb := bounds_u64 e3
    have hi' : i < cs.size := by omega
    have e4 : cs[i]? = some (.int .u64 n) := by
      have e5 : (cs.toList.drop i)[0]? = some (.int .u64 n) := by
        have e6 : ((cs.toList.drop (i * 1)).take 1)[0]? = some (.int .u64 n) := by
          have e7 : (Value.agg cs).cells.toList = cs.toList := rfl
          rw [e7] at e1
          rw [e1]; rfl
        rw [Nat.mul_one, List.getElem?_take] at e6
        simpa using e6
      rw [List.getElem?_drop] at e5
      simpa using e5
    refine ⟨n.toNat, by omega, ?_, z, hz, by rw [e2]⟩
    rw [e4, Int.toNat_of_nonneg hb.1]
  obtain ⟨n0, l0, c0, z0, y0, q0⟩ := key 0 (by omega)
  obtain ⟨n1, l1, c1, z1, y1, q1⟩ := key 1 (by omega)
  obtain ⟨n2, l2, c2, z2, y2, q2⟩ := key 2 (by omega)
  obtain ⟨n3, l3, c3, z3, y3, q3⟩ := key 3 (by omega)
  obtain ⟨n4, l4, c4, z4, y4, q4⟩ := key 4 (by omega)
  obtain ⟨n5, l5, c5, z5, y5, q5⟩ := key 5 (by omega)
  have hps : ps = [] := by
    have hx2 : ps = xs.flatMap (·.2) := congrArg Prod.snd hx
    rw [hx2, List.flatMap_eq_nil_iff]
    intro z hz
    obtain ⟨i, hi⟩ := List.mem_iff_getElem?.1 hz
    have hi6 : i < 6 := by
      have := (List.getElem?_eq_some_iff.1 hi).1
      omega
    obtain ⟨n, _, _, z', y, q⟩ := key i hi6
    rw [hi] at y; injection y with y; rw [y]; exact q
  obtain ⟨a, ha, hw⟩ := num_of_words (fun i => [n0, n1, n2, n3, n4, n5].getD i 0) (by
    intro i
    match i with
    | 0 => exact l0
    | 1 => exact l1
    | 2 => exact l2
    | 3 => exact l3
    | 4 => exact l4
    | 5 => exact l5
    | (i + 6) => simp) 6
  refine ⟨a, by rw [big]; exact ha, ?_, hps⟩
  unfold N
  have w0 : wd a 0 = n0 := hw 0 (by omega)
  have w1 : wd a 1 = n1 := hw 1 (by omega)
  have w2 : wd a 2 = n2 := hw 2 (by omega)
  have w3 : wd a 3 = n3 := hw 3 (by omega)
  have w4 : wd a 4 = n4 := hw 4 (by omega)
  have w5 : wd a 5 = n5 := hw 5 (by omega)
  rw [w0, w1, w2, w3, w4, w5]
  congr 1
  apply Array.ext (by simpa using hsz)
  intro i hi1 hi2
  have : i < 6 := by simpa using hi2
  have g : cs[i]? = some cs[i] := Array.getElem?_eq_getElem hi1
  match i, this with
  | 0, _ => rw [c0] at g; injection g with g; rw [← g]; rfl
  | 1, _ => rw [c1] at g; injection g with g; rw [← g]; rfl
  | 2, _ => rw [c2] at g; injection g with g; rw [← g]; rfl
  | 3, _ => rw [c3] at g; injection g with g; rw [← g]; rfl
  | 4, _ => rw [c4] at g; injection g with g; rw [← g]; rfl
  | 5, _ => rw [c5] at g; injection g with g; rw [← g]; rfl
/-- What was read of a number ahead of the call reads so behind it. -/
theorem num_stays {H : Type} {enc : TypeId × Value → H} {W W' : World} {v : Value} {d : DataW H}
    (h : DataW.Trod enc Tryd.prog W 0 (fun _ => true) true 24 v d []) (hb : Below W.heap.size W W') :
    DataW.Trod enc Tryd.prog W' 0 (fun b => decide (b < W.heap.size)) true 24 v d [] :=
  Below.trod Tryd.laidOut (by kernel_rfl) (by decide +kernel) h hb (fun _ hx => by cases hx)
end Go.Proofs.YtfmjfgkgoenhnaaDoor
end
section
namespace Go.Proofs.YtfmjfgkgoenhnaaDoor
open Go.ChangeShapes Go.WideShapes Go.ChangeAt Go.RowKit
namespace Rg
set_option maxRecDepth 100000
abbrev laidL : List (String × DataW Unit) := Rows.modulusTellsRow.laid
abbrev tabName : String := match laidL with
  | (n, _) :: _ => n
  | [] => Tryd.f3.name
theorem gTab : Tryd.prog.globalNamed tabName = some 0 := by kernel_rfl
theorem tTab : (Tryd.prog.globals[0]?).map (·.type) = some 73 := by kernel_rfl
theorem datTab : (Rows.laid_math_bits_deBruijn64tab : DataW Unit) = .agg (Lib.deBruijn64tab.map fun k => .lit (.int .u8 ((k : Nat) : Int))) := by kernel_rfl
theorem tab_of_laid {W : World} (h : laidMetH Tryd.prog laidL W) : Mm W [(0, dtab)] := by
  rw [MakeChecks.laidMetH_plain _ _ _ (by kernel_rfl)] at h
  obtain ⟨ps, ⟨g, t, cs, fuel, p, q, hg, ht, hv, hd, hq, hps⟩, hnd, hc⟩ := h
  obtain rfl := Option.some.inj (gTab.symm.trans hg)
  obtain rfl := Option.some.inj (tTab.symm.trans ht)
  obtain ⟨xs, m, -, hx, hlen, hn, hel⟩ := DataW.trod_array Tryd.underlying73 hd
  rw [datTab] at hx
  simp only [Prod.mk.injEq, DataW.agg.injEq] at hx
  have hc5 : Tryd.prog.cellsOf 5 = 1 := by kernel_rfl
  have hc81 : Tryd.prog.cellsOf 73 = 64 := by kernel_rfl
  rw [hc81] at hlen
  have hsz : cs.size = 64 := by simpa using hlen
  have hpl : ∀ i, i < 64 → MemPlace.cell 0 i ∈ ps := fun i hi => by
    rw [hps]
    refine List.mem_append_left _ (List.mem_append_left _ ?_)
    unfold MemPlace.row
    simp [hsz]
    omega
  obtain ⟨⟨c0, t0, hheap⟩, _⟩ := hc 0 0 (hpl 0 (by decide))
  have h0 : 0 < W.heap.size := by
    rcases Nat.lt_or_ge 0 W.heap.size with h' | h'
    · exact h'
    · rw [Array.getElem?_eq_none (by omega)] at hheap; cases hheap
  refine ⟨fun pq hpq => ?_, List.pairwise_singleton _ _⟩
  rw [List.mem_singleton.1 hpq]
  refine ⟨h0, fun j v hj => ?_⟩
  have hj64 : j < 64 := by
    have := (List.getElem?_eq_some_iff.1 hj).1
    exact this
  refine ⟨?_, ?_⟩
  · rw [World.var?_cell hg hv j]
    have h1 := hel j hj64
    rw [hc5, Nat.mul_one] at h1
    have hlt : j < xs.length := by omega
    rw [List.getElem?_eq_getElem hlt] at h1
    obtain ⟨n, e1, e2, _⟩ := DataW.trod_int Tryd.underlying5 h1
    have e3 : cs[j]? = some (.int .u8 n) := by
      have e4 : ((cs.toList.drop j).take 1)[0]? = some (.int .u8 n) := by rw [e1]; rfl
      rw [List.getElem?_take, if_pos (by decide), List.getElem?_drop] at e4
      simpa using e4
    have e5 : (xs.map (·.1))[j]? = (Lib.deBruijn64tab.map fun k => DataW.lit (.int .u8 ((k : Nat) : Int)))[j]? := by rw [hx.1]
    rw [List.getElem?_map, List.getElem?_eq_getElem hlt, e2, List.getElem?_map] at e5
    unfold dtab at hj
    rw [List.getElem?_map] at hj
    cases hk : Lib.deBruijn64tab[j]? with
    | none => rw [hk] at hj; cases hj
    | some k =>
      rw [hk] at hj e5
      simp only [Option.map_some, Option.some.injEq, DataW.lit.injEq] at hj e5
      rw [e3, ← hj]
      simp only [Option.some.injEq]
      injection e5 with _ e6
      rw [e6]
  · unfold World.frozen?
    rw [hheap]
    simp
theorem door_met (os : Os) (args : Array Value) : laidMetH Tryd.prog laidL ((World.doorLaid Tryd.prog 400 os).forCall (fun _ _ => 0) ⟨#[], args, []⟩).memory :=
  laidMetH_of_parts3 (fuel := 8) (laidMet_of_run' 8 (by kernel_rfl) (by kernel_rfl)) (by kernel_rfl) (by kernel_rfl)
end Rg
end Go.Proofs.YtfmjfgkgoenhnaaDoor
end
