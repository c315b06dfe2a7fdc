/- The curve x x + y y + x x y y = 1 -/
import Derived.Test.YtjmbgchoioepjaaM3
namespace Go.Proofs.Ytjmbgchoioepjaa
open Go.RowKit
namespace Rg
open NT
section
variable {p : Nat} [NeZero p]
/-- What makes 1 with a number that is not 0. -/
def iv (x : Fin p) : Fin p := ph p (pw p x.val (p - 2))
theorem ph_self (x : Fin p) : ph p x.val = x := Fin.ext (Nat.mod_eq_of_lt x.isLt)
theorem iv_spec (hp : Pr p) (hq : Prm p) {x : Fin p} (h : x ≠ 0) : x * iv x = 1 := by
  have e := ph_inv (a := x.val) hq (by have := hp.lo; omega) (by rw [ph_self]; exact h)
  rw [ph_self] at e
  exact e
/-- A field in which -1 is no square. -/
structure Fd (p : Nat) [NeZero p] : Prop where
  pr : Pr p
  prm : Prm p
  three : p % 4 = 3
theorem Fd.two (F : Fd p) : (2 : Fin p) ≠ 0 := fun e => by
  have h := congrArg Fin.val e
  have h2 : (2 : Fin p).val = 2 % p := rfl
  have h3 := F.pr.lo
  rw [h2, Nat.mod_eq_of_lt (by omega), show (0 : Fin p).val = 0 from Nat.zero_mod p] at h
  omega
theorem Fd.nosq (F : Fd p) (z : Fin p) : z * z ≠ -1 := fun e => by
  have h3 := F.three
  have hlo := F.pr.lo
  obtain ⟨k, hk⟩ : ∃ k, p = 4 * k + 3 := ⟨p / 4, by omega⟩
  have hz : z ≠ 0 := fun h => by
    rw [h] at e
    have : (1 : Fin p) = 0 := by grind
    have := congrArg Fin.val this
    have h2 : (1 : Fin p).val = 1 % p := rfl
    rw [h2, Nat.mod_eq_of_lt (by omega), show (0 : Fin p).val = 0 from Nat.zero_mod p] at this
    omega
  have e1 : (z.val * z.val + 1) % p = 0 := by
    have : z * z + 1 = 0 := by grind
    have h := congrArg Fin.val this
    rw [Fin.val_add, Fin.val_mul, Nat.mod_add_mod] at h
    rw [show (0 : Fin p).val = 0 from Nat.zero_mod p, show (1 : Fin p).val = 1 % p from rfl, Nat.add_mod_mod] at h
    exact h
  have e2 := even_pow e1 k
  have e3 := fermat1 F.prm z.val (fun hd => hz (Fin.ext (Nat.eq_zero_of_dvd_of_lt hd z.isLt)))
  rw [Nat.one_pow, Nat.mod_eq_of_lt (by omega : 1 < p)] at e2
  have e4 : z.val ^ (p - 1) % p = z.val * z.val % p := by
    have : z.val ^ (p - 1) = (z.val * z.val) ^ (2 * k) * (z.val * z.val) := by
      rw [← Nat.pow_succ, ← Nat.pow_two, ← Nat.pow_mul]
      congr 1
      omega
    rw [this, Nat.mul_mod, e2, Nat.one_mul, Nat.mod_mod]
  rw [e4] at e3
  rw [Nat.add_mod, e3, Nat.mod_eq_of_lt (by omega : 1 < p), Nat.mod_eq_of_lt (by omega)] at e1
  omega
theorem Fd.sum0 (F : Fd p) {a b : Fin p} (h : a * a + b * b = 0) : b = 0 := by
  by_cases hb : b = 0
  · exact hb
  · have hi := iv_spec F.pr F.prm hb
    refine absurd ?_ (F.nosq (a * iv b))
    generalize iv b = i at hi ⊢
    have : b * i * (b * i) = 1 := by rw [hi]; grind
    grind
/-- A point of it. -/
def Ec (a : Fin p × Fin p) : Prop := a.1 * a.1 + a.2 * a.2 + a.1 * a.1 * (a.2 * a.2) = 1
def ed (a b : Fin p × Fin p) : Fin p := a.1 * b.1 * (a.2 * b.2)
def eadd (a b : Fin p × Fin p) : Fin p × Fin p := ((a.1 * b.2 + a.2 * b.1) * iv (1 - ed a b), (a.2 * b.2 - a.1 * b.1) * iv (1 + ed a b))
theorem ed_sq (F : Fd p) {a b : Fin p × Fin p} (ha : Ec a) (hb : Ec b) : ed a b * ed a b ≠ 1 := by
  obtain ⟨x, y⟩ := a
  obtain ⟨u, v⟩ := b
  unfold Ec at ha hb
  unfold ed
  simp only at ha hb ⊢
  intro e
  have key : ∀ f : Fin p, f * f = 1 → x * y * (u + f * v) = 0 := fun f hf => by
    refine F.sum0 (a := x - f * (x * u * (y * v)) * y) ?_
    grind
  have h1 := key 1 (by grind)
  have h2 := key (-1) (by grind)
  have h3 : x * y ≠ 0 := fun h => by
    have : (0 : Fin p) = 1 := by
      rw [← e]
      have : x * u * (y * v) = 0 := by
        have : x * u * (y * v) = x * y * (u * v) := by grind
        rw [this, h]
        grind
      rw [this]
      grind
    exact F.two (by grind)
  have h4 := (fp_mul F.prm h1).resolve_left h3
  have h5 := (fp_mul F.prm h2).resolve_left h3
  have h6 : (2 : Fin p) * u = 0 := by grind
  have h7 := (fp_mul F.prm h6).resolve_left F.two
  rw [h7] at e
  exact F.two (by grind)
theorem ed_p (F : Fd p) {a b : Fin p × Fin p} (ha : Ec a) (hb : Ec b) : (1 + ed a b) * iv (1 + ed a b) = 1 := iv_spec F.pr F.prm (fun h => ed_sq F ha hb (by grind))
theorem ed_m (F : Fd p) {a b : Fin p × Fin p} (ha : Ec a) (hb : Ec b) : (1 - ed a b) * iv (1 - ed a b) = 1 := iv_spec F.pr F.prm (fun h => ed_sq F ha hb (by grind))
theorem eadd_comm (a b : Fin p × Fin p) : eadd a b = eadd b a := by
  unfold eadd
  have e : ed a b = ed b a := by unfold ed; grind
  rw [e, show a.1 * b.2 + a.2 * b.1 = b.1 * a.2 + b.2 * a.1 by grind, show a.2 * b.2 - a.1 * b.1 = b.2 * a.2 - b.1 * a.1 by grind]
theorem eadd_on (F : Fd p) {a b : Fin p × Fin p} (ha : Ec a) (hb : Ec b) : Ec (eadd a b) := by
  have h1 := ed_p F ha hb
  have h2 := ed_m F ha hb
  unfold eadd
  unfold Ec at ha hb ⊢
  simp only
  generalize iv (1 + ed a b) = i at *
  generalize iv (1 - ed a b) = j at *
  unfold ed at h1 h2
  obtain ⟨x, y⟩ := a
  obtain ⟨u, v⟩ := b
  simp only at *
  have hn : (x * v + y * u) * (x * v + y * u) * ((1 + x * u * (y * v)) * (1 + x * u * (y * v))) + (y * v - x * u) * (y * v - x * u) * ((1 - x * u * (y * v)) * (1 - x * u * (y * v))) + (x * v + y * u) * (x * v + y * u) * ((y * v - x * u) * (y * v - x * u)) = (1 + x * u * (y * v)) * (1 + x * u * (y * v)) * ((1 - x * u * (y * v)) * (1 - x * u * (y * v))) := by grind
  generalize hA : x * v + y * u = A at *
  generalize hB : y * v - x * u = B at *
  generalize hD : 1 + x * u * (y * v) = D at *
  generalize hE : 1 - x * u * (y * v) = E at *
  clear hA hB hD hE ha hb
  have q1 : D * i * (D * i) = 1 := by rw [h1]; grind
  have q2 : E * j * (E * j) = 1 := by rw [h2]; grind
  have : (A * A * (D * D) + B * B * (E * E) + A * A * (B * B)) * (i * i * (j * j)) = D * D * (E * E) * (i * i * (j * j)) := by rw [hn]
  grind
theorem eadd_zero (hp : Pr p) (hq : Prm p) (a : Fin p × Fin p) : eadd a (0, 1) = a := by
  have h1 : iv (1 : Fin p) = 1 := by
    have h : (1 : Fin p) ≠ 0 := fun e => by
      have := (ph_eq0 (p := p) (one_lt hp)).1 e
      omega
    have := iv_spec hp hq h
    grind
  unfold eadd ed
  simp only
  rw [show (1 : Fin p) - a.1 * 0 * (a.2 * 1) = 1 by grind, show (1 : Fin p) + a.1 * 0 * (a.2 * 1) = 1 by grind, h1]
  exact Prod.ext (by simp only; grind) (by simp only; grind)
theorem eadd_neg (F : Fd p) {a : Fin p × Fin p} (ha : Ec a) : eadd a (-a.1, a.2) = (0, 1) := by
  have hb : Ec (-a.1, a.2) := by unfold Ec at ha ⊢; simp only; grind
  have h1 := ed_p F ha hb
  unfold eadd
  have hN : a.2 * a.2 - a.1 * -a.1 = 1 + ed a (-a.1, a.2) := by
    unfold Ec at ha
    unfold ed
    simp only
    grind
  simp only
  rw [hN, h1]
  exact Prod.ext (by simp only; grind) rfl
end
end Rg
end Go.Proofs.Ytjmbgchoioepjaa
