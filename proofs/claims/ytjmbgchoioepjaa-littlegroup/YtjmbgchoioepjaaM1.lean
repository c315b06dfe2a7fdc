/- Triples and points -/
import Derived.Test.YtjmbgchoioepjaaU7
import Derived.Test.YtjmbgchoioepjaaN0
namespace Go.Proofs.Ytjmbgchoioepjaa
open Go.RowKit
namespace Rg
open NT
section
variable {p : Nat} [NeZero p]
/-- A number, by p. -/
abbrev ph (p : Nat) [NeZero p] (n : Nat) : Fin p := Fin.ofNat p n
theorem ph_tm (a b : Nat) : ph p (tm p a b) = ph p a * ph p b := by
  apply Fin.ext
  simp [tm, Fin.val_mul]
theorem ph_pl (a b : Nat) : ph p (pl p a b) = ph p a + ph p b := by
  apply Fin.ext
  simp [pl, Fin.val_add]
theorem ph_val (a : Nat) : (ph p a).val = a % p := rfl
theorem ph_mi (a b : Nat) (hb : b < p) : ph p (mi p a b) = ph p a - ph p b := by
  apply Fin.ext
  rw [Fin.val_sub, ph_val, ph_val, ph_val]
  unfold mi
  rw [Nat.mod_mod, Nat.mod_eq_of_lt hb, Nat.add_mod_mod]
  congr 1
  omega
theorem ph_inj {a b : Nat} (ha : a < p) (hb : b < p) (h : ph p a = ph p b) : a = b := by
  have e := congrArg Fin.val h
  rw [ph_val, ph_val, Nat.mod_eq_of_lt ha, Nat.mod_eq_of_lt hb] at e
  exact e
theorem ph_zero : ph p 0 = 0 := rfl
theorem ph_one : ph p 1 = 1 := rfl
theorem ph_2 : ph p 2 = 2 := rfl
theorem ph_3 : ph p 3 = 3 := rfl
theorem ph_4 : ph p 4 = 4 := rfl
theorem ph_8 : ph p 8 = 8 := rfl
theorem ph_eq0 {a : Nat} (ha : a < p) : ph p a = 0 ↔ a = 0 := ⟨fun h => ph_inj ha (Nat.lt_of_le_of_lt (Nat.zero_le _) ha) h, fun h => by rw [h]; rfl⟩
theorem fp_mul {x y : Fin p} (hq : Prm p) (h : x * y = 0) : x = 0 ∨ y = 0 := by
  have e := congrArg Fin.val h
  rw [Fin.val_mul] at e
  have hd : p ∣ x.val * y.val := Nat.dvd_of_mod_eq_zero e
  rcases hq.mul hd with h | h
  · exact Or.inl (Fin.ext (Nat.eq_zero_of_dvd_of_lt h x.isLt))
  · exact Or.inr (Fin.ext (Nat.eq_zero_of_dvd_of_lt h y.isLt))
theorem fp_ne {x y : Fin p} (hq : Prm p) (hx : x ≠ 0) (hy : y ≠ 0) : x * y ≠ 0 := fun h => (fp_mul hq h).elim hx hy
theorem fp_cancel {x y z : Fin p} (hq : Prm p) (hz : z ≠ 0) (h : x * z = y * z) : x = y := by
  have e : (x - y) * z = 0 := by grind
  rcases fp_mul hq e with h | h
  · grind
  · exact absurd h hz
/-- By the power p - 2 a number is turned over. -/
theorem ph_inv {a : Nat} (hq : Prm p) (h2 : 2 < p) (ha : ph p a ≠ 0) : ph p a * ph p (pw p a (p - 2)) = 1 := by
  apply Fin.ext
  rw [Fin.val_mul, ph_val, ph_val]
  unfold pw
  rw [Nat.mod_mod, ← Nat.mul_mod, Nat.mul_comm, ← Nat.pow_succ, show (p - 2).succ = p - 1 by omega, fermat1 hq a (fun hd => ha (Fin.ext (Nat.mod_eq_zero_of_dvd hd)))]
  exact (Nat.mod_eq_of_lt (by omega)).symm
/-- A triple's point. -/
structure Rep (p : Nat) [NeZero p] (t : T3) (a : P3) : Prop where
  lt : Lt3 p t
  zr : a.2.2 = true → t.2.2 = 0
  nz : a.2.2 = false → ph p t.2.2 ≠ 0 ∧ ph p t.1 = ph p a.1 * ph p t.2.2 * ph p t.2.2 ∧ ph p t.2.1 = ph p a.2.1 * ph p t.2.2 * ph p t.2.2 * ph p t.2.2
/-- A point of the curve. -/
structure On (p : Nat) [NeZero p] (a : P3) : Prop where
  lt : LtP p a
  zr : a.2.2 = true → a = (0, 0, true)
  cv : a.2.2 = false → ph p a.2.1 * ph p a.2.1 = ph p a.1 * ph p a.1 * ph p a.1 + ph p a.1
theorem ph_cb (x : Nat) : ph p (cb p x) = ph p x * ph p x * ph p x + ph p x := by
  unfold cb
  rw [ph_tm, ph_pl, ph_tm, ph_one]
  grind
theorem on_of (hp : Pr p) {X Y : Nat} {Z : Bool} (h : oc p X Y Z = true) : On p (X, Y, Z) := by
  have hl := oc_lt hp h
  refine ⟨⟨hl.1, hl.2⟩, fun hz => ?_, fun hz => ?_⟩
  · simp only at hz
    subst hz
    simp [oc] at h
    rw [h.1, h.2]
  · simp only at hz
    subst hz
    simp [oc] at h
    have e := congrArg (ph p) h.2.2
    rw [ph_tm, ph_cb] at e
    exact e
theorem oc_of (hp : Pr p) {a : P3} (h : On p a) : oc p a.1 a.2.1 a.2.2 = true := by
  obtain ⟨X, Y, Z⟩ := a
  cases Z
  · have e : tm p Y Y = cb p X := by
      refine ph_inj (tm_lt hp) (tm_lt hp) ?_
      rw [ph_tm, ph_cb]
      exact h.cv rfl
    have h1 := h.lt.x
    have h2 := h.lt.y
    simp only at h1 h2
    simp [oc, e, h1, h2]
  · have := h.zr rfl
    injection this with h1 h2
    injection h2 with h2 _
    subst h1 h2
    simp [oc]
theorem rep_tO (hp : Pr p) {a : P3} (ha : On p a) : Rep p (tO a.1 a.2.1 a.2.2) a := by
  refine ⟨tO_lt hp ha.lt.x ha.lt.y, fun hz => ?_, fun hz => ?_⟩
  · unfold tO; rw [if_pos hz]
  · unfold tO
    rw [if_neg (by rw [hz]; decide)]
    have h1 : (1 : Fin p) ≠ 0 := fun e => by
      have := (ph_eq0 (p := p) (one_lt hp)).1 e
      omega
    simp only [ph_one]
    exact ⟨h1, by grind, by grind⟩
/-- The point is told. -/
theorem rep_pt (hp : Pr p) (hq : Prm p) {t : T3} {a : P3} (h : Rep p t a) (ha : On p a) : (pX p t, pY p t, pZ t) = a := by
  obtain ⟨X, Y, Z⟩ := a
  cases Z
  · obtain ⟨h1, h2, h3⟩ := h.nz rfl
    have hz : t.2.2 ≠ 0 := fun e => h1 ((ph_eq0 h.lt.z).2 e)
    have hi := ph_inv hq (by have := hp.lo; omega) h1
    unfold pX pY pZ
    rw [if_neg hz, if_neg hz, decide_eq_false hz]
    have e1 : tm p t.1 (tm p (pw p t.2.2 (p - 2)) (pw p t.2.2 (p - 2))) = X := by
      refine ph_inj (tm_lt hp) ha.lt.x ?_
      rw [ph_tm, ph_tm, h2]
      generalize ph p (pw p t.2.2 (p - 2)) = i at hi ⊢
      grind
    have e2 : tm p t.2.1 (tm p (tm p (pw p t.2.2 (p - 2)) (pw p t.2.2 (p - 2))) (pw p t.2.2 (p - 2))) = Y := by
      refine ph_inj (tm_lt hp) ha.lt.y ?_
      rw [ph_tm, ph_tm, ph_tm, h3]
      generalize ph p (pw p t.2.2 (p - 2)) = i at hi ⊢
      generalize ph p t.2.2 = z at *
      have : z * i * (z * i) * (z * i) = 1 := by rw [hi]; grind
      grind
    rw [e1, e2]
  · have hz := h.zr rfl
    unfold pX pY pZ
    rw [if_pos hz, if_pos hz, decide_eq_true hz]
    exact (ha.zr rfl).symm
end
end Rg
end Go.Proofs.Ytjmbgchoioepjaa
