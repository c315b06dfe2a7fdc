/- A point and itself -/
import Derived.Test.YtjmbgchoioepjaaM1
namespace Go.Proofs.Ytjmbgchoioepjaa
open Go.RowKit
namespace Rg
open NT
theorem dA_same {p : Nat} {a : P3} (hz : a.2.2 = false) (h : ¬ a = (a.1, mi p 0 a.2.1, a.2.2)) : dA p a a = (d3X p (sl1 p a.1 a.2.1) a.1 a.1, d3Y p (sl1 p a.1 a.2.1) a.1 a.1 a.2.1, false) := by
  unfold dA dS
  rw [if_neg (by rw [hz]; decide), if_neg (by rw [hz]; decide), if_neg h, if_pos rfl]
theorem dA_neg {p : Nat} {a b : P3} (hz : a.2.2 = false) (hy : b.2.2 = false) (h : a = (b.1, mi p 0 b.2.1, b.2.2)) : dA p a b = (0, 0, true) := by
  unfold dA
  rw [if_neg (by rw [hz]; decide), if_neg (by rw [hy]; decide), if_pos h]
theorem dA_else {p : Nat} {a b : P3} (hz : a.2.2 = false) (hy : b.2.2 = false) (h : ¬ a = (b.1, mi p 0 b.2.1, b.2.2)) (hn : ¬ a = b) : dA p a b = (d3X p (sl2 p a.1 a.2.1 b.1 b.2.1) a.1 b.1, d3Y p (sl2 p a.1 a.2.1 b.1 b.2.1) a.1 b.1 a.2.1, false) := by
  unfold dA dS
  rw [if_neg (by rw [hz]; decide), if_neg (by rw [hy]; decide), if_neg h, if_neg hn]
section
variable {p : Nat} [NeZero p]
theorem ph_mi0 (b : Nat) (hb : b < p) : ph p (mi p 0 b) = - ph p b := by
  rw [ph_mi 0 b hb, ph_zero]
  grind
/-- What a sum is, in the field. -/
theorem sum_on (x1 y1 x2 y2 m x3 : Fin p) (c1 : y1 * y1 = x1 * x1 * x1 + x1) (hm : m * (x2 - x1) = y2 - y1) (c2 : y2 * y2 = x2 * x2 * x2 + x2) (hne : x2 - x1 ≠ 0) (hq : Prm p) (h3 : x3 = m * m - x1 - x2) : (m * (x1 - x3) - y1) * (m * (x1 - x3) - y1) = x3 * x3 * x3 + x3 := by
  refine fp_cancel hq hne ?_
  have e : y2 = y1 + m * (x2 - x1) := by grind
  subst e h3
  grind
theorem twice_on (x1 y1 m x3 : Fin p) (c1 : y1 * y1 = x1 * x1 * x1 + x1) (hm : m * (y1 + y1) = 3 * (x1 * x1) + 1) (h3 : x3 = m * m - x1 - x1) : (m * (x1 - x3) - y1) * (m * (x1 - x3) - y1) = x3 * x3 * x3 + x3 := by
  subst h3
  grind
theorem on_zero' (hp : Pr p) : On p (0, 0, true) := ⟨⟨zero_lt hp, zero_lt hp⟩, fun _ => rfl, fun h => (by cases h)⟩
theorem ph_d3X {m x y : Nat} (hx : x < p) (hy : y < p) : ph p (d3X p m x y) = ph p m * ph p m - ph p x - ph p y := by
  unfold d3X
  rw [ph_mi _ _ hy, ph_mi _ _ hx, ph_tm]
theorem ph_d3Y (hp : Pr p) {m x x' y : Nat} (hy : y < p) : ph p (d3Y p m x x' y) = ph p m * (ph p x - ph p (d3X p m x x')) - ph p y := by
  unfold d3Y
  rw [ph_mi _ _ hy, ph_tm, ph_mi _ (d3X p m x x') (mi_lt hp)]
theorem neg_of (hp : Pr p) {a : P3} (ha : On p a) (h : ph p a.2.1 + ph p a.2.1 = 0) : a = (a.1, mi p 0 a.2.1, a.2.2) := by
  have e : a.2.1 = mi p 0 a.2.1 := by
    refine ph_inj ha.lt.y (mi_lt hp) ?_
    rw [ph_mi0 _ ha.lt.y]
    grind
  rw [← e]
/-- A point and itself. -/
theorem tw_rep (hp : Pr p) (hq : Prm p) {t : T3} {a : P3} (h : Rep p t a) (ha : On p a) : Rep p (twT p t) (dA p a a) ∧ On p (dA p a a) := by
  have hl := tw_lt hp t
  by_cases hz : a.2.2 = true
  · have e : dA p a a = a := by unfold dA; rw [if_pos hz]
    rw [e]
    refine ⟨⟨hl, fun _ => ?_, fun h' => (by rw [hz] at h'; cases h')⟩, ha⟩
    have h0 := h.zr hz
    unfold twT
    simp only [h0]
    unfold tm
    simp
  · have hz : a.2.2 = false := by simpa using hz
    obtain ⟨h1, h2, h3⟩ := h.nz hz
    have hc := ha.cv hz
    by_cases hn : a = (a.1, mi p 0 a.2.1, a.2.2)
    · rw [dA_neg hz hz hn]
      have e : ph p a.2.1 + ph p a.2.1 = 0 := by
        have e : a.2.1 = mi p 0 a.2.1 := congrArg (fun q : P3 => q.2.1) hn
        have e2 := congrArg (ph p) e
        rw [ph_mi0 _ ha.lt.y] at e2
        generalize ph p a.2.1 = y at e2
        have : y + y = y + -y := by rw [← e2]
        grind
      refine ⟨⟨hl, fun _ => ?_, fun h' => (by cases h')⟩, on_zero' hp⟩
      refine (ph_eq0 hl.z).1 ?_
      unfold twT
      rw [ph_tm, ph_tm, h3, ph_2]
      grind
    · have hy : ph p (pl p a.2.1 a.2.1) ≠ 0 := fun e => hn (neg_of hp ha (by rw [ph_pl] at e; exact e))
      have hi := ph_inv hq (by have := hp.lo; omega) hy
      rw [ph_pl] at hy hi
      rw [dA_same hz hn]
      have em : ph p (sl1 p a.1 a.2.1) * (ph p a.2.1 + ph p a.2.1) = 3 * (ph p a.1 * ph p a.1) + 1 := by
        unfold sl1
        rw [ph_tm, ph_pl, ph_pl, ph_pl, ph_tm, ph_one]
        generalize ph p (pw p (pl p a.2.1 a.2.1) (p - 2)) = i at hi ⊢
        grind
      have eX := ph_d3X (m := sl1 p a.1 a.2.1) ha.lt.x ha.lt.x
      have eY := ph_d3Y hp (m := sl1 p a.1 a.2.1) (x := a.1) (x' := a.1) ha.lt.y
      rw [eX] at eY
      have eR : ph p (tR p t.1 t.2.2) = 3 * (ph p t.1 * ph p t.1) + ph p t.2.2 * ph p t.2.2 * (ph p t.2.2 * ph p t.2.2) := by
        unfold tR
        rw [ph_pl, ph_tm, ph_tm, ph_tm, ph_tm, ph_3]
      have eM : ph p (tM p t.1 t.2.1) = 4 * (ph p t.1 * (ph p t.2.1 * ph p t.2.1)) := by
        unfold tM
        rw [ph_tm, ph_tm, ph_tm, ph_4]
      have fZ : ph p (twT p t).2.2 = 2 * (ph p t.2.1 * ph p t.2.2) := by
        unfold twT
        rw [ph_tm, ph_tm, ph_2]
      have fX : ph p (twT p t).1 = ph p (tR p t.1 t.2.2) * ph p (tR p t.1 t.2.2) - (ph p (tM p t.1 t.2.1) + ph p (tM p t.1 t.2.1)) := by
        show ph p (tX p t.1 t.2.1 t.2.2) = _
        unfold tX
        rw [ph_mi _ _ (pl_lt hp), ph_tm, ph_pl]
      have fY : ph p (twT p t).2.1 = ph p (tR p t.1 t.2.2) * (ph p (tM p t.1 t.2.1) - ph p (twT p t).1) - 8 * (ph p t.2.1 * ph p t.2.1 * (ph p t.2.1 * ph p t.2.1)) := by
        show ph p (tY p t.1 t.2.1 t.2.2) = _
        unfold tY
        rw [ph_mi _ _ (tm_lt hp), ph_tm, ph_mi _ (tX p t.1 t.2.1 t.2.2) (mi_lt hp), ph_tm, ph_tm, ph_tm, ph_8]
        rfl
      rw [fX] at fY
      rw [eR, eM] at fX fY
      refine ⟨⟨hl, fun h' => (by cases h'), fun _ => ⟨?_, ?_, ?_⟩⟩, ⟨⟨mi_lt hp, mi_lt hp⟩, fun h' => (by cases h'), fun _ => ?_⟩⟩
      · rw [fZ, h3]
        have := fp_ne hq hy (fp_ne hq h1 (fp_ne hq h1 (fp_ne hq h1 h1)))
        intro e
        apply this
        grind
      · rw [fX, fZ, eX]
        generalize ph p (sl1 p a.1 a.2.1) = m at em ⊢
        generalize ph p t.1 = x at *
        generalize ph p t.2.1 = y at *
        generalize ph p t.2.2 = z at *
        generalize ph p a.1 = X at *
        generalize ph p a.2.1 = Y at *
        clear hi h fX fY fZ eX eY eR eM
        subst h2 h3
        grind
      · rw [fY, fZ, eY]
        generalize ph p (sl1 p a.1 a.2.1) = m at em ⊢
        generalize ph p t.1 = x at *
        generalize ph p t.2.1 = y at *
        generalize ph p t.2.2 = z at *
        generalize ph p a.1 = X at *
        generalize ph p a.2.1 = Y at *
        clear hi h fX fY fZ eX eY eR eM
        subst h2 h3
        grind
      · rw [eY, eX]
        exact twice_on _ _ _ _ hc em rfl
end
end Rg
end Go.Proofs.Ytjmbgchoioepjaa
