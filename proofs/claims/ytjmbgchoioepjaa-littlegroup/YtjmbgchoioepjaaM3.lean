/- A triple and a point; a point multiplied -/
import Derived.Test.YtjmbgchoioepjaaM2
namespace Go.Proofs.Ytjmbgchoioepjaa
open Go.RowKit
namespace Rg
open NT
section
variable {p : Nat} [NeZero p]
theorem ph_jU {t : T3} (ht : Lt3 p t) (X : Nat) : ph p (jU p t.1 t.2.2 X) = ph p X * (ph p t.2.2 * ph p t.2.2) - ph p t.1 := by
  unfold jU
  rw [ph_mi _ _ ht.x, ph_tm, ph_tm]
theorem ph_jS {t : T3} (ht : Lt3 p t) (Y : Nat) : ph p (jS p t.2.1 t.2.2 Y) = ph p Y * (ph p t.2.2 * (ph p t.2.2 * ph p t.2.2)) - ph p t.2.1 := by
  unfold jS
  rw [ph_mi _ _ ht.y, ph_tm, ph_tm, ph_tm]
theorem p3_eq {a b : P3} (h1 : a.1 = b.1) (h2 : a.2.1 = b.2.1) (h3 : a.2.2 = b.2.2) : a = b := by
  obtain ⟨x, y, z⟩ := a
  obtain ⟨x', y', z'⟩ := b
  simp only at h1 h2 h3
  rw [h1, h2, h3]
/-- A triple and a point. -/
theorem jn_rep (hp : Pr p) (hq : Prm p) {t : T3} {a b : P3} (h : Rep p t a) (ha : On p a) (hb : On p b) : Rep p (jnT p t b.1 b.2.1 b.2.2) (dA p a b) ∧ On p (dA p a b) := by
  have hl := jn_lt hp h.lt (Z := b.2.2) hb.lt.x hb.lt.y
  by_cases hy : b.2.2 = true
  · have e : dA p a b = a := by
      unfold dA
      by_cases hz : a.2.2 = true
      · rw [if_pos hz, hb.zr hy, ha.zr hz]
      · rw [if_neg hz, if_pos hy]
    rw [e, hy, jnT_z]
    exact ⟨h, ha⟩
  · have hy : b.2.2 = false := by simpa using hy
    by_cases hz : a.2.2 = true
    · have e : dA p a b = b := by unfold dA; rw [if_pos hz]
      rw [e, hy, jnT_0 (h.zr hz)]
      have := rep_tO hp hb
      unfold tO at this
      rw [if_neg (by rw [hy]; decide)] at this
      exact ⟨this, hb⟩
    · have hz : a.2.2 = false := by simpa using hz
      obtain ⟨h1, h2, h3⟩ := h.nz hz
      have hc := ha.cv hz
      have hd := hb.cv hy
      have hz0 : t.2.2 ≠ 0 := fun e => h1 ((ph_eq0 h.lt.z).2 e)
      have eU : ph p (jU p t.1 t.2.2 b.1) = (ph p b.1 - ph p a.1) * (ph p t.2.2 * ph p t.2.2) := by
        rw [ph_jU h.lt, h2]
        grind
      have eS : ph p (jS p t.2.1 t.2.2 b.2.1) = (ph p b.2.1 - ph p a.2.1) * (ph p t.2.2 * (ph p t.2.2 * ph p t.2.2)) := by
        rw [ph_jS h.lt, h3]
        grind
      have hzz := fp_ne hq h1 h1
      have hzzz := fp_ne hq h1 hzz
      have xx : ∀ {u v : Nat}, u < p → v < p → ph p u - ph p v = 0 → u = v := fun hu hv e => ph_inj hu hv (by grind)
      by_cases hs : jU p t.1 t.2.2 b.1 = 0 ∧ jS p t.2.1 t.2.2 b.2.1 = 0
      · have e1 : b.1 = a.1 := by
          refine xx hb.lt.x ha.lt.x ?_
          rw [hs.1, ph_zero] at eU
          exact (fp_mul hq eU.symm).resolve_right hzz
        have e2 : b.2.1 = a.2.1 := by
          refine xx hb.lt.y ha.lt.y ?_
          rw [hs.2, ph_zero] at eS
          exact (fp_mul hq eS.symm).resolve_right hzzz
        have e : b = a := p3_eq e1 e2 (by rw [hy, hz])
        rw [hy, jnT_s hz0 hs, e]
        exact tw_rep hp hq h ha
      · rw [hy, jnT_g hz0 hs]
        rw [hy, jnT_g hz0 hs] at hl
        have hne : ¬ a = b := fun e => hs ⟨(ph_eq0 (mi_lt hp)).1 (by
          show ph p (jU p t.1 t.2.2 b.1) = 0
          rw [eU, e]; grind), (ph_eq0 (mi_lt hp)).1 (by
          show ph p (jS p t.2.1 t.2.2 b.2.1) = 0
          rw [eS, e]; grind)⟩
        by_cases hn : a = (b.1, mi p 0 b.2.1, b.2.2)
        · rw [dA_neg hz hy hn]
          have e1 : a.1 = b.1 := by
            have e2 := congrArg (fun q : P3 => q.1) hn
            exact e2
          refine ⟨⟨hl, fun _ => (ph_eq0 hl.z).1 ?_, fun h' => (by cases h')⟩, on_zero' hp⟩
          rw [ph_tm, eU, e1]
          grind
        · rw [dA_else hz hy hn hne]
          have hx : ph p b.1 - ph p a.1 ≠ 0 := fun e => by
            have e1 := xx hb.lt.x ha.lt.x e
            have e2 : (ph p b.2.1 - ph p a.2.1) * (ph p b.2.1 + ph p a.2.1) = 0 := by
              rw [e1] at hd
              grind
            rcases fp_mul hq e2 with e3 | e3
            · exact hne (p3_eq e1.symm (xx hb.lt.y ha.lt.y e3).symm (by rw [hy, hz]))
            · refine hn (p3_eq e1.symm (ph_inj ha.lt.y (mi_lt hp) ?_) (by show a.2.2 = b.2.2; rw [hy, hz]))
              rw [ph_mi0 _ hb.lt.y]
              grind
          have hmi : ph p (mi p b.1 a.1) ≠ 0 := by rw [ph_mi _ _ ha.lt.x]; exact hx
          have hi := ph_inv hq (by have := hp.lo; omega) hmi
          rw [ph_mi _ _ ha.lt.x] at hi
          have em : ph p (sl2 p a.1 a.2.1 b.1 b.2.1) * (ph p b.1 - ph p a.1) = ph p b.2.1 - ph p a.2.1 := by
            unfold sl2
            rw [ph_tm, ph_mi _ _ ha.lt.y]
            generalize ph p (pw p (mi p b.1 a.1) (p - 2)) = i at hi ⊢
            grind
          have eX := ph_d3X (m := sl2 p a.1 a.2.1 b.1 b.2.1) ha.lt.x hb.lt.x
          have eY := ph_d3Y hp (m := sl2 p a.1 a.2.1 b.1 b.2.1) (x := a.1) (x' := b.1) ha.lt.y
          rw [eX] at eY
          generalize jU p t.1 t.2.2 b.1 = u at hl eU ⊢
          generalize jS p t.2.1 t.2.2 b.2.1 = s at hl eS ⊢
          have fX : ph p (jX p t.1 u s) = ph p s * ph p s - ph p u * ph p u * ph p u - (ph p t.1 * (ph p u * ph p u) + ph p t.1 * (ph p u * ph p u)) := by
            unfold jX
            rw [ph_mi _ _ (pl_lt hp), ph_mi _ (jC p u) (tm_lt hp), ph_tm, ph_pl]
            unfold jC jM
            rw [ph_tm, ph_tm, ph_tm, ph_tm]
          have fY : ph p (jY p t.1 t.2.1 u s) = ph p s * (ph p t.1 * (ph p u * ph p u) - ph p (jX p t.1 u s)) - ph p t.2.1 * (ph p u * ph p u * ph p u) := by
            unfold jY
            rw [ph_mi _ _ (tm_lt hp), ph_tm, ph_mi _ (jX p t.1 u s) (mi_lt hp), ph_tm]
            unfold jC jM
            rw [ph_tm, ph_tm, ph_tm, ph_tm]
          rw [fX] at fY
          refine ⟨⟨hl, fun h' => (by cases h'), fun _ => ⟨?_, ?_, ?_⟩⟩, ⟨⟨mi_lt hp, mi_lt hp⟩, fun h' => (by cases h'), fun _ => ?_⟩⟩
          · rw [ph_tm, eU]
            exact fp_ne hq h1 (fp_ne hq hx hzz)
          · simp only
            rw [fX, ph_tm, eX, eU, eS]
            generalize ph p (sl2 p a.1 a.2.1 b.1 b.2.1) = m at em ⊢
            generalize ph p t.1 = x at *
            generalize ph p t.2.1 = y at *
            generalize ph p t.2.2 = z at *
            generalize ph p a.1 = X at *
            generalize ph p a.2.1 = Y at *
            generalize ph p b.1 = X' at *
            generalize ph p b.2.1 = Y' at *
            clear hi h fX fY eX eY eU eS xx
            have e : Y' = Y + m * (X' - X) := by grind
            subst h2 h3 e
            grind
          · simp only
            rw [fY, ph_tm, eY, eU, eS]
            generalize ph p (sl2 p a.1 a.2.1 b.1 b.2.1) = m at em ⊢
            generalize ph p t.1 = x at *
            generalize ph p t.2.1 = y at *
            generalize ph p t.2.2 = z at *
            generalize ph p a.1 = X at *
            generalize ph p a.2.1 = Y at *
            generalize ph p b.1 = X' at *
            generalize ph p b.2.1 = Y' at *
            clear hi h fX fY eX eY eU eS xx
            have e : Y' = Y + m * (X' - X) := by grind
            subst h2 h3 e
            grind
          · simp only
            rw [eY, eX]
            exact sum_on _ _ _ _ _ _ hc em hd hx hq rfl
theorem mtf_rep (hp : Pr p) (hq : Prm p) {a : P3} (ha : On p a) : ∀ (f n : Nat), Rep p (mtf p a.1 a.2.1 a.2.2 f n) (dmf p a f n) ∧ On p (dmf p a f n)
  | 0, _ => ⟨⟨⟨zero_lt hp, zero_lt hp, zero_lt hp⟩, fun _ => rfl, fun h => (by cases h)⟩, on_zero' hp⟩
  | f + 1, n => by
    obtain ⟨h1, h2⟩ := mtf_rep hp hq ha f (n / 2)
    obtain ⟨h3, h4⟩ := tw_rep hp hq h1 h2
    rw [mtf, dmf]
    split
    · exact ⟨⟨⟨zero_lt hp, zero_lt hp, zero_lt hp⟩, fun _ => rfl, fun h => (by cases h)⟩, on_zero' hp⟩
    · split
      · exact jn_rep hp hq h3 h4 ha
      · exact ⟨h3, h4⟩
/-- A point multiplied is the document's. -/
theorem mt_is (hp : Pr p) (hq : Prm p) {X Y : Nat} {Z : Bool} (h : oc p X Y Z = true) (n : Nat) : (pX p (mt p X Y Z n), pY p (mt p X Y Z n), pZ (mt p X Y Z n)) = dM p (X, Y, Z) n := by
  obtain ⟨h1, h2⟩ := mtf_rep hp hq (on_of hp h) 64 n
  exact rep_pt hp hq h1 h2
theorem add_is (hp : Pr p) (hq : Prm p) {X Y X' Y' : Nat} {Z Z' : Bool} (h : oc p X Y Z = true) (h' : oc p X' Y' Z' = true) : (pX p (jnT p (tO X Y Z) X' Y' Z'), pY p (jnT p (tO X Y Z) X' Y' Z'), pZ (jnT p (tO X Y Z) X' Y' Z')) = dA p (X, Y, Z) (X', Y', Z') := by
  obtain ⟨h1, h2⟩ := jn_rep hp hq (rep_tO hp (on_of hp h)) (on_of hp h) (on_of hp h')
  exact rep_pt hp hq h1 h2
theorem ig_is (hp : Pr p) (hq : Prm p) (r X Y : Nat) (Z : Bool) : ig p r X Y Z = di p r X Y Z := by
  unfold ig di
  cases h : oc p X Y Z
  · rfl
  · have e := mt_is hp hq h r
    rw [← e]
    rfl
end
end Rg
end Go.Proofs.Ytjmbgchoioepjaa
