/- Points of a little curve are a group -/
import Derived.Test.YtjmbgchoioepjaaM6
namespace Go.Proofs.Ytjmbgchoioepjaa
open Go.RowKit
namespace Rg
open NT
theorem dA_zl {p : Nat} (b : P3) : dA p (0, 0, true) b = b := by unfold dA; rw [if_pos rfl]
section
variable {p : Nat} [NeZero p] {al ep : Fin p}
def gP (al ep : Fin p) (a : P3) : Fin p × Fin p := if a.2.2 = true then (0, 1) else fi al ep (ph p a.1) (ph p a.2.1)
theorem gP_z {a : P3} (h : a.2.2 = true) : gP al ep a = (0, 1) := if_pos h
theorem gP_f {a : P3} (h : a.2.2 = false) : gP al ep a = fi al ep (ph p a.1) (ph p a.2.1) := if_neg (by rw [h]; decide)
theorem gP_on (A : Al p al ep) {a : P3} (ha : On p a) : Ec (gP al ep a) := by
  by_cases h : a.2.2 = true
  · rw [gP_z h]
    unfold Ec
    simp only
    grind
  · have h : a.2.2 = false := by simpa using h
    rw [gP_f h]
    exact fi_on A (ha.cv h)
theorem eadd_zl (A : Al p al ep) (a : Fin p × Fin p) : eadd (0, 1) a = a := by rw [eadd_comm, eadd_zero A.fd.pr A.fd.prm]
/-- The slope of two points that are not each other's negated ones. -/
theorem slope_of (hp : Pr p) (hq : Prm p) {a b : P3} (ha : On p a) (hb : On p b) (hz : a.2.2 = false) (hy : b.2.2 = false) (hn : ¬ a = (b.1, mi p 0 b.2.1, b.2.2)) :
    dA p a b = (d3X p (dS p a b) a.1 b.1, d3Y p (dS p a b) a.1 b.1 a.2.1, false) ∧ ph p b.2.1 = ph p a.2.1 + ph p (dS p a b) * (ph p b.1 - ph p a.1) ∧
    2 * ph p a.2.1 * ph p (dS p a b) + ph p (dS p a b) * ph p (dS p a b) * (ph p b.1 - ph p a.1) = ph p a.1 * ph p a.1 + ph p a.1 * ph p b.1 + ph p b.1 * ph p b.1 + 1 := by
  have hc := ha.cv hz
  have hd := hb.cv hy
  refine ⟨by unfold dA; rw [if_neg (by rw [hz]; decide), if_neg (by rw [hy]; decide), if_neg hn], ?_⟩
  by_cases e : a = b
  · subst e
    have hy0 : ph p (pl p a.2.1 a.2.1) ≠ 0 := fun e => hn (neg_of hp ha (by rw [ph_pl] at e; exact e))
    have hi := ph_inv hq (by have := hp.lo; omega) hy0
    rw [ph_pl] at hi
    have em : ph p (dS p a a) * (ph p a.2.1 + ph p a.2.1) = 3 * (ph p a.1 * ph p a.1) + 1 := by
      unfold dS
      rw [if_pos rfl]
      unfold sl1
      rw [ph_tm, ph_pl, ph_pl, ph_pl, ph_tm, ph_one]
      generalize ph p (pw p (pl p a.2.1 a.2.1) (p - 2)) = i at hi ⊢
      generalize ph p a.2.1 = y at *
      generalize ph p a.1 = x at *
      grind
    exact ⟨by grind, by grind⟩
  · have xx : ∀ {u v : Nat}, u < p → v < p → ph p u - ph p v = 0 → u = v := fun hu hv e => ph_inj hu hv (by grind)
    have hx : ph p b.1 - ph p a.1 ≠ 0 := fun e0 => by
      have e1 := xx hb.lt.x ha.lt.x e0
      have e2 : (ph p b.2.1 - ph p a.2.1) * (ph p b.2.1 + ph p a.2.1) = 0 := by
        rw [e1] at hd
        grind
      rcases fp_mul hq e2 with e3 | e3
      · exact e (p3_eq e1.symm (xx hb.lt.y ha.lt.y e3).symm (by rw [hy, hz]))
      · refine hn (p3_eq e1.symm (ph_inj ha.lt.y (mi_lt hp) ?_) (by show a.2.2 = b.2.2; rw [hy, hz]))
        rw [ph_mi0 _ hb.lt.y]
        grind
    have hmi : ph p (mi p b.1 a.1) ≠ 0 := by rw [ph_mi _ _ ha.lt.x]; exact hx
    have hi := ph_inv hq (by have := hp.lo; omega) hmi
    rw [ph_mi _ _ ha.lt.x] at hi
    have em : ph p (dS p a b) * (ph p b.1 - ph p a.1) = ph p b.2.1 - ph p a.2.1 := by
      unfold dS
      rw [if_neg e]
      unfold sl2
      rw [ph_tm, ph_mi _ _ ha.lt.y]
      generalize ph p (pw p (mi p b.1 a.1) (p - 2)) = i at hi ⊢
      grind
    refine ⟨by grind, fp_cancel hq hx ?_⟩
    generalize ph p (dS p a b) = m at *
    generalize ph p a.1 = u at *
    generalize ph p b.1 = w at *
    generalize ph p a.2.1 = v at *
    generalize ph p b.2.1 = z at *
    have : z = v + m * (w - u) := by grind
    subst this
    clear hi em xx hmi
    grind
theorem on_add (hp : Pr p) (hq : Prm p) {a b : P3} (ha : On p a) (hb : On p b) : On p (dA p a b) := (jn_rep hp hq (rep_tO hp ha) ha hb).2
theorem gP_add (A : Al p al ep) {a b : P3} (ha : On p a) (hb : On p b) : gP al ep (dA p a b) = eadd (gP al ep a) (gP al ep b) := by
  by_cases hz : a.2.2 = true
  · have e : dA p a b = b := by unfold dA; rw [if_pos hz]
    rw [e, gP_z hz, eadd_zl A]
  · by_cases hy : b.2.2 = true
    · have e : dA p a b = a := by unfold dA; rw [if_neg hz, if_pos hy]
      rw [e, gP_z hy, eadd_zero A.fd.pr A.fd.prm]
    · have hz : a.2.2 = false := by simpa using hz
      have hy : b.2.2 = false := by simpa using hy
      by_cases hn : a = (b.1, mi p 0 b.2.1, b.2.2)
      · rw [dA_neg hz hy hn, gP_z rfl, eadd_comm, ← eadd_neg A.fd (gP_on A hb)]
        congr 1
        rw [hn, gP_f hy, gP_f (by exact hy)]
        unfold fi
        simp only
        rw [ph_mi0 _ hb.lt.y]
        exact Prod.ext (by simp only; grind) rfl
      · obtain ⟨e, e1, e2⟩ := slope_of A.fd.pr A.fd.prm ha hb hz hy hn
        rw [gP_f hz, gP_f hy, e, gP_f rfl]
        exact fi_add A (ha.cv hz) e2 e1 (ph_d3X ha.lt.x hb.lt.x) (ph_d3Y A.fd.pr ha.lt.y)
theorem gP_inj (A : Al p al ep) {a b : P3} (ha : On p a) (hb : On p b) (h : gP al ep a = gP al ep b) : a = b := by
  have ne : ∀ {c : P3}, On p c → c.2.2 = false → gP al ep c ≠ (0, 1) := fun {c} hc hz e => by
    rw [gP_f hz] at e
    unfold fi at e
    injection e with _ e
    have e6 := iv_spec A.fd.pr A.fd.prm (A.w0 (hc.cv hz))
    generalize iv (ph p c.1 + ep) = j at *
    have : (2 : Fin p) * ep = 0 := by grind
    exact A.ep0 ((fp_mul A.fd.prm this).resolve_left A.fd.two)
  by_cases hz : a.2.2 = true
  · by_cases hy : b.2.2 = true
    · rw [ha.zr hz, hb.zr hy]
    · rw [gP_z hz] at h
      exact absurd h.symm (ne hb (by simpa using hy))
  · by_cases hy : b.2.2 = true
    · rw [gP_z hy] at h
      exact absurd h (ne ha (by simpa using hz))
    · have hz : a.2.2 = false := by simpa using hz
      have hy : b.2.2 = false := by simpa using hy
      rw [gP_f hz, gP_f hy] at h
      unfold fi at h
      injection h with h1 h2
      have e6 := iv_spec A.fd.pr A.fd.prm (A.w0 (ha.cv hz))
      have e7 := iv_spec A.fd.pr A.fd.prm (A.w0 (hb.cv hy))
      have ex : ph p a.1 = ph p b.1 := by
        generalize iv (ph p a.1 + ep) = j at *
        generalize iv (ph p b.1 + ep) = j' at *
        have e8 : (ph p a.1 - ep) * (ph p b.1 + ep) = (ph p b.1 - ep) * (ph p a.1 + ep) := by
          have : (ph p a.1 - ep) * (ph p b.1 + ep) = (ph p a.1 - ep) * j * ((ph p a.1 + ep) * (ph p b.1 + ep)) := by
            have : (ph p a.1 - ep) * j * ((ph p a.1 + ep) * (ph p b.1 + ep)) = (ph p a.1 - ep) * (ph p b.1 + ep) * ((ph p a.1 + ep) * j) := by grind
            rw [this, e6]
            grind
          rw [this, h2]
          have : (ph p b.1 - ep) * j' * ((ph p a.1 + ep) * (ph p b.1 + ep)) = (ph p b.1 - ep) * (ph p a.1 + ep) * ((ph p b.1 + ep) * j') := by grind
          rw [this, e7]
          grind
        have e9 : (2 : Fin p) * ep * (ph p a.1 - ph p b.1) = 0 := by grind
        have := (fp_mul A.fd.prm e9).resolve_left (fp_ne A.fd.prm A.fd.two A.ep0)
        grind
      have ey : ph p a.2.1 = ph p b.2.1 := by
        rw [ex] at h1
        have e5 := iv_spec A.fd.pr A.fd.prm (A.s0 (ph p b.1))
        generalize iv (ph p b.1 * ph p b.1 + 1) = i at *
        have hal : al ≠ 0 := fun e => A.ep0 ((fp_mul A.fd.prm (show (2 : Fin p) * ep = 0 by have := A.two; grind)).resolve_left A.fd.two)
        have hi : i ≠ 0 := fun e => by
          rw [e] at e5
          exact A.fd.two (by grind)
        refine fp_cancel A.fd.prm (fp_ne A.fd.prm hal hi) ?_
        grind
      exact p3_eq (ph_inj ha.lt.x hb.lt.x ex) (ph_inj ha.lt.y hb.lt.y ey) (by rw [hz, hy])
/-! The group. -/
theorem dA_comm (F : Fd p) {a b : P3} (ha : On p a) (hb : On p b) : dA p a b = dA p b a := by
  obtain ⟨al, ep, A⟩ := al_ex F
  refine gP_inj A (on_add F.pr F.prm ha hb) (on_add F.pr F.prm hb ha) ?_
  rw [gP_add A ha hb, gP_add A hb ha, eadd_comm]
theorem dA_assoc (F : Fd p) {a b c : P3} (ha : On p a) (hb : On p b) (hc : On p c) : dA p (dA p a b) c = dA p a (dA p b c) := by
  obtain ⟨al, ep, A⟩ := al_ex F
  have hab := on_add F.pr F.prm ha hb
  have hbc := on_add F.pr F.prm hb hc
  refine gP_inj A (on_add F.pr F.prm hab hc) (on_add F.pr F.prm ha hbc) ?_
  rw [gP_add A hab hc, gP_add A ha hb, gP_add A ha hbc, gP_add A hb hc, eadd_assoc F (gP_on A ha) (gP_on A hb) (gP_on A hc)]
theorem dA_zr {a : P3} (ha : On p a) : dA p a (0, 0, true) = a := by
  unfold dA
  by_cases h : a.2.2 = true
  · rw [if_pos h, ha.zr h]
  · rw [if_neg h, if_pos rfl]
theorem on_neg (hp : Pr p) {a : P3} (ha : On p a) : On p (a.1, mi p 0 a.2.1, a.2.2) := by
  refine ⟨⟨ha.lt.x, mi_lt hp⟩, fun h => ?_, fun h => ?_⟩
  · have e := ha.zr h
    rw [e]
    have : mi p 0 0 = 0 := by unfold mi; rw [Nat.zero_add, Nat.sub_zero, Nat.mod_self]
    simp only [this]
  · have e := ha.cv h
    simp only
    rw [ph_mi0 _ ha.lt.y]
    grind
theorem dA_inv (F : Fd p) {a : P3} (ha : On p a) : dA p a (a.1, mi p 0 a.2.1, a.2.2) = (0, 0, true) := by
  by_cases h : a.2.2 = true
  · have e := ha.zr h
    rw [e]
    have : mi p 0 0 = 0 := by unfold mi; rw [Nat.zero_add, Nat.sub_zero, Nat.mod_self]
    simp only [this]
    exact dA_zl _
  · have h : a.2.2 = false := by simpa using h
    refine dA_neg h (by exact h) (p3_eq rfl ?_ rfl)
    refine ph_inj ha.lt.y (mi_lt F.pr) ?_
    rw [ph_mi0 _ (mi_lt F.pr), ph_mi0 _ ha.lt.y]
    grind
/-- So many times a point. -/
def dN (p : Nat) (a : P3) : Nat → P3
  | 0 => (0, 0, true)
  | n + 1 => dA p (dN p a n) a
theorem dN_on (F : Fd p) {a : P3} (ha : On p a) : ∀ n, On p (dN p a n)
  | 0 => on_zero' F.pr
  | n + 1 => on_add F.pr F.prm (dN_on F ha n) ha
theorem dN_add (F : Fd p) {a : P3} (ha : On p a) (m : Nat) : ∀ n, dN p a (m + n) = dA p (dN p a m) (dN p a n)
  | 0 => (dA_zr (dN_on F ha m)).symm
  | n + 1 => by
    show dA p (dN p a (m + n)) a = dA p (dN p a m) (dA p (dN p a n) a)
    rw [dN_add F ha m n, dA_assoc F (dN_on F ha m) (dN_on F ha n) ha]
theorem dN_mul (F : Fd p) {a : P3} (ha : On p a) (m : Nat) : ∀ n, dN p (dN p a m) n = dN p a (m * n)
  | 0 => rfl
  | n + 1 => by
    show dA p (dN p (dN p a m) n) (dN p a m) = dN p a (m * (n + 1))
    rw [dN_mul F ha m n, Nat.mul_add, Nat.mul_one, dN_add F ha]
theorem dM_dN (F : Fd p) {a : P3} (ha : On p a) (n : Nat) (hn : n < 18446744073709551616) : dM p a n = dN p a n := by
  induction n using Nat.strongRecOn with
  | ind n ih =>
    by_cases h : n = 0
    · subst h; rfl
    · rw [dM_step p a n hn h, ih (n / 2) (by omega) (by omega), ← dN_add F ha]
      split
      · rename_i h2
        have e : n = n / 2 + n / 2 + 1 := by omega
        have : dN p a n = dN p a (n / 2 + n / 2 + 1) := by rw [← e]
        rw [this]
        rfl
      · congr 1
        omega
end
end Rg
end Go.Proofs.Ytjmbgchoioepjaa
