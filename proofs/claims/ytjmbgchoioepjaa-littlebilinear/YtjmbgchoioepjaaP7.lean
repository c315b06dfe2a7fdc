/- Texts of the proof, joined. -/
import Derived.Test.YtjmbgchoioepjaaP6
import Derived.Laws.BytesArg
section
namespace Go.Proofs.Ytjmbgchoioepjaa
open Go.RowKit
namespace Rg
open NT
section
variable {p : Nat} [NeZero p]
theorem l_k {x1 y1 x6 y6 l s u v : Fin p} (g1 : u * x1 + v = s * y1) (g6 : u * x6 + v = s * - y6) (h : - y6 = y1 + l * (x6 - x1)) : (x6 - x1) * (s * l - u) = 0 := by
  rw [h] at g6
  grind -lia
theorem l_t {x1 y1 xt yt l s u v : Fin p} (g1 : u * x1 + v = s * y1) (gt : u * xt + v = s * yt) (h : s * l = u) : s * (yt - (y1 + l * (xt - x1))) = 0 := by
  subst h
  grind -lia
theorem l_6 {x4 y4 x6 y6 k : Fin p} (h : - y6 = y4 + k * (x6 - x4)) : - y6 - y4 - k * (x6 - x4) = 0 := by grind -lia
theorem neg_cv {x y : Fin p} (h : y * y = x * x * x + x) : - y * - y = x * x * x + x := by grind -lia
/-- Lines of three points, the first in general position: a point t of the second or third is enough. -/
theorem cocyc2 (hq : Prm p) {x1 y1 x4 y4 x5 y5 x6 y6 xt yt m n k l : Fin p} (c1 : y1 * y1 = x1 * x1 * x1 + x1) (c4 : y4 * y4 = x4 * x4 * x4 + x4) (c5 : y5 * y5 = x5 * x5 * x5 + x5) (c6 : y6 * y6 = x6 * x6 * x6 + x6) (ct : yt * yt = xt * xt * xt + xt)
    (rAE : 2 * y1 * l + l * l * (x5 - x1) = x1 * x1 + x1 * x5 + x5 * x5 + 1) (f4 : y4 = m * (x1 - x4) - y1) (hE : y5 = y1 + l * (x5 - x1)) (e6 : x6 = l * l - x1 - x5) (k6 : - y6 = y4 + k * (x6 - x4)) (l6 : - y6 = y1 + l * (x6 - x1)) (m6 : - y6 = y5 + l * (x6 - x5))
    (t4 : (yt + y4 - m * (xt - x4)) * (yt - y4 - k * (xt - x4)) = 0) (t5 : (yt + y5 - n * (xt - x5)) * (yt - y5 - l * (xt - x5)) = 0)
    (d14 : x1 ≠ x4) (d15 : x1 ≠ x5) (d16 : x6 ≠ x1) (d64 : x6 ≠ x4) (d65 : x6 ≠ x5) (dt1 : xt ≠ x1) (dt4 : xt ≠ x4) (dt5 : xt ≠ x5) (dt6 : xt ≠ x6) (X Y : Fin p) : wq X Y x4 y4 m k = wq X Y x5 y5 n l := by
  have a1 := ln_zero hq (m := m) (k := k) c1 c4 d14 (mul0 (l_a f4))
  have b1 := ln_zero hq (m := n) (k := l) c1 c5 d15 (mul0r (l_d hE))
  have a6 := ln_zero hq (m := m) (k := k) (neg_cv c6) c4 d64 (mul0r (l_6 k6))
  have b6 := ln_zero hq (m := n) (k := l) (neg_cv c6) c5 d65 (mul0r (l_6 m6))
  have at_ := ln_zero hq (m := m) (k := k) ct c4 dt4 t4
  have bt := ln_zero hq (m := n) (k := l) ct c5 dt5 t5
  obtain ⟨s, hs⟩ : ∃ s, s = m + k - n - l := ⟨_, rfl⟩
  obtain ⟨u, hu⟩ : ∃ u, u = x4 + m * k - x5 - n * l := ⟨_, rfl⟩
  obtain ⟨v, hv⟩ : ∃ v, v = (x4 * x4 + (m - k) * y4 - m * k * x4) - (x5 * x5 + (n - l) * y5 - n * l * x5) := ⟨_, rfl⟩
  have g1 := l_g a1 b1 hs hu hv
  have g6 := l_g a6 b6 hs hu hv
  have gt := l_g at_ bt hs hu hv
  have h1 : s * l = u := (fp_mul hq (l_k g1 g6 l6)).elim (fun e => absurd (sub0 e) d16) sub0
  have s0 : s = 0 := by
    rcases fp_mul hq (l_t g1 gt h1) with e | e
    · exact e
    · exfalso
      rcases line_third hq c1 ct rAE e6 (sub0 e) with h | h | h
      · exact dt1 h
      · exact dt5 h
      · exact dt6 h
  have u0 : u = 0 := by rw [← h1]; exact mul0 s0
  exact l_w hs hu hv s0 u0 (l_v g1 u0 s0)
end
end Rg
end Go.Proofs.Ytjmbgchoioepjaa
end
section
namespace Go.Proofs.Ytjmbgchoioepjaa
open Go.RowKit
namespace Rg
open NT
section
variable {p : Nat} [NeZero p]
theorem h_neg3 {x1 y1 x6 y6 m : Fin p} (f : y6 = m * (x1 - x6) - y1) : - y6 = y1 + m * (x6 - x1) := by grind -lia
theorem l_m6 (x1 y1 x5 x6 l : Fin p) : y1 + l * (x6 - x1) = y1 + l * (x5 - x1) + l * (x6 - x5) := by grind -lia
/-- What a sum's parts are. -/
theorem sum_of (F : Fd p) {a b : P3} (ha : On p a) (hb : On p b) (za : a.2.2 = false) (zb : b.2.2 = false) (zd : (dA p a b).2.2 = false) :
    ph p b.2.1 = ph p a.2.1 + ph p (dS p a b) * (ph p b.1 - ph p a.1) ∧ 2 * ph p a.2.1 * ph p (dS p a b) + ph p (dS p a b) * ph p (dS p a b) * (ph p b.1 - ph p a.1) = ph p a.1 * ph p a.1 + ph p a.1 * ph p b.1 + ph p b.1 * ph p b.1 + 1 ∧
    ph p (dA p a b).1 = ph p (dS p a b) * ph p (dS p a b) - ph p a.1 - ph p b.1 ∧ ph p (dA p a b).2.1 = ph p (dS p a b) * (ph p a.1 - ph p (dA p a b).1) - ph p a.2.1 := by
  obtain ⟨eD, hB, rAB⟩ := slope_of F.pr F.prm ha hb za zb (not_neg za zb zd)
  refine ⟨hB, rAB, ?_, ?_⟩
  · rw [congrArg (fun q : P3 => q.1) eD]
    exact ph_d3X ha.lt.x hb.lt.x
  · rw [congrArg (fun q : P3 => q.2.1) eD, congrArg (fun q : P3 => q.1) eD]
    exact ph_d3Y F.pr ha.lt.y
/-- The first of three points in general position, t the second or the third. -/
structure Fst (p : Nat) [NeZero p] (a b c t : P3) : Prop where
  za : a.2.2 = false
  zb : b.2.2 = false
  zc : c.2.2 = false
  zd : (dA p a b).2.2 = false
  ze : (dA p b c).2.2 = false
  zs : (dA p (dA p a b) c).2.2 = false
  d14 : ph p a.1 ≠ ph p (dA p a b).1
  d15 : ph p a.1 ≠ ph p (dA p b c).1
  d16 : ph p (dA p (dA p a b) c).1 ≠ ph p a.1
  d64 : ph p (dA p (dA p a b) c).1 ≠ ph p (dA p a b).1
  d65 : ph p (dA p (dA p a b) c).1 ≠ ph p (dA p b c).1
  bc : t = b ∨ t = c
  dt1 : ph p t.1 ≠ ph p a.1
  dt4 : ph p t.1 ≠ ph p (dA p a b).1
  dt5 : ph p t.1 ≠ ph p (dA p b c).1
  dt6 : ph p t.1 ≠ ph p (dA p (dA p a b) c).1
theorem coc_fst (F : Fd p) {X Y : Fin p} (cR : Y * Y = X * X * X + X) {a b c t : P3} (ha : On p a) (hb : On p b) (hc : On p c) (g : Fst p a b c t) (h4 : X + ph p (dA p a b).1 ≠ 0) (h5 : X + ph p (dA p b c).1 ≠ 0) :
    kp (qm (hr X Y a b) (hr X Y (dA p a b) c)) = kp (qm (hr X Y b c) (hr X Y a (dA p b c))) := by
  have hp := F.pr
  have od := on_add hp F.prm ha hb
  have oe := on_add hp F.prm hb hc
  have os := on_add hp F.prm od hc
  have es : dA p a (dA p b c) = dA p (dA p a b) c := (dA_assoc F ha hb hc).symm
  have zs' : (dA p a (dA p b c)).2.2 = false := by rw [es]; exact g.zs
  obtain ⟨hB, _, _, f4⟩ := sum_of F ha hb g.za g.zb g.zd
  obtain ⟨hC, _, _, f5⟩ := sum_of F hb hc g.zb g.zc g.ze
  obtain ⟨hD, _, _, f6⟩ := sum_of F od hc g.zd g.zc g.zs
  obtain ⟨hE, rAE, e6, f6'⟩ := sum_of F ha oe g.za g.ze zs'
  rw [es] at e6 f6'
  have l6 := h_neg3 f6'
  have m6 : - ph p (dA p (dA p a b) c).2.1 = ph p (dA p b c).2.1 + ph p (dS p a (dA p b c)) * (ph p (dA p (dA p a b) c).1 - ph p (dA p b c).1) := by
    rw [l6, hE]
    exact l_m6 _ _ _ _ _
  have ct : ph p t.2.1 * ph p t.2.1 = ph p t.1 * ph p t.1 * ph p t.1 + ph p t.1 := by
    rcases g.bc with h | h
    · rw [h]; exact hb.cv g.zb
    · rw [h]; exact hc.cv g.zc
  have t4 : (ph p t.2.1 + ph p (dA p a b).2.1 - ph p (dS p a b) * (ph p t.1 - ph p (dA p a b).1)) * (ph p t.2.1 - ph p (dA p a b).2.1 - ph p (dS p (dA p a b) c) * (ph p t.1 - ph p (dA p a b).1)) = 0 := by
    rcases g.bc with h | h
    · rw [h]; exact mul0 (l_b hB f4)
    · rw [h]; exact mul0r (l_c hD)
  have t5 : (ph p t.2.1 + ph p (dA p b c).2.1 - ph p (dS p b c) * (ph p t.1 - ph p (dA p b c).1)) * (ph p t.2.1 - ph p (dA p b c).2.1 - ph p (dS p a (dA p b c)) * (ph p t.1 - ph p (dA p b c).1)) = 0 := by
    rcases g.bc with h | h
    · rw [h]; exact mul0 (l_a f5)
    · rw [h]; exact mul0 (l_b hC f5)
  have w := cocyc2 F.prm (ha.cv g.za) (od.cv g.zd) (oe.cv g.ze) (os.cv g.zs) ct rAE f4 hE e6 (h_neg3 f6) l6 m6 t4 t5 g.d14 g.d15 g.d16 g.d64 g.d65 g.dt1 g.dt4 g.dt5 g.dt6 X Y
  rw [hr_f g.za g.zb g.zd, hr_f g.zd g.zc g.zs, hr_f g.zb g.zc g.ze, hr_f g.za g.ze zs', l_up (X := X) f4, l_up (X := X) f5, l_dn (X := X) hE, wq_is X Y _ _ _ _ cR (od.cv g.zd), wq_is X Y _ _ _ _ cR (oe.cv g.ze), kp_sc F h4, kp_sc F h5, w]
end
end Rg
end Go.Proofs.Ytjmbgchoioepjaa
end
section
namespace Go.Proofs.Ytjmbgchoioepjaa
open Go.RowKit
namespace Rg
open NT
section
variable {p : Nat} [NeZero p]
theorem l_turn {X Y x y : Fin p} (e : X + x = 0) (cR : Y * Y = X * X * X + X) (cD : y * y = x * x * x + x) : Y * Y + y * y = 0 := by
  have : X = - x := by
    clear cR cD
    grind -lia
  subst this
  rw [cR, cD]
  clear cR cD e
  grind -lia
theorem turn_ne (F : Fd p) {X Y x y : Fin p} (cR : Y * Y = X * X * X + X) (cD : y * y = x * x * x + x) (hy : y ≠ 0) : X + x ≠ 0 := fun e => hy (F.sum0 (l_turn e cR cD))
/-- A point of the group. -/
structure Sg (p r : Nat) [NeZero p] (a : P3) : Prop where
  on : On p a
  z : dN p a r = (0, 0, true)
theorem Sg.add (F : Fd p) {r : Nat} {a b : P3} (ha : Sg p r a) (hb : Sg p r b) : Sg p r (dA p a b) := ⟨on_add F.pr F.prm ha.on hb.on, by rw [dN_sum F ha.on hb.on, ha.z, hb.z, dA_zl]⟩
theorem Sg.zero (F : Fd p) (r : Nat) : Sg p r (0, 0, true) := ⟨on_zero' F.pr, dN_00 r⟩
theorem Sg.y (F : Fd p) {r : Nat} (hr : Prm r) (h2 : 2 < r) {a : P3} (ha : Sg p r a) (hz : a.2.2 = false) : ph p a.2.1 ≠ 0 := fun e => by
  have h := dN_ne F hr ha.on hz ha.z (n := 2) (by decide) h2
  have e2 : dN p a 2 = dA p a a := by
    show dA p (dN p a 1) a = _
    rw [dN_one]
  rw [e2, dA_neg hz hz (neg_of F.pr ha.on (by rw [e]; grind -lia))] at h
  cases h
theorem Sg.turn (F : Fd p) {r : Nat} (hr : Prm r) (h2 : 2 < r) {a : P3} (ha : Sg p r a) (hz : a.2.2 = false) {X Y : Fin p} (cR : Y * Y = X * X * X + X) : X + ph p a.1 ≠ 0 := turn_ne F cR (ha.on.cv hz) (ha.y F hr h2 hz)
theorem kp_one (F : Fd p) : kp ((1, 0) : Q2 p) = (1, 0) := by
  unfold kp
  refine qp_scal F (fun e => ?_)
  have := congrArg Fin.val e
  have h1 := one_lt F.pr
  rw [show (1 : Fin p).val = 1 % p from rfl, Nat.mod_eq_of_lt h1, show (0 : Fin p).val = 0 from Nat.zero_mod p] at this
  cases this
theorem hr_zl (X Y : Fin p) (a : P3) : hr X Y (0, 0, true) a = (1, 0) := by
  unfold hr
  rw [if_pos (.inl rfl)]
theorem hr_zr (X Y : Fin p) (a : P3) : hr X Y a (0, 0, true) = (1, 0) := by
  unfold hr
  rw [if_pos (.inr (.inl rfl))]
theorem hr_z {X Y : Fin p} {a b : P3} (h : dA p a b = (0, 0, true)) : hr X Y a b = (1, 0) := by
  unfold hr
  rw [if_pos (.inr (.inr (by rw [h])))]
theorem l_sl {xu yu xd yd k m : Fin p} (h1 : - yu = yd + k * (xu - xd)) (h2 : yu = - yd + m * (xu - xd)) : (xu - xd) * (k - - m) = 0 := by
  have : yd + k * (xu - xd) + (- yd + m * (xu - xd)) = 0 := by
    rw [← h1, ← h2]
    clear h1 h2
    grind -lia
  clear h1 h2
  grind -lia
theorem l_u2 {x1 y1 x2 y2 x4 y4 m : Fin p} (hB : y2 = y1 + m * (x2 - x1)) (f4 : y4 = m * (x1 - x4) - y1) : y2 = - y4 + m * (x2 - x4) := by
  subst hB f4
  grind -lia
theorem l_pp (Y P : Fin p) : qm (P, Y) (- P, Y) = qs (- (P * P + Y * Y)) (1, 0) := q_ext (by simp only [qm, qs]; grind -lia) (by simp only [qm, qs]; grind -lia)
theorem l_mp (X xd yd m : Fin p) : - m * (X + xd) - yd = - (m * (X + xd) + yd) := by grind -lia
theorem neg_nn {x : Fin p} (h : x ≠ 0) : - x ≠ 0 := fun e => h (by
  have : x = - - x := by grind -lia
  rw [this, e]
  grind -lia)
/-- A point, and another and its negated one. -/
theorem coc_neg (F : Fd p) {X Y : Fin p} (hY : Y ≠ 0) {a u : P3} (ha : On p a) (hu : On p u) (za : a.2.2 = false) (zu : u.2.2 = false) (zd : (dA p a u).2.2 = false) (hx : ph p u.1 ≠ ph p (dA p a u).1) :
    kp (qm (hr X Y a u) (hr X Y (dA p a u) (u.1, mi p 0 u.2.1, u.2.2))) = (1, 0) := by
  have od := on_add F.pr F.prm ha hu
  have on := on_neg F.pr hu
  have es : dA p (dA p a u) (u.1, mi p 0 u.2.1, u.2.2) = a := by rw [dA_assoc F ha hu on, dA_inv F hu, dA_zr ha]
  have zs : (dA p (dA p a u) (u.1, mi p 0 u.2.1, u.2.2)).2.2 = false := by rw [es]; exact za
  obtain ⟨hB, _, _, f4⟩ := sum_of F ha hu za zu zd
  obtain ⟨hD, _, _, _⟩ := sum_of F od on zd zu zs
  have e1 : ph p (mi p 0 u.2.1) = - ph p u.2.1 := ph_mi0 _ hu.lt.y
  simp only [e1] at hD
  have ek : ph p (dS p (dA p a u) (u.1, mi p 0 u.2.1, u.2.2)) = - ph p (dS p a u) := (fp_mul F.prm (l_sl hD (l_u2 hB f4))).elim (fun e => absurd (sub0 e) hx) sub0
  rw [hr_f za zu zd, hr_f (b := (u.1, mi p 0 u.2.1, u.2.2)) zd zu zs, l_up (X := X) f4, ek, l_mp, l_pp]
  rw [kp_sc F (neg_nn (fun e => hY (F.sum0 e))), kp_one F]
end
end Rg
end Go.Proofs.Ytjmbgchoioepjaa
end
section
namespace Go.Proofs.Ytjmbgchoioepjaa
open Go.RowKit
namespace Rg
open NT
theorem avoid {α : Type} [DecidableEq α] : ∀ (cs : List (α → Prop)) (l : List α), l.Nodup → (∀ c ∈ cs, ∀ x y, x ∈ l → y ∈ l → c x → c y → x = y) → cs.length < l.length → ∃ x, x ∈ l ∧ ∀ c ∈ cs, ¬ c x
  | [], l, _, _, h => by
    match l, h with
    | x :: _, _ => exact ⟨x, List.mem_cons_self, fun c hc => by cases hc⟩
  | c :: cs, l, hn, hu, h => by
    by_cases hx : ∃ x, x ∈ l ∧ c x
    · obtain ⟨x, hx1, hx2⟩ := hx
      have hl : (l.erase x).length = l.length - 1 := List.length_erase_of_mem hx1
      obtain ⟨y, hy1, hy2⟩ := avoid cs (l.erase x) (hn.erase x) (fun d hd a b ha hb => hu d (List.mem_cons_of_mem _ hd) a b (List.mem_of_mem_erase ha) (List.mem_of_mem_erase hb)) (by rw [hl]; simp at h; omega)
      refine ⟨y, List.mem_of_mem_erase hy1, fun d hd => ?_⟩
      rcases List.mem_cons.1 hd with e | e
      · rw [e]
        intro hc
        have exy := hu c List.mem_cons_self x y hx1 (List.mem_of_mem_erase hy1) hx2 hc
        rw [← exy] at hy1
        exact (List.Nodup.not_mem_erase hn) hy1
      · exact hy2 d e
    · obtain ⟨y, hy1, hy2⟩ := avoid cs l hn (fun d hd => hu d (List.mem_cons_of_mem _ hd)) (by simp at h; omega)
      refine ⟨y, hy1, fun d hd => ?_⟩
      rcases List.mem_cons.1 hd with e | e
      · rw [e]
        exact fun hc => hx ⟨y, hy1, hc⟩
      · exact hy2 d e
section
variable {p : Nat} [NeZero p]
theorem dN_inj (F : Fd p) {r : Nat} (hr : Prm r) {a : P3} (ha : Sg p r a) (hz : a.2.2 = false) {i j : Nat} (hi : i < r) (hj : j < r) (e : dN p a i = dN p a j) : i = j := by
  have key : ∀ {i j : Nat}, i < j → j < r → dN p a i = dN p a j → False := fun {i j} h hj e => by
    have e1 : dA p (dN p a i) (dN p a (j - i)) = dA p (dN p a i) (0, 0, true) := by
      rw [← dN_add F ha.on, show i + (j - i) = j by omega, dA_zr (dN_on F ha.on i), e]
    have e2 := dA_cancel F (dN_on F ha.on i) (dN_on F ha.on _) (on_zero' F.pr) e1
    have h := dN_ne F hr ha.on hz ha.z (n := j - i) (by omega) (by omega)
    rw [e2] at h
    cases h
  rcases Nat.lt_trichotomy i j with h | h | h
  · exact (key h hj e).elim
  · exact h
  · exact (key h hi e.symm).elim
theorem mults_nodup (F : Fd p) {r : Nat} (hr : Prm r) {a : P3} (ha : Sg p r a) (hz : a.2.2 = false) {N : Nat} (hN : N ≤ r) : ((List.range N).map (dN p a)).Nodup := by
  refine List.pairwise_map.2 (List.Pairwise.imp_of_mem ?_ List.nodup_range)
  intro i j hi hj hne e
  exact hne (dN_inj F hr ha hz (by have := List.mem_range.1 hi; omega) (by have := List.mem_range.1 hj; omega) e)
theorem Sg.mul (F : Fd p) {r : Nat} {a : P3} (ha : Sg p r a) (n : Nat) : Sg p r (dN p a n) := ⟨dN_on F ha.on n, by rw [dN_mul F ha.on, Nat.mul_comm, ← dN_mul F ha.on, ha.z, dN_00]⟩
theorem add_inj (F : Fd p) {a b w : P3} (ha : On p a) (hb : On p b) (hw : On p w) (h : dA p a w = dA p b w) : a = b := by
  rw [dA_comm F ha hw, dA_comm F hb hw] at h
  exact dA_cancel F hw ha hb h
theorem twice_inj (F : Fd p) {r : Nat} (hodd : r % 2 = 1) {a b : P3} (ha : Sg p r a) (hb : Sg p r b) (h : dA p a a = dA p b b) : a = b := by
  have e : ∀ {x : P3}, Sg p r x → dN p (dA p x x) ((r + 1) / 2) = x := fun {x} hx => by
    have e1 : dA p x x = dN p x 2 := by
      show _ = dA p (dN p x 1) x
      rw [dN_one]
    rw [e1, dN_mul F hx.on, show 2 * ((r + 1) / 2) = r + 1 by omega, dN_add F hx.on, hx.z, dA_zl, dN_one]
  rw [← e ha, ← e hb, h]
end
end Rg
end Go.Proofs.Ytjmbgchoioepjaa
end
section
namespace Go.Proofs.Ytjmbgchoioepjaa
open Go.RowKit
namespace Rg
open NT
section
variable {p : Nat} [NeZero p]
abbrev O3 : P3 := (0, 0, true)
theorem nz_of {a : P3} (ha : On p a) (h : a ≠ O3) : a.2.2 = false := by
  cases e : a.2.2
  · rfl
  · exact absurd (ha.zr e) h
theorem dA_lc (F : Fd p) {a b c : P3} (ha : On p a) (hb : On p b) (hc : On p c) : dA p a (dA p b c) = dA p b (dA p a c) := by
  rw [← dA_assoc F ha hb hc, dA_comm F ha hb, dA_assoc F hb ha hc]
theorem self_l (F : Fd p) {a b : P3} (ha : On p a) (hb : On p b) (h : dA p a b = a) : b = O3 := dA_cancel F ha hb (on_zero' F.pr) (by rw [dA_zr ha]; exact h)
theorem self_r (F : Fd p) {a b : P3} (ha : On p a) (hb : On p b) (h : dA p a b = b) : a = O3 := self_l F hb ha (by rw [dA_comm F hb ha]; exact h)
/-- What a first point must avoid. -/
def bad (p : Nat) (U V : P3) : List (P3 → Prop) :=
  [fun Z => Z = O3, fun Z => dA p Z U = O3, fun Z => dA p Z (dA p U V) = O3, fun Z => dA p (dA p Z Z) U = O3, fun Z => Z = dA p U V, fun Z => dA p (dA p Z Z) (dA p U V) = O3,
   fun Z => dA p (dA p Z Z) (dA p (dA p U U) V) = O3, fun Z => dA p Z (dA p (dA p U V) (dA p U V)) = O3, fun Z => Z = U, fun Z => Z = V, fun Z => dA p Z V = O3, fun Z => dA p Z (dA p U U) = O3, fun Z => dA p Z U = V,
   fun Z => dA p Z (dA p (dA p U U) V) = O3, fun Z => dA p Z (dA p U (dA p V V)) = O3]
structure Good (p : Nat) (U V Z : P3) : Prop where
  c0 : Z ≠ O3
  c1 : dA p Z U ≠ O3
  c2 : dA p Z (dA p U V) ≠ O3
  c3 : dA p (dA p Z Z) U ≠ O3
  c4 : Z ≠ dA p U V
  c5 : dA p (dA p Z Z) (dA p U V) ≠ O3
  c6 : dA p (dA p Z Z) (dA p (dA p U U) V) ≠ O3
  c7 : dA p Z (dA p (dA p U V) (dA p U V)) ≠ O3
  c8 : Z ≠ U
  c9 : Z ≠ V
  c10 : dA p Z V ≠ O3
  c11 : dA p Z (dA p U U) ≠ O3
  c12 : dA p Z U ≠ V
  c13 : dA p Z (dA p (dA p U U) V) ≠ O3
  c14 : dA p Z (dA p U (dA p V V)) ≠ O3
omit [NeZero p] in
theorem Good.of {U V Z : P3} (h : ∀ c ∈ bad p U V, ¬ c Z) : Good p U V Z := by
  simp only [bad, List.mem_cons, List.not_mem_nil, or_false, forall_eq_or_imp, forall_eq] at h
  obtain ⟨h0, h1, h2, h3, h4, h5, h6, h7, h8, h9, h10, h11, h12, h13, h14⟩ := h
  exact ⟨h0, h1, h2, h3, h4, h5, h6, h7, h8, h9, h10, h11, h12, h13, h14⟩
theorem bad_one (F : Fd p) {r : Nat} (hodd : r % 2 = 1) {U V : P3} (hU : Sg p r U) (hV : Sg p r V) : ∀ c ∈ bad p U V, ∀ x y, Sg p r x → Sg p r y → c x → c y → x = y := by
  have on := fun {a b : P3} (ha : Sg p r a) (hb : Sg p r b) => ha.add F hb
  have f1 : ∀ {w v : P3}, Sg p r w → ∀ x y, Sg p r x → Sg p r y → dA p x w = v → dA p y w = v → x = y := fun hw x y hx hy e1 e2 => add_inj F hx.on hy.on hw.on (e1.trans e2.symm)
  have f2 : ∀ {w v : P3}, Sg p r w → ∀ x y, Sg p r x → Sg p r y → dA p (dA p x x) w = v → dA p (dA p y y) w = v → x = y := fun hw x y hx hy e1 e2 => twice_inj F hodd hx hy (f1 hw _ _ (on hx hx) (on hy hy) e1 e2)
  have f0 : ∀ {v : P3}, ∀ x y, Sg p r x → Sg p r y → x = v → y = v → x = y := fun x y _ _ e1 e2 => e1.trans e2.symm
  have hE := on hU hV
  intro c hc
  simp only [bad, List.mem_cons, List.not_mem_nil, or_false] at hc
  rcases hc with h | h | h | h | h | h | h | h | h | h | h | h | h | h | h <;> subst h
  · exact f0
  · exact f1 hU
  · exact f1 hE
  · exact f2 hU
  · exact f0
  · exact f2 hE
  · exact f2 (on (on hU hU) hV)
  · exact f1 (on hE hE)
  · exact f0
  · exact f0
  · exact f1 hV
  · exact f1 (on hU hU)
  · exact f1 hU
  · exact f1 (on (on hU hU) hV)
  · exact f1 (on hU (on hV hV))
/-- A good first point is in general position. -/
theorem Good.fst (F : Fd p) {r : Nat} {Z U V : P3} (hZ : Sg p r Z) (hU : Sg p r U) (hV : Sg p r V) (g : Good p U V Z) (zU : U ≠ O3) (zV : V ≠ O3) (zE : dA p U V ≠ O3) (h3 : dA p (dA p U U) V ≠ O3 ∨ dA p U (dA p V V) ≠ O3) : ∃ t, Fst p Z U V t := by
  have oZ := hZ.on
  have oU := hU.on
  have oV := hV.on
  have oD := on_add F.pr F.prm oZ oU
  have oE := on_add F.pr F.prm oU oV
  have oS := on_add F.pr F.prm oD oV
  have oZZ := on_add F.pr F.prm oZ oZ
  have oUU := on_add F.pr F.prm oU oU
  have oVV := on_add F.pr F.prm oV oV
  have eS : dA p (dA p Z U) V = dA p Z (dA p U V) := dA_assoc F oZ oU oV
  have nS : dA p (dA p Z U) V ≠ O3 := by rw [eS]; exact g.c2
  have X : ∀ {a b : P3}, On p a → On p b → a ≠ O3 → b ≠ O3 → dA p a b ≠ O3 → a ≠ b → ph p a.1 ≠ ph p b.1 := fun ha hb na nb ns ne => x_of_ne F ha hb (nz_of ha na) (nz_of hb nb) (nz_of (on_add F.pr F.prm ha hb) ns) ne
  have d14 := X oZ oD g.c0 g.c1 (by rw [← dA_assoc F oZ oZ oU]; exact g.c3) (fun e => zU (self_l F oZ oU e.symm))
  have d15 := X oZ oE g.c0 zE g.c2 g.c4
  have d16 := X oS oZ nS g.c0 (by rw [eS, dA_comm F (on_add F.pr F.prm oZ oE) oZ, ← dA_assoc F oZ oZ oE]; exact g.c5) (fun e => zE (self_l F oZ oE (by rw [← eS]; exact e)))
  have e6 : dA p (dA p (dA p Z U) V) (dA p Z U) = dA p (dA p Z Z) (dA p (dA p U U) V) := by
    rw [dA_comm F oS oD, ← dA_assoc F oD oD oV, dA_assoc F oZ oU oD, dA_lc F oU oZ oU, ← dA_assoc F oZ oZ oUU, dA_assoc F oZZ oUU oV]
  have d64 := X oS oD nS g.c1 (by rw [e6]; exact g.c6) (fun e => zV (self_l F oD oV e))
  have d65 := X oS oE nS zE (by rw [eS, dA_assoc F oZ oE oE]; exact g.c7) (fun e => g.c0 (self_r F oZ oE (by rw [← eS]; exact e)))
  have base : ∀ t, (t = U ∨ t = V) → ph p t.1 ≠ ph p Z.1 → ph p t.1 ≠ ph p (dA p Z U).1 → ph p t.1 ≠ ph p (dA p U V).1 → ph p t.1 ≠ ph p (dA p (dA p Z U) V).1 → Fst p Z U V t :=
    fun t bc a b c d => ⟨nz_of oZ g.c0, nz_of oU zU, nz_of oV zV, nz_of oD g.c1, nz_of oE zE, nz_of oS nS, d14, d15, d16, d64, d65, bc, a, b, c, d⟩
  rcases h3 with h3 | h3
  · refine ⟨U, base U (.inl rfl) ?_ ?_ ?_ ?_⟩
    · exact X oU oZ zU g.c0 (by rw [dA_comm F oU oZ]; exact g.c1) (fun e => g.c8 e.symm)
    · exact X oU oD zU g.c1 (by rw [dA_lc F oU oZ oU]; exact g.c11) (fun e => g.c0 (self_r F oZ oU e.symm))
    · exact X oU oE zU zE (by rw [← dA_assoc F oU oU oV]; exact h3) (fun e => zV (self_l F oU oV e.symm))
    · refine X oU oS zU nS (by rw [eS, dA_lc F oU oZ oE, ← dA_assoc F oU oU oV]; exact g.c13) (fun e => g.c10 (self_r F (on_add F.pr F.prm oZ oV) oU ?_))
      rw [dA_assoc F oZ oV oU, dA_comm F oV oU, ← eS]
      exact e.symm
  · refine ⟨V, base V (.inr rfl) ?_ ?_ ?_ ?_⟩
    · exact X oV oZ zV g.c0 (by rw [dA_comm F oV oZ]; exact g.c10) (fun e => g.c9 e.symm)
    · exact X oV oD zV g.c1 (by rw [dA_comm F oV oD]; exact nS) (fun e => g.c12 e.symm)
    · exact X oV oE zV zE (by rw [dA_lc F oV oU oV]; exact h3) (fun e => zU (self_r F oU oV e.symm))
    · exact X oV oS zV nS (by rw [eS, dA_lc F oV oZ oE, dA_lc F oV oU oV]; exact g.c14) (fun e => g.c1 (self_r F oD oV e.symm))
end
end Rg
end Go.Proofs.Ytjmbgchoioepjaa
end
section
namespace Go.Proofs.Ytjmbgchoioepjaa
open Go.RowKit
namespace Rg
open NT
theorem qm_dd {p : Nat} [NeZero p] {a b c d e f x y u v : Q2 p} (e1 : qm b c = qm u d) (e2 : qm e c = qm y f) (e3 : qm a d = qm v f) (e4 : qm a b = qm x e) (he : Un e) (hf : Un f) (hd : Un d) : qm x y = qm u v := by
  have hw : Un (qm (qm e f) d) := (he.mul hf).mul hd
  refine hw.cancel ?_
  have l1 : qm (qm (qm e f) d) (qm x y) = qm (qm (qm x e) (qm y f)) d := q_ext (by simp only [qm]; grind -lia (ringSteps := 100000)) (by simp only [qm]; grind -lia (ringSteps := 100000))
  have l2 : qm (qm (qm e f) d) (qm u v) = qm (qm (qm u d) (qm v f)) e := q_ext (by simp only [qm]; grind -lia (ringSteps := 100000)) (by simp only [qm]; grind -lia (ringSteps := 100000))
  have l3 : qm (qm (qm a b) (qm e c)) d = qm (qm (qm b c) (qm a d)) e := q_ext (by simp only [qm]; grind -lia (ringSteps := 100000)) (by simp only [qm]; grind -lia (ringSteps := 100000))
  rw [l1, l2, ← e4, ← e2, ← e1, ← e3, l3]
section
variable {p : Nat} [NeZero p]
/-- The group and a point's two parts, by p. -/
structure Gr (p r : Nat) [NeZero p] (X Y : Fin p) : Prop where
  F : Fd p
  prm : Prm r
  odd : r % 2 = 1
  big : 100 ≤ r
  cR : Y * Y = X * X * X + X
  hY : Y ≠ 0
  G : ∃ g, Sg p r g ∧ g.2.2 = false
variable {r : Nat} {X Y : Fin p}
theorem three_ne (F : Fd p) (hr : Prm r) (h3 : 3 < r) {U V : P3} (hU : Sg p r U) (hV : Sg p r V) (zU : U ≠ O3) : dA p (dA p U U) V ≠ O3 ∨ dA p U (dA p V V) ≠ O3 := by
  by_cases e1 : dA p (dA p U U) V = O3
  · by_cases e2 : dA p U (dA p V V) = O3
    · exfalso
      have oE := on_add F.pr F.prm hU.on hV.on
      have e : U = V := by
        refine dA_cancel F oE hU.on hV.on ?_
        rw [dA_comm F oE hU.on, ← dA_assoc F hU.on hU.on hV.on, e1, dA_assoc F hU.on hV.on hV.on, e2]
      rw [← e] at e1
      have h := dN_ne F hr hU.on (nz_of hU.on zU) hU.z (n := 3) (by decide) h3
      have e3 : dN p U 3 = dA p (dA p U U) U := by
        show dA p (dA p (dN p U 1) U) U = _
        rw [dN_one]
      rw [e3, e1] at h
      cases h
    · exact .inr e2
  · exact .inl e1
theorem dg_good (g : Gr p r X Y) {Z U V : P3} (hZ : Sg p r Z) (hU : Sg p r U) (hV : Sg p r V) (hg : Good p U V Z) :
    kp (qm (hr X Y Z U) (hr X Y (dA p Z U) V)) = kp (qm (hr X Y U V) (hr X Y Z (dA p U V))) := by
  have F := g.F
  by_cases zU : U = O3
  · subst zU
    rw [hr_zr, hr_zl, dA_zr hZ.on, dA_zl]
  · by_cases zV : V = O3
    · subst zV
      rw [hr_zr, hr_zr, dA_zr hU.on, qm_comm]
    · by_cases zE : dA p U V = O3
      · have eV : V = (U.1, mi p 0 U.2.1, U.2.2) := dA_cancel F hU.on hV.on (on_neg F.pr hU.on) (by rw [zE, dA_inv F hU.on])
        have oD := on_add F.pr F.prm hZ.on hU.on
        have hx := x_of_ne F hU.on oD (nz_of hU.on zU) (nz_of oD hg.c1) (nz_of (on_add F.pr F.prm hU.on oD) (by rw [dA_lc F hU.on hZ.on hU.on]; exact hg.c11)) (fun e => hg.c0 (self_r F hZ.on hU.on e.symm))
        rw [hr_z zE, zE, hr_zr, one_qm, kp_one F, eV]
        exact coc_neg F g.hY hZ.on hU.on (nz_of hZ.on hg.c0) (nz_of hU.on zU) (nz_of oD hg.c1) hx
      · obtain ⟨t, ht⟩ := hg.fst F hZ hU hV zU zV zE (three_ne F g.prm (by have := g.big; omega) hU hV zU)
        have h2 : 2 < r := by have := g.big; omega
        exact coc_fst F g.cR hZ.on hU.on hV.on ht ((hZ.add F hU).turn F g.prm h2 ht.zd g.cR) ((hU.add F hV).turn F g.prm h2 ht.ze g.cR)
theorem coc_all (g : Gr p r X Y) {A B C : P3} (hA : Sg p r A) (hB : Sg p r B) (hC : Sg p r C) :
    qm (kp (hr X Y A B)) (kp (hr X Y (dA p A B) C)) = qm (kp (hr X Y B C)) (kp (hr X Y A (dA p B C))) := by
  have F := g.F
  obtain ⟨G, hG, zG⟩ := g.G
  have hAB := hA.add F hB
  have hBC := hB.add F hC
  have hs : ∀ x, x ∈ (List.range 100).map (dN p G) → Sg p r x := fun x hx => by
    obtain ⟨i, _, rfl⟩ := List.mem_map.1 hx
    exact hG.mul F i
  obtain ⟨Z, hZ, hz⟩ := avoid ((bad p B C).map (fun c Z => c (dA p Z A)) ++ (bad p (dA p A B) C ++ (bad p A (dA p B C) ++ bad p A B))) ((List.range 100).map (dN p G)) (mults_nodup F g.prm hG zG g.big) (fun c hc x y hx hy h1 h2 => by
    rcases List.mem_append.1 hc with h | h
    · obtain ⟨d, hd, rfl⟩ := List.mem_map.1 h
      exact add_inj F (hs x hx).on (hs y hy).on hA.on (bad_one F g.odd hB hC d hd _ _ ((hs x hx).add F hA) ((hs y hy).add F hA) h1 h2)
    · rcases List.mem_append.1 h with h | h
      · exact bad_one F g.odd hAB hC c h x y (hs x hx) (hs y hy) h1 h2
      · rcases List.mem_append.1 h with h | h
        · exact bad_one F g.odd hA hBC c h x y (hs x hx) (hs y hy) h1 h2
        · exact bad_one F g.odd hA hB c h x y (hs x hx) (hs y hy) h1 h2) (by simp [bad])
  have sZ := hs Z hZ
  have g1 : Good p B C (dA p Z A) := Good.of fun c hc => hz (fun Z => c (dA p Z A)) (List.mem_append_left _ (List.mem_map.2 ⟨c, hc, rfl⟩))
  have g2 : Good p (dA p A B) C Z := Good.of fun c hc => hz c (List.mem_append_right _ (List.mem_append_left _ hc))
  have g3 : Good p A (dA p B C) Z := Good.of fun c hc => hz c (List.mem_append_right _ (List.mem_append_right _ (List.mem_append_left _ hc)))
  have g4 : Good p A B Z := Good.of fun c hc => hz c (List.mem_append_right _ (List.mem_append_right _ (List.mem_append_right _ hc)))
  have e1 := dg_good g (sZ.add F hA) hB hC g1
  have e2 := dg_good g sZ hAB hC g2
  have e3 := dg_good g sZ hA hBC g3
  have e4 := dg_good g sZ hA hB g4
  rw [kp_mul, kp_mul] at e1 e2 e3 e4
  rw [dA_assoc F sZ.on hA.on hB.on] at e1
  rw [dA_assoc F hA.on hB.on hC.on] at e2
  have un := fun a b : P3 => kp_un F (hr_ne F (X := X) g.hY a b)
  exact qm_dd e1 e2 e3 e4 (un _ _) (un _ _) (un _ _)
/-- Lines are a symmetric cocycle on the group. -/
theorem Gr.coc (g : Gr p r X Y) : Coc (Sg p r) (fun a b => kp (hr X Y a b)) where
  on := fun _ h => h.on
  add := fun _ _ ha hb => ha.add g.F hb
  un := fun a b _ _ => kp_un g.F (hr_ne g.F g.hY a b)
  sym := fun a b ha hb => by rw [hr_sym g.F X Y ha.on hb.on]
  coc := fun _ _ _ ha hb hc => coc_all g ha hb hc
  zl := fun a _ => by rw [hr_zl, kp_one g.F]
/-- Linear on the left. -/
theorem left_lin (g : Gr p r X Y) {c : Nat} (hcr : c * r = p + 1) {a b : P3} (ha : Sg p r a) (hb : Sg p r b) :
    qp (fr (fun a b => kp (hr X Y a b)) (dA p a b) r) c = qm (qp (fr (fun a b => kp (hr X Y a b)) a r) c) (qp (fr (fun a b => kp (hr X Y a b)) b r) c) := by
  have e := fr_sum g.F g.coc (Sg.zero g.F r) ha hb r
  simp only [ha.z, hb.z] at e
  rw [hr_zl, kp_one g.F, qm_one] at e
  have e2 := congrArg (fun w => qp w c) e
  rw [qp_qm, qp_qm, qp_mul, Nat.mul_comm r c, hcr, (kp_un g.F (hr_ne g.F (X := X) g.hY a b)).whole g.F, qm_one] at e2
  exact e2
end
end Rg
end Go.Proofs.Ytjmbgchoioepjaa
end
section
namespace Go.Proofs.Ytjmbgchoioepjaa
open Go.RowKit
namespace Rg
open NT
section
variable {p : Nat} [NeZero p]
theorem fr_add (F : Fd p) {S : P3 → Prop} {h : P3 → P3 → Q2 p} (C : Coc S h) (h0 : S O3) {a : P3} (ha : S a) (m : Nat) : ∀ n, fr h a (m + n) = qm (qm (fr h a m) (fr h a n)) (h (dN p a m) (dN p a n))
  | 0 => by
    show fr h a m = qm (qm (fr h a m) (1, 0)) (h (dN p a m) O3)
    rw [C.sym _ _ (dN_S C h0 ha m) h0, C.zl _ (dN_S C h0 ha m), qm_one, qm_one]
  | n + 1 => by
    have oa := C.on a ha
    have sm := dN_S C h0 ha m
    have sn := dN_S C h0 ha n
    show qm (fr h a (m + n)) (h (dN p a (m + n)) a) = qm (qm (fr h a m) (qm (fr h a n) (h (dN p a n) a))) (h (dN p a m) (dA p (dN p a n) a))
    rw [fr_add F C h0 ha m n, dN_add F oa, qm_assoc, C.coc _ _ _ sm sn ha, ← qm_assoc, qm_assoc (fr h a m)]
variable {r : Nat}
/-- A line of the document is the cocycle's. -/
theorem dl_hr (hp : Pr p) {t u : P3} (ht : On p t) (zt : t.2.2 = false) (zu : u.2.2 = false) (zd : (dA p t u).2.2 = false) (X' Y' : Nat) : phq p (dl p t (dS p t u) X' Y') = hr (ph p X') (ph p Y') t u := by
  rw [phq_dl hp ht.lt, hr_f zt zu zd]
theorem kp_df (hp : Pr p) {g : E2} (hg : Lt2 p g) {t : P3} (ht : On p t) (zt : t.2.2 = false) (zd : (dA p t t).2.2 = false) (X' Y' : Nat) : kp (phq p (df p (g, t) X' Y')) = qm (qm (kp (phq p g)) (kp (phq p g))) (kp (hr (ph p X') (ph p Y') t t)) := by
  unfold df
  rw [phq_pd _ (pd_lt hp _ _).y, phq_pd _ hg.y, kp_mul, kp_mul]
  show qm _ (kp (phq p (dl p t (dS p t t) X' Y'))) = _
  rw [dl_hr hp ht zt zt zd]
theorem kp_dj (hp : Pr p) {g : E2} (hg : Lt2 p g) {t u : P3} (ht : On p t) (zt : t.2.2 = false) (zu : u.2.2 = false) (zd : (dA p t u).2.2 = false) (X' Y' : Nat) : kp (phq p (pd p g (dl p t (dS p t u) X' Y'))) = qm (kp (phq p g)) (kp (hr (ph p X') (ph p Y') t u)) := by
  rw [phq_pd _ hg.y, kp_mul, dl_hr hp ht zt zu zd]
end
end Rg
end Go.Proofs.Ytjmbgchoioepjaa
end
section
namespace Go.Proofs.Ytjmbgchoioepjaa
open Go.RowKit
namespace Rg
open NT
section
variable {p : Nat} [NeZero p]
abbrev HK (X Y : Fin p) : P3 → P3 → Q2 p := fun a b => kp (hr X Y a b)
structure Wf (p r X Y X' Y' m : Nat) [NeZero p] : Prop where
  l : Lt2 p (dws p r X Y X' Y' m).1
  f : kp (phq p (dws p r X Y X' Y' m).1) = fr (HK (ph p X') (ph p Y')) (X, Y, false) (r / 2 ^ (bl r - 1 - m))
  t : m < bl r - 1 → (dws p r X Y X' Y' m).2 = dN p (X, Y, false) (r / 2 ^ (bl r - 1 - m))
theorem walk_fr {r X' Y' : Nat} (g : Gr p r (ph p X') (ph p Y')) {X Y : Nat} (hP : Sg p r (X, Y, false)) : ∀ m, m ≤ bl r - 1 → Wf p r X Y X' Y' m
  | 0, _ => by
    have e1 : r / 2 ^ (bl r - 1 - 0) = 1 := by rw [Nat.sub_zero, pw_top (by have := g.prm.1; omega)]
    refine ⟨one_lt2 g.F.pr, ?_, fun _ => ?_⟩
    · rw [e1]
      show kp (1, 0) = qm (1, 0) (kp (hr _ _ O3 (X, Y, false)))
      rw [hr_zl, kp_one g.F, qm_one]
    · rw [e1, dN_one]
      rfl
  | m + 1, hm => by
    have F := g.F
    have hp := F.pr
    have hr := g.prm
    have hodd := g.odd
    have oP := hP.on
    have h0 := hP.z
    have C := g.coc
    have I := walk_fr g hP m (by omega)
    have ht := I.t (by omega)
    have hf := I.f
    have hL2 := I.l
    have hr0 : r ≠ 0 := by have := hr.1; omega
    have en : r / 2 ^ (bl r - 1 - m) = r / 2 ^ (bl r - 1 - 1 - m) / 2 := by rw [show bl r - 1 - m = bl r - 1 - 1 - m + 1 by omega, Nat.pow_succ, Nat.div_div_eq_div_mul]
    have hn1 : r / 2 ^ (bl r - 1 - m) ≥ 1 := by
      have := pw_top hr0
      have h3 : 2 ^ (bl r - 1 - m) ≤ 2 ^ (bl r - 1) := Nat.pow_le_pow_right (by decide) (by omega)
      have h4 : r / 2 ^ (bl r - 1) ≤ r / 2 ^ (bl r - 1 - m) := Nat.div_le_div_left h3 (Nat.two_pow_pos _)
      omega
    have hle : r / 2 ^ (bl r - 1 - 1 - m) ≤ r := Nat.div_le_self _ _
    have hlast : m + 1 < bl r - 1 → r / 2 ^ (bl r - 1 - 1 - m) < r := fun h => Nat.div_lt_self (by omega) (Nat.one_lt_two_pow (by omega))
    have hno : ¬ m + 1 < bl r - 1 → r / 2 ^ (bl r - 1 - 1 - m) = r := fun h => by rw [show bl r - 1 - 1 - m = 0 by omega, Nat.pow_zero, Nat.div_one]
    have eD : dws p r X Y X' Y' (m + 1) = dst p X Y X' Y' (r / 2 ^ (bl r - 1 - 1 - m) % 2) (dws p r X Y X' Y' m) := rfl
    have eE : bl r - 1 - (m + 1) = bl r - 1 - 1 - m := by omega
    rw [en] at ht hn1 hf
    generalize hN : r / 2 ^ (bl r - 1 - 1 - m) = N at *
    generalize hd : dws p r X Y X' Y' m = D at *
    obtain ⟨q, t⟩ := D
    simp only at ht hf hL2
    have hlt2 : N / 2 + N / 2 < r := by
      by_cases h : m + 1 < bl r - 1
      · have := hlast h; omega
      · have := hno h; omega
    have hot : On p t := by rw [ht]; exact dN_on F oP _
    have hz : t.2.2 = false := by rw [ht]; exact dN_ne F hr oP rfl h0 (by omega) (by omega)
    have e2 : dA p t t = dN p (X, Y, false) (N / 2 + N / 2) := by rw [dN_add F oP, ← ht]
    have hz2 : (dA p t t).2.2 = false := by rw [e2]; exact dN_ne F hr oP rfl h0 (by omega) hlt2
    have hot2 := on_add hp F.prm hot hot
    have hl2 : Lt2 p (df p (q, t) X' Y') := pd_lt hp _ _
    have hf2 : kp (phq p (df p (q, t) X' Y')) = fr (HK (ph p X') (ph p Y')) (X, Y, false) (N / 2 + N / 2) := by
      rw [kp_df hp hL2 hot hz hz2, hf, fr_add F C (Sg.zero F r) hP, ← ht]
    by_cases hb : N % 2 = 1 ∧ (dA p t t).1 ≠ X
    · have eT : dst p X Y X' Y' (N % 2) (q, t) = (pd p (df p (q, t) X' Y') (dl p (dA p t t) (dS p (dA p t t) (X, Y, false)) X' Y'), dA p (dA p t t) (X, Y, false)) := by unfold dst; rw [if_pos hb]
      have zd : (dA p (dA p t t) (X, Y, false)).2.2 = false := by
        refine nz_of (on_add hp F.prm hot2 oP) (fun e => hb.2 ?_)
        have e3 := add_inj F hot2 (on_neg hp oP) oP (e.trans (by rw [dA_comm F (on_neg hp oP) oP, dA_inv F oP]))
        rw [e3]
      have eN : N / 2 + N / 2 + 1 = N := by omega
      refine ⟨?_, ?_, fun _ => ?_⟩
      · rw [eD, eT]
        exact pd_lt hp _ _
      · rw [eD, eT, eE, hN, ← eN]
        show kp (phq p (pd p (df p (q, t) X' Y') (dl p (dA p t t) (dS p (dA p t t) (X, Y, false)) X' Y'))) = qm _ _
        rw [kp_dj hp hl2 hot2 hz2 rfl zd, hf2, e2]
      · rw [eD, eT, eE, hN, ← eN]
        show dA p (dA p t t) (X, Y, false) = dA p _ _
        rw [e2]
    · have eT : dst p X Y X' Y' (N % 2) (q, t) = (df p (q, t) X' Y', dA p t t) := by unfold dst; rw [if_neg hb]
      by_cases h1 : N % 2 = 0
      · have eN : N / 2 + N / 2 = N := by omega
        refine ⟨?_, ?_, fun _ => ?_⟩
        · rw [eD, eT]
          exact hl2
        · rw [eD, eT, eE, hN]
          show kp (phq p (df p (q, t) X' Y')) = _
          rw [hf2, eN]
        · rw [eD, eT, eE, hN]
          show dA p t t = _
          rw [e2, eN]
      · have eN : N / 2 + N / 2 + 1 = N := by omega
        have hX : (dA p t t).1 = X := by
          by_cases h2 : (dA p t t).1 = X
          · exact h2
          · exact absurd ⟨by omega, h2⟩ hb
        have hs : dA p (dA p t t) (X, Y, false) = O3 := by
          rcases same_X F hot2 oP hz2 rfl hX with h | h
          · exfalso
            have e3 : dA p (X, Y, false) (dN p (X, Y, false) (N / 2 + N / 2 - 1)) = dA p (X, Y, false) (0, 0, true) := by
              rw [dA_zr oP]
              have := dN_add F oP 1 (N / 2 + N / 2 - 1)
              rw [dN_one, show 1 + (N / 2 + N / 2 - 1) = N / 2 + N / 2 by omega, ← e2, h] at this
              exact this.symm
            have e4 := dA_cancel F oP (dN_on F oP _) (on_zero' hp) e3
            have e5 := dN_ne F hr oP rfl h0 (n := N / 2 + N / 2 - 1) (by omega) (by omega)
            rw [e4] at e5
            cases e5
          · exact h
        refine ⟨?_, ?_, fun hlm => ?_⟩
        · rw [eD, eT]
          exact hl2
        · rw [eD, eT, eE, hN, ← eN]
          show kp (phq p (df p (q, t) X' Y')) = qm _ (kp (Rg.hr _ _ _ _))
          rw [← e2, hr_z hs, kp_one F, qm_one, hf2]
        · exfalso
          have e5 := dN_ne F hr oP rfl h0 (n := N) (by omega) (hlast hlm)
          rw [← eN, show dN p (X, Y, false) (N / 2 + N / 2 + 1) = dA p (dN p (X, Y, false) (N / 2 + N / 2)) (X, Y, false) from rfl, ← e2, hs] at e5
          cases e5
/-- The document's number of two points of the group is the product along the multiples. -/
theorem dpr_fr {r X' Y' : Nat} (g : Gr p r (ph p X') (ph p Y')) {X Y : Nat} (hP : Sg p r (X, Y, false)) (c : Nat) : phq p (dpr p r c X Y X' Y' false false) = qp (fr (HK (ph p X') (ph p Y')) (X, Y, false) r) c := by
  have w := (walk_fr g hP (bl r - 1) (Nat.le_refl _)).f
  rw [Nat.sub_self, Nat.pow_zero, Nat.div_one] at w
  unfold dpr
  rw [if_neg (by simp), phq_po g.F.pr, phq_po g.F.pr]
  show qp (kp _) c = _
  rw [w]
end
end Rg
end Go.Proofs.Ytjmbgchoioepjaa
end
section
namespace Go.Proofs.Ytjmbgchoioepjaa
open Go.RowKit
namespace Rg
open NT
section
variable {p : Nat} [NeZero p]
theorem vi2 {x y x2 x4 m : Fin p} (rAB : 2 * y * m + m * m * (x2 - x) = x * x + x * x2 + x2 * x2 + 1) (e4 : x4 = m * m - x - x2) : x * x2 + x * x4 + x2 * x4 = 1 - 2 * (m * (y - m * x)) := by
  subst e4
  grind -lia
theorem vi3 {x y x2 x4 m : Fin p} (c : y * y = x * x * x + x) (rAB : 2 * y * m + m * m * (x2 - x) = x * x + x * x2 + x2 * x2 + 1) (e4 : x4 = m * m - x - x2) : x * x2 * x4 = (y - m * x) * (y - m * x) := by
  have e : (y - m * x) * (y - m * x) = y * y - x * (2 * y * m + m * m * (x2 - x)) + m * m * (x * x2) := by
    clear c rAB e4
    grind -lia
  rw [e, c, rAB, e4]
  clear c rAB e4 e
  grind -lia
theorem vi1 {x x2 x4 m : Fin p} (e4 : x4 = m * m - x - x2) : x + x2 + x4 = m * m := by
  subst e4
  grind -lia
theorem l_nu (m X x y : Fin p) : m * (X + x) - y = m * X + - (y - m * x) := by grind -lia
theorem l_la (k X Y : Fin p) : Y = k * X + (Y - k * X) := by grind -lia
theorem l_l2 {k X Y X2 Y2 : Fin p} (h : Y2 = Y + k * (X2 - X)) : Y2 = k * X2 + (Y - k * X) := by
  subst h
  grind -lia
theorem l_l3 {k X Y X4 Y4 : Fin p} (h : Y4 = k * (X - X4) - Y) : - Y4 = k * X4 + (Y - k * X) := by
  subst h
  grind -lia
omit [NeZero p] in
theorem cj_pair (a b : Fin p) : cj (a, b) = (a, - b) := rfl
theorem i_cj (T : Q2 p) : (T.2, T.1) = qm (0, 1) (cj T) := q_ext (by simp only [qm, cj]; grind -lia) (by simp only [qm, cj]; grind -lia)
/-- Three values of one line at another's points. -/
theorem at_three (F : Fd p) {A B R S : P3} (hR : On p R) (hS : On p S) (zA : A.2.2 = false) (zB : B.2.2 = false) (zD : (dA p A B).2.2 = false) (zR : R.2.2 = false) (zS : S.2.2 = false) (zT : (dA p R S).2.2 = false) :
    qm (qm (hr (ph p R.1) (ph p R.2.1) A B) (hr (ph p S.1) (ph p S.2.1) A B)) (cj (hr (ph p (dA p R S).1) (ph p (dA p R S).2.1) A B)) =
      tv (ph p (dS p A B)) (- (ph p A.2.1 - ph p (dS p A B) * ph p A.1)) (ph p (dS p R S)) (ph p R.2.1 - ph p (dS p R S) * ph p R.1) (ph p R.1 + ph p S.1 + ph p (dA p R S).1) (ph p R.1 * ph p S.1 + ph p R.1 * ph p (dA p R S).1 + ph p S.1 * ph p (dA p R S).1) (ph p R.1 * ph p S.1 * ph p (dA p R S).1) := by
  obtain ⟨h1, _, _, h4⟩ := sum_of F hR hS zR zS zT
  rw [hr_f zA zB zD, hr_f zA zB zD, hr_f zA zB zD, cj_pair, l_nu, l_nu, l_nu, l_l3 h4, l_l2 h1]
  rw [← tv_is]
  have e := l_la (ph p (dS p R S)) (ph p R.1) (ph p R.2.1)
  congr 3
/-- Reciprocity. -/
theorem pts_recip (F : Fd p) {A B R S : P3} (hA : On p A) (hB : On p B) (hR : On p R) (hS : On p S) (zA : A.2.2 = false) (zB : B.2.2 = false) (zD : (dA p A B).2.2 = false) (zR : R.2.2 = false) (zS : S.2.2 = false) (zT : (dA p R S).2.2 = false) :
    qm (qm (hr (ph p A.1) (ph p A.2.1) R S) (hr (ph p B.1) (ph p B.2.1) R S)) (cj (hr (ph p (dA p A B).1) (ph p (dA p A B).2.1) R S)) =
      qm (0, 1) (cj (qm (qm (hr (ph p R.1) (ph p R.2.1) A B) (hr (ph p S.1) (ph p S.2.1) A B)) (cj (hr (ph p (dA p R S).1) (ph p (dA p R S).2.1) A B)))) := by
  rw [at_three F hR hS zA zB zD zR zS zT, at_three F hA hB zR zS zT zA zB zD]
  obtain ⟨_, r1, e1, _⟩ := sum_of F hA hB zA zB zD
  obtain ⟨_, r2, e2, _⟩ := sum_of F hR hS zR zS zT
  rw [recip _ _ _ _ _ _ _ _ _ _ (vi1 e1) (vi2 r1 e1) (vi3 (hA.cv zA) r1 e1) (vi1 e2) (vi2 r2 e2) (vi3 (hR.cv zR) r2 e2)]
  exact i_cj _
end
end Rg
end Go.Proofs.Ytjmbgchoioepjaa
end
section
namespace Go.Proofs.Ytjmbgchoioepjaa
open Go.RowKit
namespace Rg
open NT
section
variable {p : Nat} [NeZero p]
theorem cj_one : cj ((1, 0) : Q2 p) = (1, 0) := q_ext rfl (by simp only [cj]; grind -lia)
theorem cj_cj (a : Q2 p) : cj (cj a) = a := q_ext rfl (by simp only [cj]; grind -lia)
theorem qp_cj (a : Q2 p) : ∀ n, qp (cj a) n = cj (qp a n)
  | 0 => cj_one.symm
  | n + 1 => by rw [qp, qp_cj a n, qp, cj_qm]
theorem kp_cj (a : Q2 p) : kp (cj a) = cj (kp a) := qp_cj a _
theorem qp_1 : ∀ n, qp ((1, 0) : Q2 p) n = (1, 0)
  | 0 => rfl
  | n + 1 => by rw [qp, qp_1 n, qm_one]
theorem ki_sq (F : Fd p) : qm (kp (0, 1)) (kp (0, 1)) = ((1, 0) : Q2 p) := by
  rw [← kp_mul, show qm ((0, 1) : Q2 p) (0, 1) = qs (-1) (1, 0) from q_ext (by simp only [qm, qs]; grind -lia) (by simp only [qm, qs]; grind -lia)]
  have h1 : (1 : Fin p) ≠ 0 := fun e => by
    have := congrArg Fin.val e
    have h1 := one_lt F.pr
    rw [show (1 : Fin p).val = 1 % p from rfl, Nat.mod_eq_of_lt h1, show (0 : Fin p).val = 0 from Nat.zero_mod p] at this
    cases this
  rw [kp_sc F (neg_nn h1), kp_one F]
theorem ki_even (F : Fd p) {n : Nat} (h : n % 2 = 0) : qp (kp (0, 1)) n = ((1, 0) : Q2 p) := by
  rw [show n = 2 * (n / 2) by omega, ← qp_mul]
  have : qp (kp (0, 1)) 2 = ((1, 0) : Q2 p) := by
    show qm (qm (1, 0) (kp (0, 1))) (kp (0, 1)) = _
    rw [one_qm, ki_sq F]
  rw [this, qp_1]
theorem fr_un {h : P3 → P3 → Q2 p} (hu : ∀ a b, Un (h a b)) (a : P3) : ∀ n, Un (fr h a n)
  | 0 => Un.one
  | n + 1 => (fr_un hu a n).mul (hu _ _)
theorem tel_step {kj kP cK K KP ki D w rho G : Q2 p} (hG : G = qm (qm kj kP) cK) (hr : qm ki (rho) = qm (qm K KP) D) (hk : qm K cK = (1, 0)) (hi : qm ki ki = (1, 0)) (hw : w = qm G rho) : w = qm (qm (qm kj ki) (qm kP KP)) D := by
  have e : rho = qm ki (qm (qm K KP) D) := by rw [← hr, ← qm_assoc, hi, one_qm]
  rw [hw, hG, e]
  have l : qm (qm (qm kj kP) cK) (qm ki (qm (qm K KP) D)) = qm (qm K cK) (qm (qm (qm kj ki) (qm kP KP)) D) := q_ext (by simp only [qm]; grind -lia (ringSteps := 100000)) (by simp only [qm]; grind -lia (ringSteps := 100000))
  rw [l, hk, one_qm]
/-- A point's own two parts. -/
abbrev HP (R : P3) : P3 → P3 → Q2 p := HK (ph p R.1) (ph p R.2.1)
def G3 (R S T P : P3) (n : Nat) : Q2 p := qm (qm (fr (HP R) P n) (fr (HP S) P n)) (cj (fr (HP T) P n))
theorem G3_step (R S T P : P3) (n : Nat) : G3 (p := p) R S T P (n + 1) = qm (G3 R S T P n) (qm (qm (HP R (dN p P n) P) (HP S (dN p P n) P)) (cj (HP T (dN p P n) P))) := by
  unfold G3
  simp only [fr]
  rw [cj_qm, qm_four (fr (HP R) P n), qm_four]
variable {r : Nat}
theorem HP_un (F : Fd p) (hr : Prm r) (h2 : 2 < r) {R : P3} (hR : Sg p r R) (zR : R.2.2 = false) (a b : P3) : Un (HP (p := p) R a b) := kp_un F (hr_ne F (hR.y F hr h2 zR) a b)
theorem tel (F : Fd p) (hr : Prm r) (h2 : 2 < r) {P R S : P3} (hP : Sg p r P) (hR : Sg p r R) (hS : Sg p r S) (zP : P.2.2 = false) (zR : R.2.2 = false) (zS : S.2.2 = false) (zT : (dA p R S).2.2 = false) :
    ∀ j, j + 1 < r → cj (G3 (p := p) R S (dA p R S) P (j + 1)) = qm (qm (qp (kp (0, 1)) j) (qp (HP P R S) (j + 1))) (cj (HP (dN p P (j + 1)) R S))
  | 0, _ => by
    have h := HP_un F hr h2 hP zP R S
    have e : ∀ R : P3, fr (HP (p := p) R) P 1 = (1, 0) := fun R => by
      show qm (1, 0) (kp (Rg.hr _ _ O3 P)) = _
      rw [hr_zl, kp_one F, qm_one]
    unfold G3
    rw [e, e, e, cj_one, qm_one, qm_one, cj_one, dN_one, qp_one]
    show _ = qm (qm (1, 0) _) _
    rw [one_qm]
    exact h.symm
  | j + 1, hj => by
    have I := tel F hr h2 hP hR hS zP zR zS zT j (by omega)
    have on := hP.mul F (j + 1)
    have zn := dN_ne F hr hP.on zP hP.z (n := j + 1) (by omega) (by omega)
    have zn1 := dN_ne F hr hP.on zP hP.z (n := j + 1 + 1) (by omega) (by omega)
    have e1 : dN p P (j + 1 + 1) = dA p (dN p P (j + 1)) P := rfl
    have rc := congrArg kp (pts_recip F on.on hP.on hR.on hS.on zn zP (by rw [← e1]; exact zn1) zR zS zT)
    simp only [kp_mul, kp_cj] at rc
    rw [← e1] at rc
    have hk := HP_un F hr h2 on zn R S
    rw [G3_step, cj_qm]
    exact tel_step I rc.symm hk (ki_sq F) rfl
end
end Rg
end Go.Proofs.Ytjmbgchoioepjaa
end
section
namespace Go.Proofs.Ytjmbgchoioepjaa
open Go.RowKit
namespace Rg
open NT
section
variable {p : Nat} [NeZero p]
theorem hr_cj (X Y : Fin p) (a b : P3) : hr X (- Y) a b = cj (hr X Y a b) := by
  unfold hr
  split
  · exact cj_one.symm
  · rfl
theorem HP_neg {R : P3} (hR : R.2.1 < p) (a b : P3) : HP (p := p) (R.1, mi p 0 R.2.1, R.2.2) a b = cj (HP R a b) := by
  show kp (hr (ph p R.1) (ph p (mi p 0 R.2.1)) a b) = cj (kp (hr (ph p R.1) (ph p R.2.1) a b))
  rw [ph_mi0 _ hR, hr_cj, kp_cj]
theorem fr_cj {h h' : P3 → P3 → Q2 p} (e : ∀ a b, h' a b = cj (h a b)) (a : P3) : ∀ n, fr h' a n = cj (fr h a n)
  | 0 => cj_one.symm
  | n + 1 => by rw [fr, fr, cj_qm, fr_cj e a n, e]
theorem fr_O {h : P3 → P3 → Q2 p} (e : h O3 O3 = (1, 0)) : ∀ n, fr h O3 n = (1, 0)
  | 0 => rfl
  | n + 1 => by rw [fr, fr_O e n, dN_00, e, qm_one]
theorem HP_O (F : Fd p) (R : P3) (a : P3) : HP (p := p) R O3 a = (1, 0) := by
  show kp (hr _ _ O3 a) = _
  rw [hr_zl, kp_one F]
variable {r : Nat}
theorem neg_last (F : Fd p) (hr : Prm r) {P : P3} (hP : Sg p r P) : dN p P (r - 1) = (P.1, mi p 0 P.2.1, P.2.2) := by
  refine add_inj F (dN_on F hP.on _) (on_neg F.pr hP.on) hP.on ?_
  rw [dA_comm F (on_neg F.pr hP.on) hP.on, dA_inv F hP.on]
  show dN p P (r - 1 + 1) = _
  rw [show r - 1 + 1 = r by have := hr.1; omega, hP.z]
theorem fr_last (F : Fd p) (hr : Prm r) {P : P3} (hP : Sg p r P) (R : P3) : fr (HP (p := p) R) P r = fr (HP R) P (r - 1) := by
  have h1 := hr.1
  have e : fr (HP (p := p) R) P r = fr (HP R) P (r - 1 + 1) := by rw [show r - 1 + 1 = r by omega]
  have hz : dA p (dN p P (r - 1)) P = O3 := by
    show dN p P (r - 1 + 1) = _
    rw [show r - 1 + 1 = r by omega, hP.z]
  rw [e, fr]
  show qm _ (kp (Rg.hr _ _ (dN p P (r - 1)) P)) = _
  rw [hr_z hz, kp_one F, qm_one]
/-- Linear on the right, no point zero. -/
theorem right_lin (F : Fd p) (hr : Prm r) (h2 : 2 < r) {c : Nat} (hcr : c * r = p + 1) (hc2 : c % 2 = 0) {P R S : P3} (hP : Sg p r P) (hR : Sg p r R) (hS : Sg p r S) (zP : P.2.2 = false) (zR : R.2.2 = false) (zS : S.2.2 = false) (zT : (dA p R S).2.2 = false) :
    qp (fr (HP (p := p) (dA p R S)) P r) c = qm (qp (fr (HP R) P r) c) (qp (fr (HP S) P r) c) := by
  have t := tel F hr h2 hP hR hS zP zR zS zT (r - 2) (by omega)
  rw [show r - 2 + 1 = r - 1 by omega, neg_last F hr hP, HP_neg hP.on.lt.y, cj_cj, qm_assoc, ← qp, show (r - 1).succ = r by omega] at t
  have eG : G3 (p := p) R S (dA p R S) P (r - 1) = qm (qm (fr (HP R) P r) (fr (HP S) P r)) (cj (fr (HP (dA p R S)) P r)) := by
    unfold G3
    rw [fr_last F hr hP, fr_last F hr hP, fr_last F hr hP]
  rw [eG] at t
  have t2 := congrArg (fun w => qp w c) t
  simp only [qp_qm, qp_cj, qp_mul] at t2
  rw [ki_even F (by rw [Nat.mul_mod, hc2, Nat.mul_zero]), one_qm, Nat.mul_comm r c, hcr, (HP_un F hr h2 hP zP R S).whole F] at t2
  have t3 := congrArg cj t2
  rw [cj_cj, cj_one] at t3
  have un : Un (qp (fr (HP (p := p) (dA p R S)) P r) c) := (fr_un (HP_un F hr h2 (hR.add F hS) zT) P r).pow c
  have un2 : Un (cj (qp (fr (HP (p := p) (dA p R S)) P r) c)) := un.inv
  refine un2.cancel ?_
  rw [qm_comm (cj _) (qm _ _), t3, qm_comm]
  exact un
end
end Rg
end Go.Proofs.Ytjmbgchoioepjaa
end
section
namespace Go.Proofs.Ytjmbgchoioepjaa
open Go.RowKit
namespace Rg
open NT
theorem nodup_le {α : Type} [BEq α] [LawfulBEq α] : ∀ (l1 l2 : List α), l1.Nodup → (∀ x ∈ l1, x ∈ l2) → l1.length ≤ l2.length
  | [], _, _, _ => Nat.zero_le _
  | x :: t, l2, hn, hs => by
    have hx := hs x List.mem_cons_self
    have hn' := List.nodup_cons.1 hn
    have := nodup_le t (l2.erase x) hn'.2 (fun y hy => (List.mem_erase_of_ne (fun e => hn'.1 (by rw [← e]; exact hy))).2 (hs y (List.mem_cons_of_mem _ hy)))
    rw [List.length_erase_of_mem hx] at this
    have h0 : 0 < l2.length := List.length_pos_of_mem hx
    simp only [List.length_cons]
    omega
section
variable {p : Nat} [NeZero p]
/-- The number of two points of the group, as a pair by p. -/
def ev (p r c : Nat) [NeZero p] (P R : P3) : Q2 p := if R.2.2 = true then (1, 0) else qp (fr (HP R) P r) c
structure Gg (p r c : Nat) [NeZero p] : Prop where
  F : Fd p
  prm : Prm r
  odd : r % 2 = 1
  big : 100 ≤ r
  cr : c * r = p + 1
  ev2 : c % 2 = 0
  G : ∃ g, Sg p r g ∧ g.2.2 = false
variable {r c : Nat}
theorem Gg.gr (g : Gg p r c) {R : P3} (hR : Sg p r R) (zR : R.2.2 = false) : Gr p r (ph p R.1) (ph p R.2.1) := ⟨g.F, g.prm, g.odd, g.big, hR.on.cv zR, hR.y g.F g.prm (by have := g.big; omega) zR, g.G⟩
theorem ev_f {P R : P3} (zR : R.2.2 = false) : ev p r c P R = qp (fr (HP R) P r) c := by
  unfold ev
  rw [if_neg (by rw [zR]; decide)]
theorem ev_zr {P R : P3} (zR : R.2.2 = true) : ev p r c P R = (1, 0) := by
  unfold ev
  rw [if_pos zR]
theorem ev_zl (g : Gg p r c) (R : P3) : ev p r c O3 R = (1, 0) := by
  unfold ev
  split
  · rfl
  · rw [fr_O (HP_O g.F R O3), qp_1]
theorem ev_left (g : Gg p r c) {P Q R : P3} (hP : Sg p r P) (hQ : Sg p r Q) (hR : Sg p r R) : ev p r c (dA p P Q) R = qm (ev p r c P R) (ev p r c Q R) := by
  cases zR : R.2.2
  · rw [ev_f zR, ev_f zR, ev_f zR]
    exact left_lin (g.gr hR zR) g.cr hP hQ
  · rw [ev_zr zR, ev_zr zR, ev_zr zR, qm_one]
theorem ev_un (g : Gg p r c) {R : P3} (hR : Sg p r R) (P : P3) : Un (ev p r c P R) := by
  cases zR : R.2.2
  · rw [ev_f zR]
    exact (fr_un (HP_un g.F g.prm (by have := g.big; omega) hR zR) P r).pow c
  · rw [ev_zr zR]
    exact Un.one
theorem ev_right (g : Gg p r c) {P R S : P3} (hP : Sg p r P) (hR : Sg p r R) (hS : Sg p r S) : ev p r c P (dA p R S) = qm (ev p r c P R) (ev p r c P S) := by
  have F := g.F
  cases zP : P.2.2
  · cases zR : R.2.2
    · cases zS : S.2.2
      · cases zT : (dA p R S).2.2
        · rw [ev_f zR, ev_f zS, ev_f zT]
          exact right_lin F g.prm (by have := g.big; omega) g.cr g.ev2 hP hR hS zP zR zS zT
        · have e := (on_add F.pr F.prm hR.on hS.on).zr zT
          have eS : S = (R.1, mi p 0 R.2.1, R.2.2) := dA_cancel F hR.on hS.on (on_neg F.pr hR.on) (by rw [e, dA_inv F hR.on])
          have un := ev_un g hR P
          rw [ev_zr zT, ev_f zR, ev_f zS, eS, fr_cj (HP_neg hR.on.lt.y), qp_cj]
          rw [ev_f zR] at un
          exact un.symm
      · have e := hS.on.zr zS
        subst e
        rw [dA_zr hR.on, ev_zr (R := (0, 0, true)) rfl, qm_one]
    · have e := hR.on.zr zR
      subst e
      rw [dA_zl, ev_zr (R := (0, 0, true)) rfl, one_qm]
  · have e := hP.on.zr zP
    subst e
    rw [ev_zl g, ev_zl g, ev_zl g, qm_one]
theorem ev_mul_l (g : Gg p r c) {P R : P3} (hP : Sg p r P) (hR : Sg p r R) : ∀ n, ev p r c (dN p P n) R = qp (ev p r c P R) n
  | 0 => ev_zl g R
  | n + 1 => by rw [dN, ev_left g (hP.mul g.F n) hP hR, ev_mul_l g hP hR n, qp]
theorem ev_mul_r (g : Gg p r c) {P R : P3} (hP : Sg p r P) (hR : Sg p r R) : ∀ n, ev p r c P (dN p R n) = qp (ev p r c P R) n
  | 0 => ev_zr rfl
  | n + 1 => by rw [dN, ev_right g hP (hR.mul g.F n) hR, ev_mul_r g hP hR n, qp]
theorem ev_whole (g : Gg p r c) {P R : P3} (hR : Sg p r R) : qp (ev p r c P R) r = (1, 0) := by
  cases zR : R.2.2
  · rw [ev_f zR, qp_mul, g.cr]
    exact (fr_un (HP_un g.F g.prm (by have := g.big; omega) hR zR) P r).whole g.F
  · rw [ev_zr zR, qp_1]
end
end Rg
end Go.Proofs.Ytjmbgchoioepjaa
end
section
namespace Go.Proofs.Ytjmbgchoioepjaa
open Go.RowKit
namespace Rg
open NT
section
variable {p : Nat} [NeZero p]
theorem all_mem (F : Fd p) (x : P3) (hx : On p x) : x ∈ allP p := by
  unfold allP
  by_cases hz : x.2.2 = true
  · rw [hx.zr hz]
    exact List.mem_cons_self ..
  · have hz : x.2.2 = false := by simpa using hz
    refine List.mem_cons_of_mem _ ?_
    by_cases hy : ph p x.2.1 = 0
    · have e2 := (ph_eq0 hx.lt.y).1 hy
      have e1 : x.1 = 0 := Decidable.byContradiction fun h0 => by
        have hc := hx.cv hz
        rw [hy, ← ph_cb] at hc
        exact cb_ne F hx.lt.x h0 (by grind)
      rw [show x = (0, 0, false) from p3_eq e1 e2 hz]
      exact List.mem_cons_self ..
    · obtain ⟨i, h1, h2, rfl⟩ := Qp_all F hx hz hy
      refine List.mem_cons_of_mem _ (List.mem_map.2 ⟨i - 1, List.mem_range.2 (by omega), ?_⟩)
      rw [show i - 1 + 1 = i by omega]
theorem all_len (F : Fd p) : (allP p).length = p + 1 := by
  have hlo := F.pr.lo
  unfold allP
  simp
  omega
variable {r c : Nat}
theorem inv_mul (F : Fd p) (hr : Prm r) {C : P3} (hC : Sg p r C) {d : Nat} (h0 : 0 < d) (h1 : d < r) : dN p (dN p C d) (d ^ (r - 2)) = C := by
  have hf := fermat1 hr d (fun hd => by have := Nat.le_of_dvd h0 hd; omega)
  have e1 : d * d ^ (r - 2) = d ^ (r - 1) := by rw [Nat.mul_comm, ← Nat.pow_succ, show (r - 2).succ = r - 1 by omega]
  rw [dN_mul F hC.on, e1, ← Nat.div_add_mod (d ^ (r - 1)) r, hf, dN_add F hC.on, ← dN_mul F hC.on, hC.z, dN_00, dA_zl, dN_one]
theorem cyc_j (F : Fd p) (hr : Prm r) {A C : P3} (hA : Sg p r A) (hC : Sg p r C) (h : ¬ ∃ k, C = dN p A k) {i i' j j' : Nat} (hi' : i' < r) (hj : j < j') (hj' : j' < r) (e : dA p (dN p A i) (dN p C j) = dA p (dN p A i') (dN p C j')) : False := by
  have oA := hA.on
  have oC := hC.on
  have on := fun n => dN_on F oA n
  have oc := fun n => dN_on F oC n
  apply h
  have e1 : dN p A i = dA p (dN p A i') (dN p C (j' - j)) := by
    refine add_inj F (on i) (on_add F.pr F.prm (on i') (oc _)) (oc j) ?_
    rw [e, dA_assoc F (on i') (oc _) (oc j), ← dN_add F oC, show j' - j + j = j' by omega]
  have e2 : dN p C (j' - j) = dN p A (r - i' + i) := by
    refine dA_cancel F (on i') (oc _) (on _) ?_
    rw [← e1, ← dN_add F oA, show i' + (r - i' + i) = r + i by omega, dN_add F oA, hA.z, dA_zl]
  refine ⟨(r - i' + i) * (j' - j) ^ (r - 2), ?_⟩
  have e3 := inv_mul F hr hC (d := j' - j) (by omega) (by omega)
  rw [e2, dN_mul F oA] at e3
  exact e3.symm
/-- Any point of the group is a multiple of any other that is not zero. -/
theorem cyc (F : Fd p) (hr : Prm r) (hb : p + 1 < r * r) {A C : P3} (hA : Sg p r A) (zA : A.2.2 = false) (hC : Sg p r C) : ∃ k, C = dN p A k := by
  refine Classical.byContradiction fun h => ?_
  have r0 : 0 < r := by have := hr.1; omega
  have hn : ((List.range (r * r)).map (fun n => dA p (dN p A (n % r)) (dN p C (n / r)))).Nodup := by
    refine List.pairwise_map.2 (List.Pairwise.imp_of_mem ?_ List.nodup_range)
    intro n n' h1 h2 hne e
    have h1 := Nat.div_lt_of_lt_mul (List.mem_range.1 h1)
    have h2 := Nat.div_lt_of_lt_mul (List.mem_range.1 h2)
    have m1 := Nat.mod_lt n r0
    have m2 := Nat.mod_lt n' r0
    rcases Nat.lt_trichotomy (n / r) (n' / r) with k | k | k
    · exact cyc_j F hr hA hC h m2 k h2 e
    · rw [k] at e
      have e2 := dN_inj F hr hA zA m1 m2 (add_inj F (dN_on F hA.on _) (dN_on F hA.on _) (dN_on F hC.on _) e)
      exact hne (by rw [← Nat.div_add_mod n r, ← Nat.div_add_mod n' r, k, e2])
    · exact cyc_j F hr hA hC h m1 k h1 e.symm
  have hl := nodup_le _ (allP p) hn (fun x hx => by
    obtain ⟨n, _, rfl⟩ := List.mem_map.1 hx
    exact all_mem F _ (on_add F.pr F.prm (dN_on F hA.on _) (dN_on F hC.on _)))
  rw [List.length_map, List.length_range, all_len F] at hl
  omega
/-- Either way round the same. -/
theorem ev_sym (g : Gg p r c) (hb : p + 1 < r * r) {A C : P3} (hA : Sg p r A) (hC : Sg p r C) : ev p r c A C = ev p r c C A := by
  cases zA : A.2.2
  · obtain ⟨k, rfl⟩ := cyc g.F g.prm hb hA zA hC
    rw [ev_mul_r g hA hA, ev_mul_l g hA hA]
  · have e := hA.on.zr zA
    subst e
    rw [ev_zl g, ev_zr rfl]
theorem qp_order (hr : Prm r) {w : Q2 p} (h1 : qp w r = (1, 0)) (hw : w ≠ (1, 0)) {n : Nat} (hn : qp w n = (1, 0)) : r ∣ n := by
  refine Classical.byContradiction fun h => hw ?_
  have hf := fermat1 hr n h
  have e1 : n * n ^ (r - 2) = n ^ (r - 1) := by rw [Nat.mul_comm, ← Nat.pow_succ, show (r - 2).succ = r - 1 by have := hr.1; omega]
  have e2 := qp_mul w n (n ^ (r - 2))
  rw [hn, qp_1, e1, ← Nat.div_add_mod (n ^ (r - 1)) r, hf, qp_add, ← qp_mul, h1, qp_1, one_qm, qp_one] at e2
  exact e2.symm
/-- 1 just where one of both is zero. -/
theorem ev_triv (g : Gg p r c) (hb : p + 1 < r * r) {G : P3} (hG : Sg p r G) (zG : G.2.2 = false) (hw : ev p r c G G ≠ (1, 0)) {A C : P3} (hA : Sg p r A) (hC : Sg p r C) : ev p r c A C = (1, 0) ↔ A.2.2 = true ∨ C.2.2 = true := by
  constructor
  · intro h
    obtain ⟨a, rfl⟩ := cyc g.F g.prm hb hG zG hA
    obtain ⟨d, rfl⟩ := cyc g.F g.prm hb hG zG hC
    rw [ev_mul_l g hG hC, ev_mul_r g hG hG, qp_mul] at h
    have z : ∀ {n : Nat}, r ∣ n → (dN p G n).2.2 = true := fun {n} ⟨q, e⟩ => by
      rw [e, ← dN_mul g.F hG.on, hG.z, dN_00]
    rcases g.prm.mul (qp_order g.prm (ev_whole g hG) hw h) with h | h
    · exact .inr (z h)
    · exact .inl (z h)
  · intro h
    rcases h with h | h
    · rw [hA.on.zr h]
      exact ev_zl g C
    · exact ev_zr h
end
end Rg
end Go.Proofs.Ytjmbgchoioepjaa
end
section
namespace Go.Proofs.Ytjmbgchoioepjaa
open Go.RowKit
namespace Rg
theorem ig_lt {p r X Y : Nat} {Z : Bool} (hp : Pr p) (h : ig p r X Y Z = true) : X < p ∧ Y < p := by
  unfold ig at h
  simp only [Bool.and_eq_true] at h
  exact oc_lt hp h.1
theorem allIn_is {p r c gx gy : Nat} (hp : Pr p) (hr : r < 18446744073709551616) (X Y : Nat) (Z : Bool) (X' Y' : Nat) (Z' : Bool) (v : Bool) (h : (ig p r X Y Z && ig p r X' Y' Z') = v) (g : Nat) (w : World) (hm : Mm w [(g, p2 X Y Z X' Y' Z')]) : Calls Try.prog 60 #[.agg (kd p r c gx gy).toArray, .slice (some ⟨g, 0, none⟩) 2 2] w fun e w' => e = .returned (.bool v) ∧ Below w.heap.size w w' := by
  rw [← h]
  exact allIn_any hp hr X Y Z X' Y' Z' g w hm
theorem call13 : ∀ args w, (callFunc 13 args).run Try.prog w = .ok (.enter 13 args) w := by intro args w; go_simp
theorem call27 : ∀ args w, (callFunc 27 args).run Try.prog w = .ok (.enter 27 args) w := by intro args w; go_simp
theorem call60 : ∀ args w, (callFunc 60 args).run Try.prog w = .ok (.enter 60 args) w := by intro args w; go_simp
theorem call61 : ∀ args w, (callFunc 61 args).run Try.prog w = .ok (.enter 61 args) w := by intro args w; go_simp
theorem call62 : ∀ args w, (callFunc 62 args).run Try.prog w = .ok (.enter 62 args) w := by intro args w; go_simp
theorem call64 : ∀ args w, (callFunc 64 args).run Try.prog w = .ok (.enter 64 args) w := by intro args w; go_simp
section
variable {s : Int} {p r c gx gy : Nat}
set_option maxHeartbeats 1000000 in
set_option maxRecDepth 100000 in
theorem Pair_z (k : Kd s p r c gx gy) (X Y : Nat) (X' Y' : Nat) (Z' : Bool) (hg : (ig p r X Y true && ig p r X' Y' Z') = true) (w : World) :
    Calls Try.prog 27 #[.int .i64 s, .agg (pt X Y true).toArray, .agg (pt X' Y' Z').toArray] w fun e w' => e = .returned (.tuple #[V (l2 1 0), .int .i64 0]) ∧ Below w.heap.size w w' := by
  have H0 : Hid (_ ∧ _) := ⟨Mm.nil w, Below.refl w.heap.size w⟩
  go_enter Try.func27, Try.ntmps27
  refine wp_seq ?_
  refine walk_seqA 4 [.made (pt X Y true) 25, .made (pt X' Y' Z') 25, .made (l2 0 0) 49, .quiet (.int .i64 0)] (sB H0) ?ho1 ?he1
  case ho1 => exact ak (fun γ => ⟨rfl, fun w' => ex_boxT rfl rfl⟩) (ak (fun γ => ⟨rfl, fun w' => ex_boxT rfl rfl⟩) (ak (fun γ => ⟨rfl, fun w' => ex_made49 rfl⟩) (ak (fun _ => ⟨rfl, fun _ _ => rfl⟩) trivial)))
  intro γ w1 l hM hl
  have H1 : Hid (Mm w1 [(γ 0, pt X Y true), (γ 1, pt X' Y' Z'), (γ 2, l2 0 0)] ∧ _) := growB H0 hM (Nat.le_refl _) hl [0, 1, 2] rfl (by decide)
  have o1_0 := ownB H0 hM (Nat.le_refl _) hl (i := 0) rfl
  have o1_1 := ownB H0 hM (Nat.le_refl _) hl (i := 1) rfl
  have o1_2 := ownB H0 hM (Nat.le_refl _) hl (i := 2) rfl
  clear hM hl l
  generalize γ 0 = γ1_0 at H1 o1_0 ⊢
  generalize γ 1 = γ1_1 at H1 o1_1 ⊢
  generalize γ 2 = γ1_2 at H1 o1_2 ⊢
  clear γ
  refine rest0 rfl (then_normal (wp_seq ?_))
  refine walk_seqA 8 [.quiet (.int .i64 s), .call (.tuple #[.agg (kd p r c gx gy).toArray, .int .i64 0]), .quiet (.tuple #[.agg (kd p r c gx gy).toArray, .int .i64 0]), .quiet (.agg (kd p r c gx gy).toArray), .quiet (.int .i64 0), .made (kd 0 0 0 0 0) 72, .laid 5 (kd 0 0 0 0 0) (kd p r c gx gy), .quiet (.int .i64 0)] (sB H1) ?ho2 ?he2 (hL := ?hL2)
  case hL2 => exact ⟨⟨_, rfl⟩, trivial⟩
  case ho2 => exact ak (fun _ => ⟨rfl, fun _ _ => rfl⟩) (ak (fun γ => ⟨rfl, fun w' h => ⟨42, #[.int .i64 s], exec_call rfl call42 rfl (mpn rfl), k.kind w'⟩⟩) (ak (fun _ => ⟨rfl, fun _ _ => rfl⟩) (ak (by refine fun γ => ⟨rfl, fun w' h => ?_⟩; clear h; go_simp) (ak (by refine fun γ => ⟨rfl, fun w' h => ?_⟩; clear h; go_simp) (ak (fun γ => ⟨rfl, fun w' => ex_made72 rfl⟩) (ak (fun γ => ⟨rfl, rfl, rfl, fun w' h => ex_laidT h rfl rfl Try.sizeOf72 rfl rfl rfl⟩) (ak (fun _ => ⟨rfl, fun _ _ => rfl⟩) trivial)))))))
  intro γ w2 l hM hl
  have H2 : Hid (Mm w2 [(γ 5, kd p r c gx gy), (γ1_0, pt X Y true), (γ1_1, pt X' Y' Z'), (γ1_2, l2 0 0)] ∧ _) := growB H1 hM (Nat.le_refl _) hl [5] rfl (by decide)
  have o2_5 := ownB H1 hM (Nat.le_refl _) hl (i := 5) rfl
  clear hM hl l H1
  generalize γ 5 = γ2_5 at H2 o2_5 ⊢
  clear γ
  refine rest0 rfl (then_normal (wp_seq (wp_seq ?_)))
  refine walk_seqB 2 [.quiet (.int .i64 0), .quiet (.bool false)] H2 ?ho3 ?he3
  case ho3 => exact ak (fun _ => ⟨rfl, fun _ _ => rfl⟩) (ak (by refine fun γ => ⟨rfl, fun w' h => ?_⟩; clear h; go_simp) trivial)
  intro _ w3 H3
  clear H2
  refine rest0 rfl (then_normal (wp_cond_false rfl ?_))
  refine wp_skip (then_normal ?_)
  refine wp_seq (wp_seq ?_)
  refine walk_seqB 3 [.quiet (.agg (kd p r c gx gy).toArray), .quiet (.agg (pt X Y true).toArray), .quiet (.agg (pt X' Y' Z').toArray)] H3 ?ho4 ?he4
  case ho4 => exact ak (fun γ => ⟨rfl, fun w' h => ex_loadT h 0 rfl rfl rfl Try.isAgg72 Try.sizeOf72 rfl rfl⟩) (ak (fun γ => ⟨rfl, fun w' h => ex_loadT h 1 rfl rfl rfl Try.isAgg25 Try.sizeOf25 rfl rfl⟩) (ak (fun γ => ⟨rfl, fun w' h => ex_loadT h 2 rfl rfl rfl Try.isAgg25 Try.sizeOf25 rfl rfl⟩) trivial))
  intro _ w4 H4
  clear H3
  refine rest_at (l := [3, 4, 5]) rfl ?_
  refine rest_set (d := 22) (v := .slice (some ⟨w4.heap.size, 0, none⟩) 2 2) (w' := w4.alloc (.cells (p2 X Y true X' Y' Z' : List Value).toArray 25)) rfl rfl rfl (ex_bs2 rfl rfl rfl) ?_
  simp only [Act.put, sa, sz, ss]
  have o_γs5 : Hid (w.heap.size ≤ w4.heap.size) := H4.out.2.size
  have H5 : Hid (Mm (w4.alloc (.cells (p2 X Y true X' Y' Z' : List Value).toArray 25)) ((w4.heap.size, p2 X Y true X' Y' Z') :: [(γ2_5, kd p r c gx gy), (γ1_0, pt X Y true), (γ1_1, pt X' Y' Z'), (γ1_2, l2 0 0)]) ∧ Below w.heap.size w (w4.alloc (.cells (p2 X Y true X' Y' Z' : List Value).toArray 25))) := ⟨H4.out.1.alloc _ 25 rfl, H4.out.2.alloc H4.out.2.size _⟩
  clear H4
  generalize hgw : w4.alloc (.cells (p2 X Y true X' Y' Z' : List Value).toArray 25) = w5 at H5 ⊢
  clear hgw
  generalize w4.heap.size = γs5 at o_γs5 H5 ⊢
  refine rest_enter (d := 23) (R := fun vv w' => vv = .bool true ∧ Below w5.heap.size w5 w') rfl rfl rfl (exec_call (args := #[.agg (kd p r c gx gy).toArray, .slice (some ⟨γs5, 0, none⟩) 2 2]) rfl call60 rfl (mpn rfl)) (Calls.mono (allIn_is k.pr k.rb _ _ _ _ _ _ _ hg γs5 w5 (H5.out.1.one 0 rfl)) (fun e w2 hh => ⟨_, hh.1, rfl, hh.2⟩)) ?_
  rintro _ w6 ⟨rfl, hb⟩
  have H6 : Hid (_ ∧ _) := ⟨H5.out.1.below hb, H5.out.2.trans (hb.mono H5.out.2.size)⟩
  clear hb H5
  simp only [Act.put, sa, sz, ss]
  refine rest_set (d := 24) (v := .bool false) (w' := w6) rfl rfl rfl (by go_simp) ?_
  simp only [Act.put, sa, sz, ss]
  refine rest_nil (then_normal ?_)
  refine wp_cond_false rfl (wp_skip ?_)
  refine then_normal (wp_seq (wp_seq ?_))
  refine walk_seqB 6 [.quiet (PT γ1_0 2), .quiet (.bool true), .quiet (.bool true), .gone, .gone, .quiet (.bool true)] H6 ?ho5 ?he5
  case ho5 => exact ak (by refine fun γ => ⟨rfl, fun w' h => ?_⟩; clear h; go_simp) (ak (fun γ => ⟨rfl, fun w' h => ex_loadC h 2 rfl rfl rfl Try.isAgg4 rfl⟩) (ak (fun _ => ⟨rfl, fun _ _ => rfl⟩) (ak (fun γ => rfl) (ak (fun γ => rfl) (ak (by refine fun γ => ⟨rfl, fun w' h => ?_⟩; clear h; go_simp) trivial)))))
  intro _ w7 H7
  clear H6
  refine rest0 rfl (then_normal (wp_cond_true rfl (wp_seq ?_)))
  refine walk_seqB 1 [.quiet (.agg (l2 1 0).toArray)] H7 ?ho6 ?he6
  case ho6 => exact ak (fun γ => ⟨rfl, fun w' _ => ex_build49_0 rfl rfl⟩) trivial
  intro _ w8 H8
  clear H7
  refine rest_at (l := [1, 2]) rfl ?_
  refine rest_store rfl rfl rfl (ex_storeT (vs := l2 1 0) H8.out.1 4 rfl rfl rfl rfl Try.sizeOf49 rfl (Nat.le_of_ble_eq_true rfl)) ?_
  have H9 : Hid (Mm (w8.setCells γ1_2 0 (l2 1 0)) [(γs5, p2 X Y true X' Y' Z'), (γ2_5, kd p r c gx gy), (γ1_0, pt X Y true), (γ1_1, pt X' Y' Z'), (γ1_2, l2 1 0)] ∧ Below w.heap.size w (w8.setCells γ1_2 0 (l2 1 0))) := ⟨H8.out.1.put 4 (off := 0) (vs := l2 1 0) rfl (Nat.le_of_ble_eq_true rfl), below_setCells _ o1_2.out _ _ _ H8.out.2⟩
  clear H8
  generalize hgw : World.setCells _ _ _ _ = w9 at H9 ⊢
  clear hgw
  refine rest_set (d := 7) rfl rfl rfl rfl ?_
  simp only [Act.put, sa, sz, ss]
  refine rest_nil (then_normal (wp_ret ?_))
  repeat (first | refine then_ret ?_ | refine block_ret ?_)
  have hf0 := var_T H9.out.1 4 rfl Try.isAgg49 Try.sizeOf49 rfl
  refine bodyPost_ret (v := .tuple #[.agg (l2 1 0).toArray, .int .i64 0]) (by simp [results, Try.results27, asAddr, Act.eval, hf0]) rfl ?_
  exact ⟨rfl, H9.out.2⟩
set_option maxHeartbeats 1000000 in
set_option maxRecDepth 100000 in
theorem Pair_y (k : Kd s p r c gx gy) (X Y : Nat) (X' Y' : Nat) (hg : (ig p r X Y false && ig p r X' Y' true) = true) (w : World) :
    Calls Try.prog 27 #[.int .i64 s, .agg (pt X Y false).toArray, .agg (pt X' Y' true).toArray] w fun e w' => e = .returned (.tuple #[V (l2 1 0), .int .i64 0]) ∧ Below w.heap.size w w' := by
  have H0 : Hid (_ ∧ _) := ⟨Mm.nil w, Below.refl w.heap.size w⟩
  go_enter Try.func27, Try.ntmps27
  refine wp_seq ?_
  refine walk_seqA 4 [.made (pt X Y false) 25, .made (pt X' Y' true) 25, .made (l2 0 0) 49, .quiet (.int .i64 0)] (sB H0) ?ho1 ?he1
  case ho1 => exact ak (fun γ => ⟨rfl, fun w' => ex_boxT rfl rfl⟩) (ak (fun γ => ⟨rfl, fun w' => ex_boxT rfl rfl⟩) (ak (fun γ => ⟨rfl, fun w' => ex_made49 rfl⟩) (ak (fun _ => ⟨rfl, fun _ _ => rfl⟩) trivial)))
  intro γ w1 l hM hl
  have H1 : Hid (Mm w1 [(γ 0, pt X Y false), (γ 1, pt X' Y' true), (γ 2, l2 0 0)] ∧ _) := growB H0 hM (Nat.le_refl _) hl [0, 1, 2] rfl (by decide)
  have o1_0 := ownB H0 hM (Nat.le_refl _) hl (i := 0) rfl
  have o1_1 := ownB H0 hM (Nat.le_refl _) hl (i := 1) rfl
  have o1_2 := ownB H0 hM (Nat.le_refl _) hl (i := 2) rfl
  clear hM hl l
  generalize γ 0 = γ1_0 at H1 o1_0 ⊢
  generalize γ 1 = γ1_1 at H1 o1_1 ⊢
  generalize γ 2 = γ1_2 at H1 o1_2 ⊢
  clear γ
  refine rest0 rfl (then_normal (wp_seq ?_))
  refine walk_seqA 8 [.quiet (.int .i64 s), .call (.tuple #[.agg (kd p r c gx gy).toArray, .int .i64 0]), .quiet (.tuple #[.agg (kd p r c gx gy).toArray, .int .i64 0]), .quiet (.agg (kd p r c gx gy).toArray), .quiet (.int .i64 0), .made (kd 0 0 0 0 0) 72, .laid 5 (kd 0 0 0 0 0) (kd p r c gx gy), .quiet (.int .i64 0)] (sB H1) ?ho2 ?he2 (hL := ?hL2)
  case hL2 => exact ⟨⟨_, rfl⟩, trivial⟩
  case ho2 => exact ak (fun _ => ⟨rfl, fun _ _ => rfl⟩) (ak (fun γ => ⟨rfl, fun w' h => ⟨42, #[.int .i64 s], exec_call rfl call42 rfl (mpn rfl), k.kind w'⟩⟩) (ak (fun _ => ⟨rfl, fun _ _ => rfl⟩) (ak (by refine fun γ => ⟨rfl, fun w' h => ?_⟩; clear h; go_simp) (ak (by refine fun γ => ⟨rfl, fun w' h => ?_⟩; clear h; go_simp) (ak (fun γ => ⟨rfl, fun w' => ex_made72 rfl⟩) (ak (fun γ => ⟨rfl, rfl, rfl, fun w' h => ex_laidT h rfl rfl Try.sizeOf72 rfl rfl rfl⟩) (ak (fun _ => ⟨rfl, fun _ _ => rfl⟩) trivial)))))))
  intro γ w2 l hM hl
  have H2 : Hid (Mm w2 [(γ 5, kd p r c gx gy), (γ1_0, pt X Y false), (γ1_1, pt X' Y' true), (γ1_2, l2 0 0)] ∧ _) := growB H1 hM (Nat.le_refl _) hl [5] rfl (by decide)
  have o2_5 := ownB H1 hM (Nat.le_refl _) hl (i := 5) rfl
  clear hM hl l H1
  generalize γ 5 = γ2_5 at H2 o2_5 ⊢
  clear γ
  refine rest0 rfl (then_normal (wp_seq (wp_seq ?_)))
  refine walk_seqB 2 [.quiet (.int .i64 0), .quiet (.bool false)] H2 ?ho3 ?he3
  case ho3 => exact ak (fun _ => ⟨rfl, fun _ _ => rfl⟩) (ak (by refine fun γ => ⟨rfl, fun w' h => ?_⟩; clear h; go_simp) trivial)
  intro _ w3 H3
  clear H2
  refine rest0 rfl (then_normal (wp_cond_false rfl ?_))
  refine wp_skip (then_normal ?_)
  refine wp_seq (wp_seq ?_)
  refine walk_seqB 3 [.quiet (.agg (kd p r c gx gy).toArray), .quiet (.agg (pt X Y false).toArray), .quiet (.agg (pt X' Y' true).toArray)] H3 ?ho4 ?he4
  case ho4 => exact ak (fun γ => ⟨rfl, fun w' h => ex_loadT h 0 rfl rfl rfl Try.isAgg72 Try.sizeOf72 rfl rfl⟩) (ak (fun γ => ⟨rfl, fun w' h => ex_loadT h 1 rfl rfl rfl Try.isAgg25 Try.sizeOf25 rfl rfl⟩) (ak (fun γ => ⟨rfl, fun w' h => ex_loadT h 2 rfl rfl rfl Try.isAgg25 Try.sizeOf25 rfl rfl⟩) trivial))
  intro _ w4 H4
  clear H3
  refine rest_at (l := [3, 4, 5]) rfl ?_
  refine rest_set (d := 22) (v := .slice (some ⟨w4.heap.size, 0, none⟩) 2 2) (w' := w4.alloc (.cells (p2 X Y false X' Y' true : List Value).toArray 25)) rfl rfl rfl (ex_bs2 rfl rfl rfl) ?_
  simp only [Act.put, sa, sz, ss]
  have o_γs5 : Hid (w.heap.size ≤ w4.heap.size) := H4.out.2.size
  have H5 : Hid (Mm (w4.alloc (.cells (p2 X Y false X' Y' true : List Value).toArray 25)) ((w4.heap.size, p2 X Y false X' Y' true) :: [(γ2_5, kd p r c gx gy), (γ1_0, pt X Y false), (γ1_1, pt X' Y' true), (γ1_2, l2 0 0)]) ∧ Below w.heap.size w (w4.alloc (.cells (p2 X Y false X' Y' true : List Value).toArray 25))) := ⟨H4.out.1.alloc _ 25 rfl, H4.out.2.alloc H4.out.2.size _⟩
  clear H4
  generalize hgw : w4.alloc (.cells (p2 X Y false X' Y' true : List Value).toArray 25) = w5 at H5 ⊢
  clear hgw
  generalize w4.heap.size = γs5 at o_γs5 H5 ⊢
  refine rest_enter (d := 23) (R := fun vv w' => vv = .bool true ∧ Below w5.heap.size w5 w') rfl rfl rfl (exec_call (args := #[.agg (kd p r c gx gy).toArray, .slice (some ⟨γs5, 0, none⟩) 2 2]) rfl call60 rfl (mpn rfl)) (Calls.mono (allIn_is k.pr k.rb _ _ _ _ _ _ _ hg γs5 w5 (H5.out.1.one 0 rfl)) (fun e w2 hh => ⟨_, hh.1, rfl, hh.2⟩)) ?_
  rintro _ w6 ⟨rfl, hb⟩
  have H6 : Hid (_ ∧ _) := ⟨H5.out.1.below hb, H5.out.2.trans (hb.mono H5.out.2.size)⟩
  clear hb H5
  simp only [Act.put, sa, sz, ss]
  refine rest_set (d := 24) (v := .bool false) (w' := w6) rfl rfl rfl (by go_simp) ?_
  simp only [Act.put, sa, sz, ss]
  refine rest_nil (then_normal ?_)
  refine wp_cond_false rfl (wp_skip ?_)
  refine then_normal (wp_seq (wp_seq ?_))
  refine walk_seqB 6 [.quiet (PT γ1_0 2), .quiet (.bool false), .quiet (.bool false), .quiet (PT γ1_1 2), .quiet (.bool true), .quiet (.bool true)] H6 ?ho5 ?he5
  case ho5 => exact ak (by refine fun γ => ⟨rfl, fun w' h => ?_⟩; clear h; go_simp) (ak (fun γ => ⟨rfl, fun w' h => ex_loadC h 2 rfl rfl rfl Try.isAgg4 rfl⟩) (ak (fun _ => ⟨rfl, fun _ _ => rfl⟩) (ak (by refine fun γ => ⟨rfl, fun w' h => ?_⟩; clear h; go_simp) (ak (fun γ => ⟨rfl, fun w' h => ex_loadC h 3 rfl rfl rfl Try.isAgg4 rfl⟩) (ak (by refine fun γ => ⟨rfl, fun w' h => ?_⟩; clear h; go_simp) trivial)))))
  intro _ w7 H7
  clear H6
  refine rest0 rfl (then_normal (wp_cond_true rfl (wp_seq ?_)))
  refine walk_seqB 1 [.quiet (.agg (l2 1 0).toArray)] H7 ?ho6 ?he6
  case ho6 => exact ak (fun γ => ⟨rfl, fun w' _ => ex_build49_0 rfl rfl⟩) trivial
  intro _ w8 H8
  clear H7
  refine rest_at (l := [1, 2]) rfl ?_
  refine rest_store rfl rfl rfl (ex_storeT (vs := l2 1 0) H8.out.1 4 rfl rfl rfl rfl Try.sizeOf49 rfl (Nat.le_of_ble_eq_true rfl)) ?_
  have H9 : Hid (Mm (w8.setCells γ1_2 0 (l2 1 0)) [(γs5, p2 X Y false X' Y' true), (γ2_5, kd p r c gx gy), (γ1_0, pt X Y false), (γ1_1, pt X' Y' true), (γ1_2, l2 1 0)] ∧ Below w.heap.size w (w8.setCells γ1_2 0 (l2 1 0))) := ⟨H8.out.1.put 4 (off := 0) (vs := l2 1 0) rfl (Nat.le_of_ble_eq_true rfl), below_setCells _ o1_2.out _ _ _ H8.out.2⟩
  clear H8
  generalize hgw : World.setCells _ _ _ _ = w9 at H9 ⊢
  clear hgw
  refine rest_set (d := 7) rfl rfl rfl rfl ?_
  simp only [Act.put, sa, sz, ss]
  refine rest_nil (then_normal (wp_ret ?_))
  repeat (first | refine then_ret ?_ | refine block_ret ?_)
  have hf0 := var_T H9.out.1 4 rfl Try.isAgg49 Try.sizeOf49 rfl
  refine bodyPost_ret (v := .tuple #[.agg (l2 1 0).toArray, .int .i64 0]) (by simp [results, Try.results27, asAddr, Act.eval, hf0]) rfl ?_
  exact ⟨rfl, H9.out.2⟩
set_option maxHeartbeats 1000000 in
set_option maxRecDepth 100000 in
theorem Pair_g (k : Kd s p r c gx gy) (X Y : Nat) (X' Y' : Nat) (hg : (ig p r X Y false && ig p r X' Y' false) = true) (w : World) :
    Calls Try.prog 27 #[.int .i64 s, .agg (pt X Y false).toArray, .agg (pt X' Y' false).toArray] w fun e w' => e = .returned (.tuple #[V (lc (ls p c (wk p r X Y X' Y' false))), .int .i64 0]) ∧ Below w.heap.size w w' := by
  have H0 : Hid (_ ∧ _) := ⟨Mm.nil w, Below.refl w.heap.size w⟩
  go_enter Try.func27, Try.ntmps27
  refine wp_seq ?_
  refine walk_seqA 4 [.made (pt X Y false) 25, .made (pt X' Y' false) 25, .made (l2 0 0) 49, .quiet (.int .i64 0)] (sB H0) ?ho1 ?he1
  case ho1 => exact ak (fun γ => ⟨rfl, fun w' => ex_boxT rfl rfl⟩) (ak (fun γ => ⟨rfl, fun w' => ex_boxT rfl rfl⟩) (ak (fun γ => ⟨rfl, fun w' => ex_made49 rfl⟩) (ak (fun _ => ⟨rfl, fun _ _ => rfl⟩) trivial)))
  intro γ w1 l hM hl
  have H1 : Hid (Mm w1 [(γ 0, pt X Y false), (γ 1, pt X' Y' false), (γ 2, l2 0 0)] ∧ _) := growB H0 hM (Nat.le_refl _) hl [0, 1, 2] rfl (by decide)
  have o1_0 := ownB H0 hM (Nat.le_refl _) hl (i := 0) rfl
  have o1_1 := ownB H0 hM (Nat.le_refl _) hl (i := 1) rfl
  have o1_2 := ownB H0 hM (Nat.le_refl _) hl (i := 2) rfl
  clear hM hl l
  generalize γ 0 = γ1_0 at H1 o1_0 ⊢
  generalize γ 1 = γ1_1 at H1 o1_1 ⊢
  generalize γ 2 = γ1_2 at H1 o1_2 ⊢
  clear γ
  refine rest0 rfl (then_normal (wp_seq ?_))
  refine walk_seqA 8 [.quiet (.int .i64 s), .call (.tuple #[.agg (kd p r c gx gy).toArray, .int .i64 0]), .quiet (.tuple #[.agg (kd p r c gx gy).toArray, .int .i64 0]), .quiet (.agg (kd p r c gx gy).toArray), .quiet (.int .i64 0), .made (kd 0 0 0 0 0) 72, .laid 5 (kd 0 0 0 0 0) (kd p r c gx gy), .quiet (.int .i64 0)] (sB H1) ?ho2 ?he2 (hL := ?hL2)
  case hL2 => exact ⟨⟨_, rfl⟩, trivial⟩
  case ho2 => exact ak (fun _ => ⟨rfl, fun _ _ => rfl⟩) (ak (fun γ => ⟨rfl, fun w' h => ⟨42, #[.int .i64 s], exec_call rfl call42 rfl (mpn rfl), k.kind w'⟩⟩) (ak (fun _ => ⟨rfl, fun _ _ => rfl⟩) (ak (by refine fun γ => ⟨rfl, fun w' h => ?_⟩; clear h; go_simp) (ak (by refine fun γ => ⟨rfl, fun w' h => ?_⟩; clear h; go_simp) (ak (fun γ => ⟨rfl, fun w' => ex_made72 rfl⟩) (ak (fun γ => ⟨rfl, rfl, rfl, fun w' h => ex_laidT h rfl rfl Try.sizeOf72 rfl rfl rfl⟩) (ak (fun _ => ⟨rfl, fun _ _ => rfl⟩) trivial)))))))
  intro γ w2 l hM hl
  have H2 : Hid (Mm w2 [(γ 5, kd p r c gx gy), (γ1_0, pt X Y false), (γ1_1, pt X' Y' false), (γ1_2, l2 0 0)] ∧ _) := growB H1 hM (Nat.le_refl _) hl [5] rfl (by decide)
  have o2_5 := ownB H1 hM (Nat.le_refl _) hl (i := 5) rfl
  clear hM hl l H1
  generalize γ 5 = γ2_5 at H2 o2_5 ⊢
  clear γ
  refine rest0 rfl (then_normal (wp_seq (wp_seq ?_)))
  refine walk_seqB 2 [.quiet (.int .i64 0), .quiet (.bool false)] H2 ?ho3 ?he3
  case ho3 => exact ak (fun _ => ⟨rfl, fun _ _ => rfl⟩) (ak (by refine fun γ => ⟨rfl, fun w' h => ?_⟩; clear h; go_simp) trivial)
  intro _ w3 H3
  clear H2
  refine rest0 rfl (then_normal (wp_cond_false rfl ?_))
  refine wp_skip (then_normal ?_)
  refine wp_seq (wp_seq ?_)
  refine walk_seqB 3 [.quiet (.agg (kd p r c gx gy).toArray), .quiet (.agg (pt X Y false).toArray), .quiet (.agg (pt X' Y' false).toArray)] H3 ?ho4 ?he4
  case ho4 => exact ak (fun γ => ⟨rfl, fun w' h => ex_loadT h 0 rfl rfl rfl Try.isAgg72 Try.sizeOf72 rfl rfl⟩) (ak (fun γ => ⟨rfl, fun w' h => ex_loadT h 1 rfl rfl rfl Try.isAgg25 Try.sizeOf25 rfl rfl⟩) (ak (fun γ => ⟨rfl, fun w' h => ex_loadT h 2 rfl rfl rfl Try.isAgg25 Try.sizeOf25 rfl rfl⟩) trivial))
  intro _ w4 H4
  clear H3
  refine rest_at (l := [3, 4, 5]) rfl ?_
  refine rest_set (d := 22) (v := .slice (some ⟨w4.heap.size, 0, none⟩) 2 2) (w' := w4.alloc (.cells (p2 X Y false X' Y' false : List Value).toArray 25)) rfl rfl rfl (ex_bs2 rfl rfl rfl) ?_
  simp only [Act.put, sa, sz, ss]
  have o_γs5 : Hid (w.heap.size ≤ w4.heap.size) := H4.out.2.size
  have H5 : Hid (Mm (w4.alloc (.cells (p2 X Y false X' Y' false : List Value).toArray 25)) ((w4.heap.size, p2 X Y false X' Y' false) :: [(γ2_5, kd p r c gx gy), (γ1_0, pt X Y false), (γ1_1, pt X' Y' false), (γ1_2, l2 0 0)]) ∧ Below w.heap.size w (w4.alloc (.cells (p2 X Y false X' Y' false : List Value).toArray 25))) := ⟨H4.out.1.alloc _ 25 rfl, H4.out.2.alloc H4.out.2.size _⟩
  clear H4
  generalize hgw : w4.alloc (.cells (p2 X Y false X' Y' false : List Value).toArray 25) = w5 at H5 ⊢
  clear hgw
  generalize w4.heap.size = γs5 at o_γs5 H5 ⊢
  refine rest_enter (d := 23) (R := fun vv w' => vv = .bool true ∧ Below w5.heap.size w5 w') rfl rfl rfl (exec_call (args := #[.agg (kd p r c gx gy).toArray, .slice (some ⟨γs5, 0, none⟩) 2 2]) rfl call60 rfl (mpn rfl)) (Calls.mono (allIn_is k.pr k.rb _ _ _ _ _ _ _ hg γs5 w5 (H5.out.1.one 0 rfl)) (fun e w2 hh => ⟨_, hh.1, rfl, hh.2⟩)) ?_
  rintro _ w6 ⟨rfl, hb⟩
  have H6 : Hid (_ ∧ _) := ⟨H5.out.1.below hb, H5.out.2.trans (hb.mono H5.out.2.size)⟩
  clear hb H5
  simp only [Act.put, sa, sz, ss]
  refine rest_set (d := 24) (v := .bool false) (w' := w6) rfl rfl rfl (by go_simp) ?_
  simp only [Act.put, sa, sz, ss]
  refine rest_nil (then_normal ?_)
  refine wp_cond_false rfl (wp_skip ?_)
  refine then_normal (wp_seq (wp_seq ?_))
  refine walk_seqB 6 [.quiet (PT γ1_0 2), .quiet (.bool false), .quiet (.bool false), .quiet (PT γ1_1 2), .quiet (.bool false), .quiet (.bool false)] H6 ?ho5 ?he5
  case ho5 => exact ak (by refine fun γ => ⟨rfl, fun w' h => ?_⟩; clear h; go_simp) (ak (fun γ => ⟨rfl, fun w' h => ex_loadC h 2 rfl rfl rfl Try.isAgg4 rfl⟩) (ak (fun _ => ⟨rfl, fun _ _ => rfl⟩) (ak (by refine fun γ => ⟨rfl, fun w' h => ?_⟩; clear h; go_simp) (ak (fun γ => ⟨rfl, fun w' h => ex_loadC h 3 rfl rfl rfl Try.isAgg4 rfl⟩) (ak (by refine fun γ => ⟨rfl, fun w' h => ?_⟩; clear h; go_simp) trivial)))))
  intro _ w7 H7
  clear H6
  refine rest0 rfl (then_normal (wp_cond_false rfl ?_))
  refine wp_skip (then_normal (wp_seq ?_))
  refine walk_anyB 6 [.quiet (.agg (kd p r c gx gy).toArray), .quiet (.agg (kd p r c gx gy).toArray), .quiet (.agg (pt X Y false).toArray), .quiet (.agg (pt X' Y' false).toArray), .call (.agg (l2 ((wk p r X Y X' Y' false).1) ((wk p r X Y X' Y' false).2)).toArray), .call (.agg (l2 ((ls p c (wk p r X Y X' Y' false)).1) ((ls p c (wk p r X Y X' Y' false)).2)).toArray)] H7 ?ho6 ?he6
  case ho6 => exact ak (fun γ => ⟨rfl, fun w' h => ex_loadT h 1 rfl rfl rfl Try.isAgg72 Try.sizeOf72 rfl rfl⟩) (ak (fun γ => ⟨rfl, fun w' h => ex_loadT h 1 rfl rfl rfl Try.isAgg72 Try.sizeOf72 rfl rfl⟩) (ak (fun γ => ⟨rfl, fun w' h => ex_loadT h 2 rfl rfl rfl Try.isAgg25 Try.sizeOf25 rfl rfl⟩) (ak (fun γ => ⟨rfl, fun w' h => ex_loadT h 3 rfl rfl rfl Try.isAgg25 Try.sizeOf25 rfl rfl⟩) (ak (fun γ => ⟨rfl, fun w' h => ⟨62, #[.agg (kd p r c gx gy).toArray, .agg (pt X Y false).toArray, .agg (pt X' Y' false).toArray], exec_call rfl call62 rfl (mpn rfl), walked_any k.pr k.rb X Y false (ig_lt k.pr (Bool.and_eq_true_iff.1 hg).1).1 (ig_lt k.pr (Bool.and_eq_true_iff.1 hg).1).2 X' Y' false (ig_lt k.pr (Bool.and_eq_true_iff.1 hg).2).1 (ig_lt k.pr (Bool.and_eq_true_iff.1 hg).2).2 w'⟩⟩) (ak (fun γ => ⟨rfl, fun w' h => ⟨61, #[.agg (kd p r c gx gy).toArray, .agg (l2 ((wk p r X Y X' Y' false).1) ((wk p r X Y X' Y' false).2)).toArray], exec_call rfl call61 rfl (mpn rfl), last_any k.pr (wk p r X Y X' Y' false) (ws_lt k.pr (ig_lt k.pr (Bool.and_eq_true_iff.1 hg).1).1 (ig_lt k.pr (Bool.and_eq_true_iff.1 hg).1).2 _).f k.cb w'⟩⟩) trivial)))))
  intro _ w8 H8
  clear H7
  refine rest_at (l := [6, 7]) rfl ?_
  refine rest_store rfl rfl rfl (ex_storeT (vs := l2 ((ls p c (wk p r X Y X' Y' false)).1) ((ls p c (wk p r X Y X' Y' false)).2)) H8.out.1 4 rfl rfl rfl rfl Try.sizeOf49 rfl (Nat.le_of_ble_eq_true rfl)) ?_
  have H9 : Hid (Mm (w8.setCells γ1_2 0 (l2 ((ls p c (wk p r X Y X' Y' false)).1) ((ls p c (wk p r X Y X' Y' false)).2))) [(γs5, p2 X Y false X' Y' false), (γ2_5, kd p r c gx gy), (γ1_0, pt X Y false), (γ1_1, pt X' Y' false), (γ1_2, l2 ((ls p c (wk p r X Y X' Y' false)).1) ((ls p c (wk p r X Y X' Y' false)).2))] ∧ Below w.heap.size w (w8.setCells γ1_2 0 (l2 ((ls p c (wk p r X Y X' Y' false)).1) ((ls p c (wk p r X Y X' Y' false)).2)))) := ⟨H8.out.1.put 4 (off := 0) (vs := l2 ((ls p c (wk p r X Y X' Y' false)).1) ((ls p c (wk p r X Y X' Y' false)).2)) rfl (Nat.le_of_ble_eq_true rfl), below_setCells _ o1_2.out _ _ _ H8.out.2⟩
  clear H8
  generalize hgw : World.setCells _ _ _ _ = w9 at H9 ⊢
  clear hgw
  refine rest_set (d := 7) rfl rfl rfl rfl ?_
  simp only [Act.put, sa, sz, ss]
  refine rest_nil (then_normal (wp_ret ?_))
  repeat (first | refine then_ret ?_ | refine block_ret ?_)
  have hf0 := var_T H9.out.1 4 rfl Try.isAgg49 Try.sizeOf49 rfl
  refine bodyPost_ret (v := .tuple #[.agg (l2 ((ls p c (wk p r X Y X' Y' false)).1) ((ls p c (wk p r X Y X' Y' false)).2)).toArray, .int .i64 0]) (by simp [results, Try.results27, asAddr, Act.eval, hf0]) rfl ?_
  exact ⟨rfl, H9.out.2⟩
theorem Pair_ok (k : Kd s p r c gx gy) (X Y : Nat) (Z : Bool) (X' Y' : Nat) (Z' : Bool) (hg : (ig p r X Y Z && ig p r X' Y' Z') = true) (w : World) : Calls Try.prog 27 #[.int .i64 s, .agg (pt X Y Z).toArray, .agg (pt X' Y' Z').toArray] w fun e w' => e = .returned (.tuple #[V (lc (pr p r c X Y X' Y' Z Z')), .int .i64 0]) ∧ Below w.heap.size w w' := by
  unfold pr
  cases Z
  · cases Z'
    · rw [if_neg (by simp)]; exact Pair_g k X Y X' Y' hg w
    · rw [if_pos (Or.inr rfl)]; exact Pair_y k X Y X' Y' hg w
  · rw [if_pos (Or.inl rfl)]; exact Pair_z k X Y X' Y' Z' hg w
set_option maxHeartbeats 1000000 in
set_option maxRecDepth 100000 in
theorem Times_ok (k : Kd s p r c gx gy) (a b : E2) (w : World) :
    Calls Try.prog 28 #[.int .i64 s, .agg (l2 a.1 a.2).toArray, .agg (l2 b.1 b.2).toArray] w fun e w' => e = .returned (.tuple #[V (lc (pd p (a.1 % p, a.2 % p) (b.1 % p, b.2 % p))), .int .i64 0]) ∧ Below w.heap.size w w' := by
  have H0 : Hid (_ ∧ _) := ⟨Mm.nil w, Below.refl w.heap.size w⟩
  go_enter Try.func28, Try.ntmps28
  refine wp_seq ?_
  refine walk_seqA 4 [.made (l2 a.1 a.2) 49, .made (l2 b.1 b.2) 49, .made (l2 0 0) 49, .quiet (.int .i64 0)] (sB H0) ?ho1 ?he1
  case ho1 => exact ak (fun γ => ⟨rfl, fun w' => ex_boxT rfl rfl⟩) (ak (fun γ => ⟨rfl, fun w' => ex_boxT rfl rfl⟩) (ak (fun γ => ⟨rfl, fun w' => ex_made49 rfl⟩) (ak (fun _ => ⟨rfl, fun _ _ => rfl⟩) trivial)))
  intro γ w1 l hM hl
  have H1 : Hid (Mm w1 [(γ 0, l2 a.1 a.2), (γ 1, l2 b.1 b.2), (γ 2, l2 0 0)] ∧ _) := growB H0 hM (Nat.le_refl _) hl [0, 1, 2] rfl (by decide)
  have o1_0 := ownB H0 hM (Nat.le_refl _) hl (i := 0) rfl
  have o1_1 := ownB H0 hM (Nat.le_refl _) hl (i := 1) rfl
  have o1_2 := ownB H0 hM (Nat.le_refl _) hl (i := 2) rfl
  clear hM hl l
  generalize γ 0 = γ1_0 at H1 o1_0 ⊢
  generalize γ 1 = γ1_1 at H1 o1_1 ⊢
  generalize γ 2 = γ1_2 at H1 o1_2 ⊢
  clear γ
  refine rest0 rfl (then_normal (wp_seq ?_))
  refine walk_seqA 8 [.quiet (.int .i64 s), .call (.tuple #[.agg (kd p r c gx gy).toArray, .int .i64 0]), .quiet (.tuple #[.agg (kd p r c gx gy).toArray, .int .i64 0]), .quiet (.agg (kd p r c gx gy).toArray), .quiet (.int .i64 0), .made (kd 0 0 0 0 0) 72, .laid 5 (kd 0 0 0 0 0) (kd p r c gx gy), .quiet (.int .i64 0)] (sB H1) ?ho2 ?he2 (hL := ?hL2)
  case hL2 => exact ⟨⟨_, rfl⟩, trivial⟩
  case ho2 => exact ak (fun _ => ⟨rfl, fun _ _ => rfl⟩) (ak (fun γ => ⟨rfl, fun w' h => ⟨42, #[.int .i64 s], exec_call rfl call42 rfl (mpn rfl), k.kind w'⟩⟩) (ak (fun _ => ⟨rfl, fun _ _ => rfl⟩) (ak (by refine fun γ => ⟨rfl, fun w' h => ?_⟩; clear h; go_simp) (ak (by refine fun γ => ⟨rfl, fun w' h => ?_⟩; clear h; go_simp) (ak (fun γ => ⟨rfl, fun w' => ex_made72 rfl⟩) (ak (fun γ => ⟨rfl, rfl, rfl, fun w' h => ex_laidT h rfl rfl Try.sizeOf72 rfl rfl rfl⟩) (ak (fun _ => ⟨rfl, fun _ _ => rfl⟩) trivial)))))))
  intro γ w2 l hM hl
  have H2 : Hid (Mm w2 [(γ 5, kd p r c gx gy), (γ1_0, l2 a.1 a.2), (γ1_1, l2 b.1 b.2), (γ1_2, l2 0 0)] ∧ _) := growB H1 hM (Nat.le_refl _) hl [5] rfl (by decide)
  have o2_5 := ownB H1 hM (Nat.le_refl _) hl (i := 5) rfl
  clear hM hl l H1
  generalize γ 5 = γ2_5 at H2 o2_5 ⊢
  clear γ
  refine rest0 rfl (then_normal (wp_seq (wp_seq ?_)))
  refine walk_seqB 2 [.quiet (.int .i64 0), .quiet (.bool false)] H2 ?ho3 ?he3
  case ho3 => exact ak (fun _ => ⟨rfl, fun _ _ => rfl⟩) (ak (by refine fun γ => ⟨rfl, fun w' h => ?_⟩; clear h; go_simp) trivial)
  intro _ w3 H3
  clear H2
  refine rest0 rfl (then_normal (wp_cond_false rfl ?_))
  refine wp_skip (then_normal (wp_seq ?_))
  refine walk_anyB 8 [.quiet (.agg (kd p r c gx gy).toArray), .quiet (.agg (kd p r c gx gy).toArray), .quiet (.agg (l2 a.1 a.2).toArray), .call (.agg (l2 (a.1 % p) (a.2 % p)).toArray), .quiet (.agg (kd p r c gx gy).toArray), .quiet (.agg (l2 b.1 b.2).toArray), .call (.agg (l2 (b.1 % p) (b.2 % p)).toArray), .call (.agg (l2 ((pd p (a.1 % p, a.2 % p) (b.1 % p, b.2 % p)).1) ((pd p (a.1 % p, a.2 % p) (b.1 % p, b.2 % p)).2)).toArray)] H3 ?ho4 ?he4
  case ho4 => exact ak (fun γ => ⟨rfl, fun w' h => ex_loadT h 0 rfl rfl rfl Try.isAgg72 Try.sizeOf72 rfl rfl⟩) (ak (fun γ => ⟨rfl, fun w' h => ex_loadT h 0 rfl rfl rfl Try.isAgg72 Try.sizeOf72 rfl rfl⟩) (ak (fun γ => ⟨rfl, fun w' h => ex_loadT h 1 rfl rfl rfl Try.isAgg49 Try.sizeOf49 rfl rfl⟩) (ak (fun γ => ⟨rfl, fun w' h => ⟨64, #[.agg (kd p r c gx gy).toArray, .agg (l2 a.1 a.2).toArray], exec_call rfl call64 rfl (mpn rfl), left_any k.pr a w'⟩⟩) (ak (fun γ => ⟨rfl, fun w' h => ex_loadT h 0 rfl rfl rfl Try.isAgg72 Try.sizeOf72 rfl rfl⟩) (ak (fun γ => ⟨rfl, fun w' h => ex_loadT h 2 rfl rfl rfl Try.isAgg49 Try.sizeOf49 rfl rfl⟩) (ak (fun γ => ⟨rfl, fun w' h => ⟨64, #[.agg (kd p r c gx gy).toArray, .agg (l2 b.1 b.2).toArray], exec_call rfl call64 rfl (mpn rfl), left_any k.pr b w'⟩⟩) (ak (fun γ => ⟨rfl, fun w' h => ⟨63, #[.agg (kd p r c gx gy).toArray, .agg (l2 (a.1 % p) (a.2 % p)).toArray, .agg (l2 (b.1 % p) (b.2 % p)).toArray], exec_call rfl call63 rfl (mpn rfl), product_any k.pr (a.1 % p, a.2 % p) (b.1 % p, b.2 % p) ⟨(Nat.mod_lt _ (zero_lt k.pr)), (Nat.mod_lt _ (zero_lt k.pr))⟩ ⟨(Nat.mod_lt _ (zero_lt k.pr)), (Nat.mod_lt _ (zero_lt k.pr))⟩ w'⟩⟩) trivial)))))))
  intro _ w4 H4
  clear H3
  refine rest_at (l := [8, 9]) rfl ?_
  refine rest_store rfl rfl rfl (ex_storeT (vs := l2 ((pd p (a.1 % p, a.2 % p) (b.1 % p, b.2 % p)).1) ((pd p (a.1 % p, a.2 % p) (b.1 % p, b.2 % p)).2)) H4.out.1 3 rfl rfl rfl rfl Try.sizeOf49 rfl (Nat.le_of_ble_eq_true rfl)) ?_
  have H5 : Hid (Mm (w4.setCells γ1_2 0 (l2 ((pd p (a.1 % p, a.2 % p) (b.1 % p, b.2 % p)).1) ((pd p (a.1 % p, a.2 % p) (b.1 % p, b.2 % p)).2))) [(γ2_5, kd p r c gx gy), (γ1_0, l2 a.1 a.2), (γ1_1, l2 b.1 b.2), (γ1_2, l2 ((pd p (a.1 % p, a.2 % p) (b.1 % p, b.2 % p)).1) ((pd p (a.1 % p, a.2 % p) (b.1 % p, b.2 % p)).2))] ∧ Below w.heap.size w (w4.setCells γ1_2 0 (l2 ((pd p (a.1 % p, a.2 % p) (b.1 % p, b.2 % p)).1) ((pd p (a.1 % p, a.2 % p) (b.1 % p, b.2 % p)).2)))) := ⟨H4.out.1.put 3 (off := 0) (vs := l2 ((pd p (a.1 % p, a.2 % p) (b.1 % p, b.2 % p)).1) ((pd p (a.1 % p, a.2 % p) (b.1 % p, b.2 % p)).2)) rfl (Nat.le_of_ble_eq_true rfl), below_setCells _ o1_2.out _ _ _ H4.out.2⟩
  clear H4
  generalize hgw : World.setCells _ _ _ _ = w5 at H5 ⊢
  clear hgw
  refine rest_set (d := 7) rfl rfl rfl rfl ?_
  simp only [Act.put, sa, sz, ss]
  refine rest_nil (then_normal (wp_ret ?_))
  repeat (first | refine then_ret ?_ | refine block_ret ?_)
  have hf0 := var_T H5.out.1 3 rfl Try.isAgg49 Try.sizeOf49 rfl
  refine bodyPost_ret (v := .tuple #[.agg (l2 ((pd p (a.1 % p, a.2 % p) (b.1 % p, b.2 % p)).1) ((pd p (a.1 % p, a.2 % p) (b.1 % p, b.2 % p)).2)).toArray, .int .i64 0]) (by simp [results, Try.results28, asAddr, Act.eval, hf0]) rfl ?_
  exact ⟨rfl, H5.out.2⟩
set_option maxHeartbeats 1000000 in
set_option maxRecDepth 100000 in
theorem Power_ok (k : Kd s p r c gx gy) (a : E2) (n : Nat) (hn : n < 18446744073709551616) (w : World) :
    Calls Try.prog 29 #[.int .i64 s, .agg (l2 a.1 a.2).toArray, U n] w fun e w' => e = .returned (.tuple #[V (lc (rs p (1, 0) (a.1 % p, a.2 % p) n)), .int .i64 0]) ∧ Below w.heap.size w w' := by
  have H0 : Hid (_ ∧ _) := ⟨Mm.nil w, Below.refl w.heap.size w⟩
  go_enter Try.func29, Try.ntmps29
  refine wp_seq ?_
  refine walk_seqA 3 [.made (l2 a.1 a.2) 49, .made (l2 0 0) 49, .quiet (.int .i64 0)] (sB H0) ?ho1 ?he1
  case ho1 => exact ak (fun γ => ⟨rfl, fun w' => ex_boxT rfl rfl⟩) (ak (fun γ => ⟨rfl, fun w' => ex_made49 rfl⟩) (ak (fun _ => ⟨rfl, fun _ _ => rfl⟩) trivial))
  intro γ w1 l hM hl
  have H1 : Hid (Mm w1 [(γ 0, l2 a.1 a.2), (γ 1, l2 0 0)] ∧ _) := growB H0 hM (Nat.le_refl _) hl [0, 1] rfl (by decide)
  have o1_0 := ownB H0 hM (Nat.le_refl _) hl (i := 0) rfl
  have o1_1 := ownB H0 hM (Nat.le_refl _) hl (i := 1) rfl
  clear hM hl l
  generalize γ 0 = γ1_0 at H1 o1_0 ⊢
  generalize γ 1 = γ1_1 at H1 o1_1 ⊢
  clear γ
  refine rest0 rfl (then_normal (wp_seq ?_))
  refine walk_seqA 8 [.quiet (.int .i64 s), .call (.tuple #[.agg (kd p r c gx gy).toArray, .int .i64 0]), .quiet (.tuple #[.agg (kd p r c gx gy).toArray, .int .i64 0]), .quiet (.agg (kd p r c gx gy).toArray), .quiet (.int .i64 0), .made (kd 0 0 0 0 0) 72, .laid 5 (kd 0 0 0 0 0) (kd p r c gx gy), .quiet (.int .i64 0)] (sB H1) ?ho2 ?he2 (hL := ?hL2)
  case hL2 => exact ⟨⟨_, rfl⟩, trivial⟩
  case ho2 => exact ak (fun _ => ⟨rfl, fun _ _ => rfl⟩) (ak (fun γ => ⟨rfl, fun w' h => ⟨42, #[.int .i64 s], exec_call rfl call42 rfl (mpn rfl), k.kind w'⟩⟩) (ak (fun _ => ⟨rfl, fun _ _ => rfl⟩) (ak (by refine fun γ => ⟨rfl, fun w' h => ?_⟩; clear h; go_simp) (ak (by refine fun γ => ⟨rfl, fun w' h => ?_⟩; clear h; go_simp) (ak (fun γ => ⟨rfl, fun w' => ex_made72 rfl⟩) (ak (fun γ => ⟨rfl, rfl, rfl, fun w' h => ex_laidT h rfl rfl Try.sizeOf72 rfl rfl rfl⟩) (ak (fun _ => ⟨rfl, fun _ _ => rfl⟩) trivial)))))))
  intro γ w2 l hM hl
  have H2 : Hid (Mm w2 [(γ 5, kd p r c gx gy), (γ1_0, l2 a.1 a.2), (γ1_1, l2 0 0)] ∧ _) := growB H1 hM (Nat.le_refl _) hl [5] rfl (by decide)
  have o2_5 := ownB H1 hM (Nat.le_refl _) hl (i := 5) rfl
  clear hM hl l H1
  generalize γ 5 = γ2_5 at H2 o2_5 ⊢
  clear γ
  refine rest0 rfl (then_normal (wp_seq (wp_seq ?_)))
  refine walk_seqB 2 [.quiet (.int .i64 0), .quiet (.bool false)] H2 ?ho3 ?he3
  case ho3 => exact ak (fun _ => ⟨rfl, fun _ _ => rfl⟩) (ak (by refine fun γ => ⟨rfl, fun w' h => ?_⟩; clear h; go_simp) trivial)
  intro _ w3 H3
  clear H2
  refine rest0 rfl (then_normal (wp_cond_false rfl ?_))
  refine wp_skip (then_normal (wp_seq ?_))
  refine walk_anyB 6 [.quiet (.agg (kd p r c gx gy).toArray), .quiet (.agg (kd p r c gx gy).toArray), .quiet (.agg (l2 a.1 a.2).toArray), .call (.agg (l2 (a.1 % p) (a.2 % p)).toArray), .quiet (U n), .call (.agg (l2 ((rs p (1, 0) (a.1 % p, a.2 % p) n).1) ((rs p (1, 0) (a.1 % p, a.2 % p) n).2)).toArray)] H3 ?ho4 ?he4
  case ho4 => exact ak (fun γ => ⟨rfl, fun w' h => ex_loadT h 0 rfl rfl rfl Try.isAgg72 Try.sizeOf72 rfl rfl⟩) (ak (fun γ => ⟨rfl, fun w' h => ex_loadT h 0 rfl rfl rfl Try.isAgg72 Try.sizeOf72 rfl rfl⟩) (ak (fun γ => ⟨rfl, fun w' h => ex_loadT h 1 rfl rfl rfl Try.isAgg49 Try.sizeOf49 rfl rfl⟩) (ak (fun γ => ⟨rfl, fun w' h => ⟨64, #[.agg (kd p r c gx gy).toArray, .agg (l2 a.1 a.2).toArray], exec_call rfl call64 rfl (mpn rfl), left_any k.pr a w'⟩⟩) (ak (fun _ => ⟨rfl, fun _ _ => rfl⟩) (ak (fun γ => ⟨rfl, fun w' h => ⟨65, #[.agg (kd p r c gx gy).toArray, .agg (l2 (a.1 % p) (a.2 % p)).toArray, U n], exec_call rfl call65 rfl (mpn rfl), raised_any k.pr (a.1 % p, a.2 % p) ⟨(Nat.mod_lt _ (zero_lt k.pr)), (Nat.mod_lt _ (zero_lt k.pr))⟩ n hn w'⟩⟩) trivial)))))
  intro _ w4 H4
  clear H3
  refine rest_at (l := [6, 7]) rfl ?_
  refine rest_store rfl rfl rfl (ex_storeT (vs := l2 ((rs p (1, 0) (a.1 % p, a.2 % p) n).1) ((rs p (1, 0) (a.1 % p, a.2 % p) n).2)) H4.out.1 2 rfl rfl rfl rfl Try.sizeOf49 rfl (Nat.le_of_ble_eq_true rfl)) ?_
  have H5 : Hid (Mm (w4.setCells γ1_1 0 (l2 ((rs p (1, 0) (a.1 % p, a.2 % p) n).1) ((rs p (1, 0) (a.1 % p, a.2 % p) n).2))) [(γ2_5, kd p r c gx gy), (γ1_0, l2 a.1 a.2), (γ1_1, l2 ((rs p (1, 0) (a.1 % p, a.2 % p) n).1) ((rs p (1, 0) (a.1 % p, a.2 % p) n).2))] ∧ Below w.heap.size w (w4.setCells γ1_1 0 (l2 ((rs p (1, 0) (a.1 % p, a.2 % p) n).1) ((rs p (1, 0) (a.1 % p, a.2 % p) n).2)))) := ⟨H4.out.1.put 2 (off := 0) (vs := l2 ((rs p (1, 0) (a.1 % p, a.2 % p) n).1) ((rs p (1, 0) (a.1 % p, a.2 % p) n).2)) rfl (Nat.le_of_ble_eq_true rfl), below_setCells _ o1_1.out _ _ _ H4.out.2⟩
  clear H4
  generalize hgw : World.setCells _ _ _ _ = w5 at H5 ⊢
  clear hgw
  refine rest_set (d := 7) rfl rfl rfl rfl ?_
  simp only [Act.put, sa, sz, ss]
  refine rest_nil (then_normal (wp_ret ?_))
  repeat (first | refine then_ret ?_ | refine block_ret ?_)
  have hf0 := var_T H5.out.1 2 rfl Try.isAgg49 Try.sizeOf49 rfl
  refine bodyPost_ret (v := .tuple #[.agg (l2 ((rs p (1, 0) (a.1 % p, a.2 % p) n).1) ((rs p (1, 0) (a.1 % p, a.2 % p) n).2)).toArray, .int .i64 0]) (by simp [results, Try.results29, asAddr, Act.eval, hf0]) rfl ?_
  exact ⟨rfl, H5.out.2⟩
end
/-! What the examples say. -/
set_option maxRecDepth 100000 in
theorem run_eqL' (D a b a' b' : Nat) (p0 p1 : Bool) (hi0 : ∀ w, (Op.equalIn D 23 (U a) (U a')).run Try.prog w = .ok p0 w) (hi1 : ∀ w, (Op.equalIn D 23 (U b) (U b')).run Try.prog w = .ok p1 w) (w : World) : (Op.equalIn (D + 1) 49 (V (l2 a b)) (V (l2 a' b'))).run Try.prog w = .ok (p0 && p1) w := by
  have h49 : Try.prog.underlying 49 = some (.array 2 23) := by kernel_rfl
  have hsz : ∀ w, (sizeOf 23).run Try.prog w = .ok 1 w := fun w => by kernel_rfl
  have hp : ∀ (a b : Nat) (w : World), (Go.part 23 (l2 a b).toArray 0).run Try.prog w = .ok (U a) w ∧ (Go.part 23 (l2 a b).toArray 1).run Try.prog w = .ok (U b) w := fun a b w => ⟨by kernel_rfl, by kernel_rfl⟩
  have q1 := hp a b
  have q2 := hp a' b'
  clear hp
  unfold V
  generalize (l2 a b).toArray = xs at *
  generalize (l2 a' b').toArray = ys at *
  simp only [Op.equalIn, Sem.run_bind, run_underlying h49, Result.andThen_ok, hsz]
  simp [Std.Legacy.Range.forIn_eq_forIn_range', List.range', List.forIn_cons, hi0, hi1, q1, q2]
  cases p0 <;> cases p1 <;> simp
theorem run_eqL (a b a' b' : Nat) (w : World) : (Op.equalIn 10000 49 (V (l2 a b)) (V (l2 a' b'))).run Try.prog w = .ok (decide (a = a') && decide (b = b')) w :=
  run_eqL' 9999 a b a' b' _ _ (fun w => run_eqU 9998 a a' w) (fun w => run_eqU 9998 b b' w) w
theorem exec_eqT49 {ρ : Operand → Value} {o : Oper} {x y : Operand} {v v' : Array Value} {t : Bool} {w : World} (he : ∀ w, (Op.equalIn 10000 49 (.agg v) (.agg v')).run Try.prog w = .ok t w) (ho : o.op = .binOp .eql 49 x y 49) (hx : ρ x = .agg v) (hy : ρ y = .agg v') :
    (execOp ρ o).run Try.prog w = .ok (.value (.bool t)) w := by
  simp only [execOp, ho, hx, hy]
  clear hx hy
  go_simp
open NT in
theorem pw_pm (p a n : Nat) (hn : n < 2 ^ 64) : pw p a n = pm p 64 a n 1 % p := by
  unfold pw
  rw [pm_spec p 64 a n 1 hn, Nat.one_mul]
open NT in
theorem ls_pm (p c : Nat) (f : E2) (hp : p < 2 ^ 64) : ls p c f = rs p (1, 0) (pd p (pd p (f.1, mi p 0 f.2) (f.1, mi p 0 f.2)) (pm p 64 (t2 p f.1 f.1 f.2 f.2) (p - 2) 1 % p, 0)) c := by
  unfold ls
  rw [pw_pm p _ (p - 2) (by omega)]
theorem ig_g1 : ig 786251 65521 9723 164643 false = true := by decide +kernel
theorem pr_g1 : pr 786251 65521 12 9723 164643 9723 164643 false false = (414096, 460347) := by
  have : pr 786251 65521 12 9723 164643 9723 164643 false false = ls 786251 12 (wk 786251 65521 9723 164643 9723 164643 false) := rfl
  rw [this, ls_pm _ _ _ (by decide)]
  decide +kernel
theorem Pair_g1 (w : World) : Calls Try.prog 27 #[.int .i64 1, .agg (pt 9723 164643 false).toArray, .agg (pt 9723 164643 false).toArray] w fun e w' => e = .returned (.tuple #[V (l2 414096 460347), .int .i64 0]) ∧ Below w.heap.size w w' := by
  have h := Pair_ok kd_1 9723 164643 false 9723 164643 false (by rw [ig_g1]; rfl) w
  rw [pr_g1] at h
  exact h
set_option maxHeartbeats 1000000 in
set_option maxRecDepth 100000 in
theorem awake_any  (w : World) :
    Calls Try.prog 41 #[] w fun e w' => e = .returned (.bool true) ∧ Below w.heap.size w w' := by
  have H0 : Hid (_ ∧ _) := ⟨Mm.nil w, Below.refl w.heap.size w⟩
  go_enter Try.func41, Try.ntmps41
  refine wp_seq ?_
  refine walk_seqB 1 [.quiet (.bool false)] H0 ?ho1 ?he1
  case ho1 => exact ak (fun _ => ⟨rfl, fun _ _ => rfl⟩) trivial
  intro _ w1 H1
  refine rest0 rfl (then_normal (wp_seq ?_))
  refine walk_seqA 7 [.call (.tuple #[.agg (pt 9723 164643 false).toArray, .int .i64 0]), .quiet (.tuple #[.agg (pt 9723 164643 false).toArray, .int .i64 0]), .quiet (.agg (pt 9723 164643 false).toArray), .quiet (.int .i64 0), .made (pt 0 0 false) 25, .laid 4 (pt 0 0 false) (pt 9723 164643 false), .quiet (.int .i64 0)] (sB H1) ?ho2 ?he2 (hL := ?hL2)
  case hL2 => exact ⟨⟨_, rfl⟩, trivial⟩
  case ho2 => exact ak (fun γ => ⟨rfl, fun w' h => ⟨13, #[.int .i64 1], exec_call rfl call13 rfl (mpn rfl), Gen_ok kd_1 w'⟩⟩) (ak (fun _ => ⟨rfl, fun _ _ => rfl⟩) (ak (by refine fun γ => ⟨rfl, fun w' h => ?_⟩; clear h; go_simp) (ak (by refine fun γ => ⟨rfl, fun w' h => ?_⟩; clear h; go_simp) (ak (fun γ => ⟨rfl, fun w' => ex_made25 rfl⟩) (ak (fun γ => ⟨rfl, rfl, rfl, fun w' h => ex_laidT h rfl rfl Try.sizeOf25 rfl rfl rfl⟩) (ak (fun _ => ⟨rfl, fun _ _ => rfl⟩) trivial))))))
  intro γ w2 l hM hl
  have H2 : Hid (Mm w2 [(γ 4, pt 9723 164643 false)] ∧ _) := growB H1 hM (Nat.le_refl _) hl [4] rfl (by decide)
  have o2_4 := ownB H1 hM (Nat.le_refl _) hl (i := 4) rfl
  clear hM hl l H1
  generalize γ 4 = γ2_4 at H2 o2_4 ⊢
  clear γ
  refine rest0 rfl (then_normal (wp_seq ?_))
  refine walk_seqA 9 [.quiet (.agg (pt 9723 164643 false).toArray), .quiet (.agg (pt 9723 164643 false).toArray), .call (.tuple #[.agg (l2 414096 460347).toArray, .int .i64 0]), .quiet (.tuple #[.agg (l2 414096 460347).toArray, .int .i64 0]), .quiet (.agg (l2 414096 460347).toArray), .quiet (.int .i64 0), .made (l2 0 0) 49, .laid 6 (l2 0 0) (l2 414096 460347), .quiet (.int .i64 0)] (sB H2) ?ho3 ?he3 (hL := ?hL3)
  case hL3 => exact ⟨⟨_, rfl⟩, trivial⟩
  case ho3 => exact ak (fun γ => ⟨rfl, fun w' h => ex_loadT h 0 rfl rfl rfl Try.isAgg25 Try.sizeOf25 rfl rfl⟩) (ak (fun γ => ⟨rfl, fun w' h => ex_loadT h 0 rfl rfl rfl Try.isAgg25 Try.sizeOf25 rfl rfl⟩) (ak (fun γ => ⟨rfl, fun w' h => ⟨27, #[.int .i64 1, .agg (pt 9723 164643 false).toArray, .agg (pt 9723 164643 false).toArray], exec_call rfl call27 rfl (mpn rfl), Pair_g1 w'⟩⟩) (ak (fun _ => ⟨rfl, fun _ _ => rfl⟩) (ak (by refine fun γ => ⟨rfl, fun w' h => ?_⟩; clear h; go_simp) (ak (by refine fun γ => ⟨rfl, fun w' h => ?_⟩; clear h; go_simp) (ak (fun γ => ⟨rfl, fun w' => ex_made49 rfl⟩) (ak (fun γ => ⟨rfl, rfl, rfl, fun w' h => ex_laidT h rfl rfl Try.sizeOf49 rfl rfl rfl⟩) (ak (fun _ => ⟨rfl, fun _ _ => rfl⟩) trivial))))))))
  intro γ w3 l hM hl
  have H3 : Hid (Mm w3 [(γ 6, l2 414096 460347), (γ2_4, pt 9723 164643 false)] ∧ _) := growB H2 hM (Nat.le_refl _) hl [6] rfl (by decide)
  have o3_6 := ownB H2 hM (Nat.le_refl _) hl (i := 6) rfl
  clear hM hl l H2
  generalize γ 6 = γ3_6 at H3 o3_6 ⊢
  clear γ
  refine rest0 rfl (then_normal (wp_seq ?_))
  refine walk_seqB 17 [.quiet (.agg (pt 9723 164643 false).toArray), .quiet (.agg (pt 9723 164643 false).toArray), .quiet (.bool true), .quiet (.bool true), .quiet (.int .i64 0), .quiet (.bool true), .quiet (.bool true), .quiet (.bool true), .quiet (.agg (l2 414096 460347).toArray), .quiet (.agg (l2 414096 460347).toArray), .quiet (.bool true), .quiet (.bool true), .quiet (.bool true), .quiet (.int .i64 0), .quiet (.bool true), .quiet (.bool true), .quiet (.bool true)] H3 ?ho4 ?he4
  case ho4 => exact ak (fun γ => ⟨rfl, fun w' h => ex_loadT h 1 rfl rfl rfl Try.isAgg25 Try.sizeOf25 rfl rfl⟩) (ak (fun γ => ⟨rfl, fun w' _ => ex_build25_01 rfl rfl rfl⟩) (ak (fun γ => ⟨rfl, fun w' _ => exec_eqT25 (fun w => eq_self _ _ _ w) rfl rfl rfl⟩) (ak (fun _ => ⟨rfl, fun _ _ => rfl⟩) (ak (fun _ => ⟨rfl, fun _ _ => rfl⟩) (ak (by refine fun γ => ⟨rfl, fun w' h => ?_⟩; clear h; go_simp) (ak (by refine fun γ => ⟨rfl, fun w' h => ?_⟩; clear h; go_simp) (ak (fun _ => ⟨rfl, fun _ _ => rfl⟩) (ak (fun γ => ⟨rfl, fun w' h => ex_loadT h 0 rfl rfl rfl Try.isAgg49 Try.sizeOf49 rfl rfl⟩) (ak (fun γ => ⟨rfl, fun w' _ => ex_build49_01 rfl rfl rfl⟩) (ak (fun γ => ⟨rfl, fun w' _ => exec_eqT49 (fun w => run_eqL 414096 460347 414096 460347 w) rfl rfl rfl⟩) (ak (by refine fun γ => ⟨rfl, fun w' h => ?_⟩; clear h; go_simp) (ak (fun _ => ⟨rfl, fun _ _ => rfl⟩) (ak (fun _ => ⟨rfl, fun _ _ => rfl⟩) (ak (by refine fun γ => ⟨rfl, fun w' h => ?_⟩; clear h; go_simp) (ak (by refine fun γ => ⟨rfl, fun w' h => ?_⟩; clear h; go_simp) (ak (fun _ => ⟨rfl, fun _ _ => rfl⟩) trivial))))))))))))))))
  intro _ w4 H4
  clear H3
  refine rest0 rfl (then_normal (wp_ret ?_))
  repeat (first | refine then_ret ?_ | refine block_ret ?_)
  refine bodyPost_ret (v := .bool true) (by simp [results, Try.results41, go_sem, *]) rfl ?_
  exact ⟨rfl, H4.out.2⟩
end Rg
end Go.Proofs.Ytjmbgchoioepjaa
end
section
namespace Go.Proofs.Ytjmbgchoioepjaa
open Go.RowKit
namespace Rg
section
variable {p r c gx gy : Nat}
structure LtD (p : Nat) (s : E2 × P3) : Prop where
  f : Lt2 p s.1
  t : LtP p s.2
end
end Rg
end Go.Proofs.Ytjmbgchoioepjaa
end
section
namespace Go.Proofs.Ytjmbgchoioepjaa
open Go.RowKit
namespace Rg
open NT
/-- A suite of which the document knows the same, and whose p is a prime. -/
structure Kq (s : Int) (p r c gx gy : Nat) : Prop where
  k : Kd s p r c gx gy
  prm : Prm p
  of : ∀ w, Calls Try.prog 10 #[.int .i64 s] w fun e w' => e = .returned (.tuple #[V (kd p r c gx gy), .bool true]) ∧ Below w.heap.size w w'
theorem kq_1 : Kq 1 786251 65521 12 9723 164643 := ⟨kd_1, prm_786251, Of_1⟩
theorem kq_2 : Kq 2 1152921504606846223 72057594037927889 16 613740293506734924 666621259561003659 := ⟨kd_2, prm_1152921504606846223, Of_2⟩
theorem Kq.ne {s : Int} {p r c gx gy : Nat} (k : Kq s p r c gx gy) : NeZero p := ⟨Nat.ne_of_gt (zero_lt k.k.pr)⟩
theorem call12 : ∀ args w, (callFunc 12 args).run Try.prog w = .ok (.enter 12 args) w := by intro args w; go_simp
theorem call14 : ∀ args w, (callFunc 14 args).run Try.prog w = .ok (.enter 14 args) w := by intro args w; go_simp
theorem call15 : ∀ args w, (callFunc 15 args).run Try.prog w = .ok (.enter 15 args) w := by intro args w; go_simp
theorem call20 : ∀ args w, (callFunc 20 args).run Try.prog w = .ok (.enter 20 args) w := by intro args w; go_simp
section
variable {s : Int} {p r c gx gy : Nat}
theorem Mul_dc (k : Kq s p r c gx gy) (X Y : Nat) (Z : Bool) (n : Nat) (hn : n < 18446744073709551616) (h1 : oc p X Y Z = true) (w : World) : Calls Try.prog 15 #[.int .i64 s, .agg (pt X Y Z).toArray, U n] w fun e w' => e = .returned (.tuple #[V (pc (dM p (X, Y, Z) n)), .int .i64 0]) ∧ Below w.heap.size w w' := by
  have := k.ne
  rw [← mt_is k.k.pr k.prm h1 n]
  exact Mul_ok k.k X Y Z n hn h1 w
theorem Add_dc (k : Kq s p r c gx gy) (X Y : Nat) (Z : Bool) (X' Y' : Nat) (Z' : Bool) (h1 : oc p X Y Z = true) (h2 : oc p X' Y' Z' = true) (w : World) : Calls Try.prog 14 #[.int .i64 s, .agg (pt X Y Z).toArray, .agg (pt X' Y' Z').toArray] w fun e w' => e = .returned (.tuple #[V (pc (dA p (X, Y, Z) (X', Y', Z'))), .int .i64 0]) ∧ Below w.heap.size w w' := by
  have := k.ne
  rw [← add_is k.k.pr k.prm h1 h2]
  exact Add_ok k.k X Y Z X' Y' Z' h1 h2 w
end
end Rg
end Go.Proofs.Ytjmbgchoioepjaa
end
section
namespace Go.Proofs.Ytjmbgchoioepjaa
open Go.RowKit
namespace Rg
open NT
abbrev W32 (n : Nat) : Value := .int .u32 (n : Int)
theorem ex_cv32 {ρ : Operand → Value} {o : Oper} {x : Operand} {a : Nat} {w : World} (h : a < 4294967296) (ho : o.op = .convert 68 23 x) (hx : ρ x = W32 a) : (execOp ρ o).run Try.prog w = .ok (.value (U a)) w := by
  simp only [execOp, ho, hx]
  clear ho hx
  go_simp
  first | (rw [IntKind.wrap_u64]; omega) | omega
theorem mul32 {a b : Nat} (ha : a < 4294967296) (hb : b < 4294967296) : a * b < 18446744073709551616 := Nat.lt_of_le_of_lt (Nat.mul_le_mul (by omega : a ≤ 4294967295) (by omega : b ≤ 4294967295)) (by decide)
/-- A suite whose points are a group. -/
structure Kf (s : Int) (p r c gx gy : Nat) : Prop where
  q : Kq s p r c gx gy
  three : p % 4 = 3
theorem kf_1 : Kf 1 786251 65521 12 9723 164643 := ⟨kq_1, by decide⟩
theorem kf_2 : Kf 2 1152921504606846223 72057594037927889 16 613740293506734924 666621259561003659 := ⟨kq_2, by decide⟩
theorem call41 : ∀ args w, (callFunc 41 args).run Try.prog w = .ok (.enter 41 args) w := by intro args w; go_simp
section
variable {s : Int} {p r c gx gy : Nat}
theorem Kf.fd (k : Kf s p r c gx gy) [NeZero p] : Fd p := ⟨k.q.k.pr, k.q.prm, k.three⟩
theorem Add_gr (k : Kf s p r c gx gy) [NeZero p] {a b d : P3} (ha : On p a) (hb : On p b) (e : dA p a b = d) (w : World) : Calls Try.prog 14 #[.int .i64 s, .agg (pt a.1 a.2.1 a.2.2).toArray, .agg (pt b.1 b.2.1 b.2.2).toArray] w fun e w' => e = .returned (.tuple #[V (pc d), .int .i64 0]) ∧ Below w.heap.size w w' := by
  rw [← e]
  exact Add_dc k.q _ _ _ _ _ _ (oc_of k.q.k.pr ha) (oc_of k.q.k.pr hb) w
theorem Mul_gr (k : Kf s p r c gx gy) [NeZero p] {a d : P3} (ha : On p a) {n : Nat} (hn : n < 18446744073709551616) (e : dN p a n = d) (w : World) : Calls Try.prog 15 #[.int .i64 s, .agg (pt a.1 a.2.1 a.2.2).toArray, U n] w fun e w' => e = .returned (.tuple #[V (pc d), .int .i64 0]) ∧ Below w.heap.size w w' := by
  rw [← e, ← dM_dN k.fd ha n hn]
  exact Mul_dc k.q _ _ _ n hn (oc_of k.q.k.pr ha) w
end
end Rg
end Go.Proofs.Ytjmbgchoioepjaa
end
section
namespace Go.Proofs.Ytjmbgchoioepjaa
open Go.RowKit
namespace Rg
open NT
theorem eqL_self (x y : Nat) (w : World) : (Op.equalIn 10000 49 (V (l2 x y)) (V (l2 x y))).run Try.prog w = .ok true w := by
  rw [run_eqL x y x y w, decide_eq_true rfl, decide_eq_true rfl]
  rfl
/-- A suite whose order is an odd prime. -/
structure Kr (s : Int) (p r c gx gy : Nat) : Prop where
  f : Kf s p r c gx gy
  pr : Prm r
  odd : r % 2 = 1
theorem kr_1 : Kr 1 786251 65521 12 9723 164643 := ⟨kf_1, prm_65521, by decide⟩
theorem kr_2 : Kr 2 1152921504606846223 72057594037927889 16 613740293506734924 666621259561003659 := ⟨kf_2, prm_72057594037927889, by decide⟩
theorem call28 : ∀ args w, (callFunc 28 args).run Try.prog w = .ok (.enter 28 args) w := by intro args w; go_simp
theorem call29 : ∀ args w, (callFunc 29 args).run Try.prog w = .ok (.enter 29 args) w := by intro args w; go_simp
section
variable {s : Int} {p r c gx gy : Nat}
theorem Power_doc (k : Kr s p r c gx gy) (a : E2) (n : Nat) (hn : n < 18446744073709551616) (w : World) : Calls Try.prog 29 #[.int .i64 s, .agg (l2 a.1 a.2).toArray, U n] w fun e w' => e = .returned (.tuple #[V (lc (po p (a.1 % p, a.2 % p) n)), .int .i64 0]) ∧ Below w.heap.size w w' := by
  have := k.f.q.ne
  rw [← rs_po k.f.q.k.pr (a := (a.1 % p, a.2 % p)) ⟨(Nat.mod_lt _ (zero_lt k.f.q.k.pr)), (Nat.mod_lt _ (zero_lt k.f.q.k.pr))⟩ n hn]
  exact Power_ok k.f.q.k a n hn w
end
end Rg
end Go.Proofs.Ytjmbgchoioepjaa
end
section
namespace Go.Proofs.Ytjmbgchoioepjaa
open Go.RowKit
namespace Rg
open NT
/-- A suite whose numbers of two points are linear. -/
structure Kb (s : Int) (p r c gx gy : Nat) : Prop where
  k : Kr s p r c gx gy
  cr : c * r = p + 1
  ev2 : c % 2 = 0
  big : 100 ≤ r
  sq : p + 1 < r * r
  gi : ig p r gx gy false = true
  gn : pr p r c gx gy gx gy false false ≠ (1, 0)
/-- The number of two points. -/
def pe (p r c : Nat) (a d : P3) : E2 := pr p r c a.1 a.2.1 d.1 d.2.1 a.2.2 d.2.2
section
variable {s : Int} {p r c gx gy : Nat}
theorem ig_Sg (k : Kr s p r c gx gy) [NeZero p] {a : P3} (h : ig p r a.1 a.2.1 a.2.2 = true) : Sg p r a := by
  have F := k.f.fd
  rw [ig_is F.pr F.prm] at h
  unfold di at h
  rw [Bool.and_eq_true] at h
  have ho := on_of F.pr h.1
  have hz := h.2
  rw [dM_dN F ho r k.f.q.k.rb] at hz
  exact ⟨ho, (dN_on F ho r).zr hz⟩
theorem Sg_ig (k : Kr s p r c gx gy) [NeZero p] {a : P3} (h : Sg p r a) : ig p r a.1 a.2.1 a.2.2 = true := by
  have F := k.f.fd
  rw [ig_is F.pr F.prm]
  unfold di
  have e : dM p (a.1, a.2.1, a.2.2) r = (0, 0, true) := (dM_dN F h.on r k.f.q.k.rb).trans h.z
  rw [oc_of F.pr h.on, e]
  rfl
theorem Kb.gg (k : Kb s p r c gx gy) [NeZero p] : Gg p r c := ⟨k.k.f.fd, k.k.pr, k.k.odd, k.big, k.cr, k.ev2, ⟨(gx, gy, false), ig_Sg k.k k.gi, rfl⟩⟩
theorem pe_ev (k : Kb s p r c gx gy) [NeZero p] {a d : P3} (ha : Sg p r a) (hd : Sg p r d) : phq p (pe p r c a d) = ev p r c a d := by
  obtain ⟨X, Y, Z⟩ := a
  obtain ⟨X', Y', Z'⟩ := d
  show phq p (pr p r c X Y X' Y' Z Z') = _
  rw [pr_is k.k.f.fd k.k.pr k.k.odd ha.on ha.z X' Y' Z' c k.k.f.q.k.cb]
  cases Z'
  · cases Z
    · rw [dpr_fr (k.gg.gr hd rfl) ha c, ev_f rfl]
    · have e := ha.on.zr rfl
      rw [e, ev_zl k.gg]
      rfl
  · rw [ev_zr rfl]
    unfold dpr
    rw [if_pos (.inr rfl)]
    rfl
theorem pe_lt (k : Kb s p r c gx gy) [NeZero p] {a d : P3} (ha : Sg p r a) : Lt2 p (pe p r c a d) := by
  obtain ⟨X, Y, Z⟩ := a
  show Lt2 p (pr p r c X Y d.1 d.2.1 Z d.2.2)
  rw [pr_is k.k.f.fd k.k.pr k.k.odd ha.on ha.z d.1 d.2.1 d.2.2 c k.k.f.q.k.cb]
  unfold dpr
  split
  · exact one_lt2 k.k.f.q.k.pr
  · exact po_lt k.k.f.q.k.pr _ _
theorem pe_add (k : Kb s p r c gx gy) [NeZero p] {a b d : P3} (ha : Sg p r a) (hb : Sg p r b) (hd : Sg p r d) : pe p r c (dA p a b) d = pd p (pe p r c a d) (pe p r c b d) := by
  have hs := ha.add k.gg.F hb
  refine phq_inj (pe_lt k hs) (pd_lt k.gg.F.pr _ _) ?_
  rw [phq_pd _ (pe_lt k ha).y, pe_ev k hs hd, pe_ev k ha hd, pe_ev k hb hd, ev_left k.gg ha hb hd]
theorem pe_sym (k : Kb s p r c gx gy) [NeZero p] {a d : P3} (ha : Sg p r a) (hd : Sg p r d) : pe p r c d a = pe p r c a d := by
  refine phq_inj (pe_lt k hd) (pe_lt k ha) ?_
  rw [pe_ev k hd ha, pe_ev k ha hd, ev_sym k.gg k.sq hd ha]
theorem pe_mul (k : Kb s p r c gx gy) [NeZero p] {a d : P3} (ha : Sg p r a) (hd : Sg p r d) (m n : Nat) : pe p r c (dN p a m) (dN p d n) = po p (pe p r c a d) (m * n) := by
  have F := k.gg.F
  refine phq_inj (pe_lt k (ha.mul F m)) (po_lt F.pr _ _) ?_
  rw [phq_po F.pr, pe_ev k (ha.mul F m) (hd.mul F n), pe_ev k ha hd, ev_mul_l k.gg ha (hd.mul F n), ev_mul_r k.gg ha hd, qp_mul, Nat.mul_comm]
theorem pe_r (k : Kb s p r c gx gy) [NeZero p] {a d : P3} (ha : Sg p r a) (hd : Sg p r d) : po p (pe p r c a d) r = (1, 0) := by
  have F := k.gg.F
  refine phq_inj (po_lt F.pr _ _) (one_lt2 F.pr) ?_
  rw [phq_po F.pr, pe_ev k ha hd, ev_whole k.gg hd]
  rfl
theorem pe_triv (k : Kb s p r c gx gy) [NeZero p] {a d : P3} (ha : Sg p r a) (hd : Sg p r d) : pe p r c a d = (1, 0) ↔ a.2.2 = true ∨ d.2.2 = true := by
  have F := k.gg.F
  have hG : Sg p r (gx, gy, false) := ig_Sg k.k k.gi
  have hw : ev p r c (gx, gy, false) (gx, gy, false) ≠ (1, 0) := fun e => k.gn (by
    have := pe_ev k hG hG
    rw [e] at this
    have h := phq_inj (pe_lt k hG) (one_lt2 F.pr) this
    exact h)
  rw [← ev_triv k.gg k.sq hG rfl hw ha hd, ← pe_ev k ha hd]
  exact ⟨fun h => by rw [h]; rfl, fun h => phq_inj (pe_lt k ha) (one_lt2 F.pr) h⟩
end
end Rg
end Go.Proofs.Ytjmbgchoioepjaa
end
section
namespace Go.Proofs.Ytjmbgchoioepjaa
open Go.RowKit
namespace Rg
section
variable {s : Int} {p r c gx gy : Nat}
end
end Rg
end Go.Proofs.Ytjmbgchoioepjaa
end
section
namespace Go.Proofs.Ytjmbgchoioepjaa
open Go.RowKit
namespace Rg
/-- Bytes that can be read: n of them, from o on, in block g. -/
structure Rd (g o n : Nat) (f : Nat → Nat) (w : World) : Prop where
  lt : g < w.heap.size
  at_ : ∀ i, i < n → w.cell? ⟨g, o + i, none⟩ = some (.int .u8 ((f i : Nat) : Int))
theorem Rd.below {g o n : Nat} {f : Nat → Nat} {w w' : World} (h : Rd g o n f w) (hb : Below w.heap.size w w') : Rd g o n f w' :=
  ⟨Nat.lt_of_lt_of_le h.lt hb.size, fun i hi => by rw [hb.cell (p := ⟨g, o + i, none⟩) h.lt]; exact h.at_ i hi⟩
theorem Rd.sub {g o n : Nat} {f : Nat → Nat} {w : World} (h : Rd g o n f w) (a m : Nat) (hm : a + m ≤ n) : Rd g (o + a) m (fun i => f (a + i)) w :=
  ⟨h.lt, fun i hi => by rw [Nat.add_assoc]; exact h.at_ (a + i) (by omega)⟩
section
variable {ρ : Operand → Value} {o : Oper} {x y : Operand} {g off n c k a b : Nat} {f : Nat → Nat} {w : World}
end
section
variable {s : Int} {p r c gx gy : Nat}
end
end Rg
end Go.Proofs.Ytjmbgchoioepjaa
end
section
namespace Go.Proofs.Ytjmbgchoioepjaa
open Go.RowKit
namespace Rg
end Rg
/-- v is a slice whose bytes are xs, with room for c. -/
def BSl (w : World) (xs : List Int) (c : Nat) (v : Value) : Prop :=
  (∃ g o, v = .slice (some ⟨g, o, none⟩) xs.length c ∧ g < w.heap.size ∧ xs.length ≤ c ∧ ∀ i, i < xs.length → w.cell? ⟨g, o + i, none⟩ = some (.int .u8 (xs.getD i 0))) ∨ ∃ p, v = .slice p 0 c ∧ xs = []
theorem BSl.full {w : World} {xs : List Int} {c : Nat} (g o : Nat) (hg : g < w.heap.size) (hc : xs.length ≤ c) (h : ∀ i, i < xs.length → w.cell? ⟨g, o + i, none⟩ = some (.int .u8 (xs.getD i 0))) : BSl w xs c (.slice (some ⟨g, o, none⟩) xs.length c) := .inl ⟨g, o, rfl, hg, hc, h⟩
theorem BSl.void {w : World} {xs : List Int} {c : Nat} (p : Option Addr) (hx : xs = []) : BSl w xs c (.slice p 0 c) := .inr ⟨p, rfl, hx⟩
theorem BSl.each {w : World} {xs : List Int} {c : Nat} {M : (v : Value) → BSl w xs c v → Prop} (full : ∀ (g o : Nat) (hg : g < w.heap.size) (hc : xs.length ≤ c) (h : ∀ i, i < xs.length → w.cell? ⟨g, o + i, none⟩ = some (.int .u8 (xs.getD i 0))), M (.slice (some ⟨g, o, none⟩) xs.length c) (BSl.full g o hg hc h)) (void : ∀ (p : Option Addr) (hx : xs = []), M (.slice p 0 c) (BSl.void p hx)) {v : Value} (h : BSl w xs c v) : M v h := by
  rcases h with ⟨g, o, rfl, hg, hc, h⟩ | ⟨p, rfl, hx⟩
  · exact full g o hg hc h
  · exact void p hx
theorem BSl.below {w w' : World} {xs : List Int} {c : Nat} {v : Value} (h : BSl w xs c v) (hb : Below w.heap.size w w') : BSl w' xs c v := by
  cases h using BSl.each with
  | full g o hg hc h => exact .full g o (Nat.lt_of_lt_of_le hg hb.size) hc (fun i hi => by rw [hb.cell (p := ⟨g, o + i, none⟩) hg]; exact h i hi)
  | void p hx => exact .void p hx
theorem BSl.drew {w : World} {xs : List Int} {c : Nat} {v : Value} (h : BSl w xs c v) : BSl w.drew xs c v := h.below ((Below.refl _ _).drew)
theorem BSl.alloc {w : World} {xs : List Int} {c : Nat} {v : Value} (h : BSl w xs c v) (o : Obj) : BSl (w.alloc o) xs c v := h.below ((Below.refl _ _).alloc (Nat.le_refl _) _)
namespace Rg
/-! Bytes lead back. -/
end Rg
end Go.Proofs.Ytjmbgchoioepjaa
end
section
namespace Go.Proofs.Ytjmbgchoioepjaa
open Go.RowKit
namespace Rg
open NT
section
variable {s : Int} {p r c gx gy : Nat}
/-- A suite in which p + 1 is c times r. -/
structure Kc (s : Int) (p r c gx gy : Nat) : Prop where
  f : Kf s p r c gx gy
  cr : c * r = p + 1
theorem In_is (k : Kd s p r c gx gy) (X Y : Nat) (Z t : Bool) (h : ig p r X Y Z = t) (w : World) : Calls Try.prog 20 #[.int .i64 s, .agg (pt X Y Z).toArray] w fun e w' => e = .returned (.bool t) ∧ Below w.heap.size w w' := by
  rw [← h]
  exact In_ok k X Y Z w
end
end Rg
end Go.Proofs.Ytjmbgchoioepjaa
end
section
namespace Go.Proofs.Ytjmbgchoioepjaa
open Go.RowKit
namespace Rg
open NT
section
variable {s : Int} {p r c gx gy : Nat}
theorem mod_self2 {A : E2} (h : Lt2 p A) : (A.1 % p, A.2 % p) = A := by rw [Nat.mod_eq_of_lt h.x, Nat.mod_eq_of_lt h.y]
theorem Pair_gb (k : Kb s p r c gx gy) [NeZero p] {a d : P3} {za zd : Bool} {ee : E2} (ha : Sg p r a) (hd : Sg p r d) (h1 : a.2.2 = za) (h2 : d.2.2 = zd) (he : pe p r c a d = ee) (w : World) : Calls Try.prog 27 #[.int .i64 s, .agg (pt a.1 a.2.1 za).toArray, .agg (pt d.1 d.2.1 zd).toArray] w fun e w' => e = .returned (.tuple #[V (lc ee), .int .i64 0]) ∧ Below w.heap.size w w' := by
  subst h1 h2 he
  exact Pair_ok k.k.f.q.k _ _ _ _ _ _ (by rw [Sg_ig k.k ha, Sg_ig k.k hd]; rfl) w
theorem Times_gb (k : Kb s p r c gx gy) {A A' : E2} (h : Lt2 p A) (h' : Lt2 p A') (w : World) : Calls Try.prog 28 #[.int .i64 s, .agg (l2 A.1 A.2).toArray, .agg (l2 A'.1 A'.2).toArray] w fun e w' => e = .returned (.tuple #[V (lc (pd p A A')), .int .i64 0]) ∧ Below w.heap.size w w' := by
  have t := Times_ok k.k.f.q.k A A' w
  rw [mod_self2 h, mod_self2 h'] at t
  exact t
theorem Power_gb (k : Kb s p r c gx gy) {A ee : E2} (h : Lt2 p A) {n : Nat} (hn : n < 18446744073709551616) (he : po p A n = ee) (w : World) : Calls Try.prog 29 #[.int .i64 s, .agg (l2 A.1 A.2).toArray, U n] w fun e w' => e = .returned (.tuple #[V (lc ee), .int .i64 0]) ∧ Below w.heap.size w w' := by
  have t := Power_doc k.k A n hn w
  rw [mod_self2 h, he] at t
  exact t
theorem Add_gb (k : Kb s p r c gx gy) [NeZero p] {a b : P3} {za : Bool} (ha : On p a) (hb : On p b) (h1 : a.2.2 = za) (w : World) : Calls Try.prog 14 #[.int .i64 s, .agg (pt a.1 a.2.1 za).toArray, .agg (pt b.1 b.2.1 b.2.2).toArray] w fun e w' => e = .returned (.tuple #[V (pc (dA p a b)), .int .i64 0]) ∧ Below w.heap.size w w' := by
  subst h1
  exact Add_gr k.k.f ha hb rfl w
theorem Mul_gb (k : Kb s p r c gx gy) [NeZero p] {a : P3} {za : Bool} (ha : On p a) (h1 : a.2.2 = za) {n : Nat} (hn : n < 18446744073709551616) (w : World) : Calls Try.prog 15 #[.int .i64 s, .agg (pt a.1 a.2.1 za).toArray, U n] w fun e w' => e = .returned (.tuple #[V (pc (dN p a n)), .int .i64 0]) ∧ Below w.heap.size w w' := by
  subst h1
  exact Mul_gr k.k.f ha hn rfl w
theorem In_gb (k : Kr s p r c gx gy) (a : P3) {za : Bool} (h1 : a.2.2 = za) (t : Bool) (h : ig p r a.1 a.2.1 a.2.2 = t) (w : World) : Calls Try.prog 20 #[.int .i64 s, .agg (pt a.1 a.2.1 za).toArray] w fun e w' => e = .returned (.bool t) ∧ Below w.heap.size w w' := by
  subst h1
  exact In_is k.f.q.k _ _ _ t h w
set_option maxHeartbeats 1000000 in
set_option maxRecDepth 100000 in
theorem bil_f (k : Kr s p r c gx gy) (a b d : P3) (m n : Nat) (ha : ig p r a.1 a.2.1 a.2.2 = false) (w : World) :
    Calls Try.prog 7 #[.int .i64 s, .agg (pt a.1 a.2.1 a.2.2).toArray, .agg (pt b.1 b.2.1 b.2.2).toArray, .agg (pt d.1 d.2.1 d.2.2).toArray, W32 m, W32 n] w fun e w' => e = .returned (.bool true) ∧ Below w.heap.size w w' := by
  have H0 : Hid (_ ∧ _) := ⟨Mm.nil w, Below.refl w.heap.size w⟩
  go_enter Try.func7, Try.ntmps7
  refine wp_seq ?_
  refine walk_seqA 4 [.made (pt a.1 a.2.1 a.2.2) 25, .made (pt b.1 b.2.1 b.2.2) 25, .made (pt d.1 d.2.1 d.2.2) 25, .quiet (.bool false)] (sB H0) ?ho1 ?he1
  case ho1 => exact ak (fun γ => ⟨rfl, fun w' => ex_boxT rfl rfl⟩) (ak (fun γ => ⟨rfl, fun w' => ex_boxT rfl rfl⟩) (ak (fun γ => ⟨rfl, fun w' => ex_boxT rfl rfl⟩) (ak (fun _ => ⟨rfl, fun _ _ => rfl⟩) trivial)))
  intro γ w1 l hM hl
  have H1 : Hid (Mm w1 [(γ 0, pt a.1 a.2.1 a.2.2), (γ 1, pt b.1 b.2.1 b.2.2), (γ 2, pt d.1 d.2.1 d.2.2)] ∧ _) := growB H0 hM (Nat.le_refl _) hl [0, 1, 2] rfl (by decide)
  have o1_0 := ownB H0 hM (Nat.le_refl _) hl (i := 0) rfl
  have o1_1 := ownB H0 hM (Nat.le_refl _) hl (i := 1) rfl
  have o1_2 := ownB H0 hM (Nat.le_refl _) hl (i := 2) rfl
  clear hM hl l
  generalize γ 0 = γ1_0 at H1 o1_0 ⊢
  generalize γ 1 = γ1_1 at H1 o1_1 ⊢
  generalize γ 2 = γ1_2 at H1 o1_2 ⊢
  clear γ
  refine rest0 rfl (then_normal (wp_seq ?_))
  refine walk_seqB 2 [.call (.bool true), .quiet (.bool true)] H1 ?ho2 ?he2
  case ho2 => exact ak (fun γ => ⟨rfl, fun w' h => ⟨41, #[], exec_call rfl call41 rfl (mpn rfl), awake_any w'⟩⟩) (ak (fun _ => ⟨rfl, fun _ _ => rfl⟩) trivial)
  intro _ w2 H2
  clear H1
  refine rest0 rfl (then_normal (wp_seq (wp_seq ?_)))
  refine walk_seqB 16 [.quiet (.int .i64 s), .quiet (.agg (pt a.1 a.2.1 a.2.2).toArray), .call (.bool false), .quiet (.bool true), .quiet (.bool true), .gone, .gone, .gone, .gone, .quiet (.bool true), .quiet (.bool true), .gone, .gone, .gone, .gone, .quiet (.bool true)] H2 ?ho3 ?he3
  case ho3 => exact ak (fun _ => ⟨rfl, fun _ _ => rfl⟩) (ak (fun γ => ⟨rfl, fun w' h => ex_loadT h 0 rfl rfl rfl Try.isAgg25 Try.sizeOf25 rfl rfl⟩) (ak (fun γ => ⟨rfl, fun w' h => ⟨20, #[.int .i64 s, .agg (pt a.1 a.2.1 a.2.2).toArray], exec_call rfl call20 rfl (mpn rfl), In_gb k a rfl _ ha w'⟩⟩) (ak (by refine fun γ => ⟨rfl, fun w' h => ?_⟩; clear h; go_simp) (ak (fun _ => ⟨rfl, fun _ _ => rfl⟩) (ak (fun γ => rfl) (ak (fun γ => rfl) (ak (fun γ => rfl) (ak (fun γ => rfl) (ak (by refine fun γ => ⟨rfl, fun w' h => ?_⟩; clear h; go_simp) (ak (fun _ => ⟨rfl, fun _ _ => rfl⟩) (ak (fun γ => rfl) (ak (fun γ => rfl) (ak (fun γ => rfl) (ak (fun γ => rfl) (ak (by refine fun γ => ⟨rfl, fun w' h => ?_⟩; clear h; go_simp) trivial)))))))))))))))
  intro _ w3 H3
  clear H2
  refine rest0 rfl (then_normal (wp_cond_true rfl (wp_seq ?_)))
  refine walk_seqB 2 [.quiet (.bool true), .quiet (.bool true)] H3 ?ho4 ?he4
  case ho4 => exact ak (fun _ => ⟨rfl, fun _ _ => rfl⟩) (ak (fun _ => ⟨rfl, fun _ _ => rfl⟩) trivial)
  intro _ w4 H4
  clear H3
  refine rest0 rfl (then_normal (wp_ret ?_))
  repeat (first | refine then_ret ?_ | refine block_ret ?_)
  refine bodyPost_ret (v := .bool true) (by simp [results, Try.results7, go_sem, *]) rfl ?_
  exact ⟨rfl, H4.out.2⟩
set_option maxHeartbeats 1000000 in
set_option maxRecDepth 100000 in
theorem bil_tf (k : Kr s p r c gx gy) (a b d : P3) (m n : Nat) (ha : ig p r a.1 a.2.1 a.2.2 = true) (hb : ig p r b.1 b.2.1 b.2.2 = false) (w : World) :
    Calls Try.prog 7 #[.int .i64 s, .agg (pt a.1 a.2.1 a.2.2).toArray, .agg (pt b.1 b.2.1 b.2.2).toArray, .agg (pt d.1 d.2.1 d.2.2).toArray, W32 m, W32 n] w fun e w' => e = .returned (.bool true) ∧ Below w.heap.size w w' := by
  have H0 : Hid (_ ∧ _) := ⟨Mm.nil w, Below.refl w.heap.size w⟩
  go_enter Try.func7, Try.ntmps7
  refine wp_seq ?_
  refine walk_seqA 4 [.made (pt a.1 a.2.1 a.2.2) 25, .made (pt b.1 b.2.1 b.2.2) 25, .made (pt d.1 d.2.1 d.2.2) 25, .quiet (.bool false)] (sB H0) ?ho1 ?he1
  case ho1 => exact ak (fun γ => ⟨rfl, fun w' => ex_boxT rfl rfl⟩) (ak (fun γ => ⟨rfl, fun w' => ex_boxT rfl rfl⟩) (ak (fun γ => ⟨rfl, fun w' => ex_boxT rfl rfl⟩) (ak (fun _ => ⟨rfl, fun _ _ => rfl⟩) trivial)))
  intro γ w1 l hM hl
  have H1 : Hid (Mm w1 [(γ 0, pt a.1 a.2.1 a.2.2), (γ 1, pt b.1 b.2.1 b.2.2), (γ 2, pt d.1 d.2.1 d.2.2)] ∧ _) := growB H0 hM (Nat.le_refl _) hl [0, 1, 2] rfl (by decide)
  have o1_0 := ownB H0 hM (Nat.le_refl _) hl (i := 0) rfl
  have o1_1 := ownB H0 hM (Nat.le_refl _) hl (i := 1) rfl
  have o1_2 := ownB H0 hM (Nat.le_refl _) hl (i := 2) rfl
  clear hM hl l
  generalize γ 0 = γ1_0 at H1 o1_0 ⊢
  generalize γ 1 = γ1_1 at H1 o1_1 ⊢
  generalize γ 2 = γ1_2 at H1 o1_2 ⊢
  clear γ
  refine rest0 rfl (then_normal (wp_seq ?_))
  refine walk_seqB 2 [.call (.bool true), .quiet (.bool true)] H1 ?ho2 ?he2
  case ho2 => exact ak (fun γ => ⟨rfl, fun w' h => ⟨41, #[], exec_call rfl call41 rfl (mpn rfl), awake_any w'⟩⟩) (ak (fun _ => ⟨rfl, fun _ _ => rfl⟩) trivial)
  intro _ w2 H2
  clear H1
  refine rest0 rfl (then_normal (wp_seq (wp_seq ?_)))
  refine walk_seqB 16 [.quiet (.int .i64 s), .quiet (.agg (pt a.1 a.2.1 a.2.2).toArray), .call (.bool true), .quiet (.bool false), .quiet (.bool false), .quiet (.int .i64 s), .quiet (.agg (pt b.1 b.2.1 b.2.2).toArray), .call (.bool false), .quiet (.bool true), .quiet (.bool true), .quiet (.bool true), .gone, .gone, .gone, .gone, .quiet (.bool true)] H2 ?ho3 ?he3
  case ho3 => exact ak (fun _ => ⟨rfl, fun _ _ => rfl⟩) (ak (fun γ => ⟨rfl, fun w' h => ex_loadT h 0 rfl rfl rfl Try.isAgg25 Try.sizeOf25 rfl rfl⟩) (ak (fun γ => ⟨rfl, fun w' h => ⟨20, #[.int .i64 s, .agg (pt a.1 a.2.1 a.2.2).toArray], exec_call rfl call20 rfl (mpn rfl), In_gb k a rfl _ ha w'⟩⟩) (ak (by refine fun γ => ⟨rfl, fun w' h => ?_⟩; clear h; go_simp) (ak (fun _ => ⟨rfl, fun _ _ => rfl⟩) (ak (fun _ => ⟨rfl, fun _ _ => rfl⟩) (ak (fun γ => ⟨rfl, fun w' h => ex_loadT h 1 rfl rfl rfl Try.isAgg25 Try.sizeOf25 rfl rfl⟩) (ak (fun γ => ⟨rfl, fun w' h => ⟨20, #[.int .i64 s, .agg (pt b.1 b.2.1 b.2.2).toArray], exec_call rfl call20 rfl (mpn rfl), In_gb k b rfl _ hb w'⟩⟩) (ak (by refine fun γ => ⟨rfl, fun w' h => ?_⟩; clear h; go_simp) (ak (by refine fun γ => ⟨rfl, fun w' h => ?_⟩; clear h; go_simp) (ak (fun _ => ⟨rfl, fun _ _ => rfl⟩) (ak (fun γ => rfl) (ak (fun γ => rfl) (ak (fun γ => rfl) (ak (fun γ => rfl) (ak (by refine fun γ => ⟨rfl, fun w' h => ?_⟩; clear h; go_simp) trivial)))))))))))))))
  intro _ w3 H3
  clear H2
  refine rest0 rfl (then_normal (wp_cond_true rfl (wp_seq ?_)))
  refine walk_seqB 2 [.quiet (.bool true), .quiet (.bool true)] H3 ?ho4 ?he4
  case ho4 => exact ak (fun _ => ⟨rfl, fun _ _ => rfl⟩) (ak (fun _ => ⟨rfl, fun _ _ => rfl⟩) trivial)
  intro _ w4 H4
  clear H3
  refine rest0 rfl (then_normal (wp_ret ?_))
  repeat (first | refine then_ret ?_ | refine block_ret ?_)
  refine bodyPost_ret (v := .bool true) (by simp [results, Try.results7, go_sem, *]) rfl ?_
  exact ⟨rfl, H4.out.2⟩
set_option maxHeartbeats 1000000 in
set_option maxRecDepth 100000 in
theorem bil_ttf (k : Kr s p r c gx gy) (a b d : P3) (m n : Nat) (ha : ig p r a.1 a.2.1 a.2.2 = true) (hb : ig p r b.1 b.2.1 b.2.2 = true) (hd : ig p r d.1 d.2.1 d.2.2 = false) (w : World) :
    Calls Try.prog 7 #[.int .i64 s, .agg (pt a.1 a.2.1 a.2.2).toArray, .agg (pt b.1 b.2.1 b.2.2).toArray, .agg (pt d.1 d.2.1 d.2.2).toArray, W32 m, W32 n] w fun e w' => e = .returned (.bool true) ∧ Below w.heap.size w w' := by
  have H0 : Hid (_ ∧ _) := ⟨Mm.nil w, Below.refl w.heap.size w⟩
  go_enter Try.func7, Try.ntmps7
  refine wp_seq ?_
  refine walk_seqA 4 [.made (pt a.1 a.2.1 a.2.2) 25, .made (pt b.1 b.2.1 b.2.2) 25, .made (pt d.1 d.2.1 d.2.2) 25, .quiet (.bool false)] (sB H0) ?ho1 ?he1
  case ho1 => exact ak (fun γ => ⟨rfl, fun w' => ex_boxT rfl rfl⟩) (ak (fun γ => ⟨rfl, fun w' => ex_boxT rfl rfl⟩) (ak (fun γ => ⟨rfl, fun w' => ex_boxT rfl rfl⟩) (ak (fun _ => ⟨rfl, fun _ _ => rfl⟩) trivial)))
  intro γ w1 l hM hl
  have H1 : Hid (Mm w1 [(γ 0, pt a.1 a.2.1 a.2.2), (γ 1, pt b.1 b.2.1 b.2.2), (γ 2, pt d.1 d.2.1 d.2.2)] ∧ _) := growB H0 hM (Nat.le_refl _) hl [0, 1, 2] rfl (by decide)
  have o1_0 := ownB H0 hM (Nat.le_refl _) hl (i := 0) rfl
  have o1_1 := ownB H0 hM (Nat.le_refl _) hl (i := 1) rfl
  have o1_2 := ownB H0 hM (Nat.le_refl _) hl (i := 2) rfl
  clear hM hl l
  generalize γ 0 = γ1_0 at H1 o1_0 ⊢
  generalize γ 1 = γ1_1 at H1 o1_1 ⊢
  generalize γ 2 = γ1_2 at H1 o1_2 ⊢
  clear γ
  refine rest0 rfl (then_normal (wp_seq ?_))
  refine walk_seqB 2 [.call (.bool true), .quiet (.bool true)] H1 ?ho2 ?he2
  case ho2 => exact ak (fun γ => ⟨rfl, fun w' h => ⟨41, #[], exec_call rfl call41 rfl (mpn rfl), awake_any w'⟩⟩) (ak (fun _ => ⟨rfl, fun _ _ => rfl⟩) trivial)
  intro _ w2 H2
  clear H1
  refine rest0 rfl (then_normal (wp_seq (wp_seq ?_)))
  refine walk_seqB 16 [.quiet (.int .i64 s), .quiet (.agg (pt a.1 a.2.1 a.2.2).toArray), .call (.bool true), .quiet (.bool false), .quiet (.bool false), .quiet (.int .i64 s), .quiet (.agg (pt b.1 b.2.1 b.2.2).toArray), .call (.bool true), .quiet (.bool false), .quiet (.bool false), .quiet (.bool false), .quiet (.int .i64 s), .quiet (.agg (pt d.1 d.2.1 d.2.2).toArray), .call (.bool false), .quiet (.bool true), .quiet (.bool true)] H2 ?ho3 ?he3
  case ho3 => exact ak (fun _ => ⟨rfl, fun _ _ => rfl⟩) (ak (fun γ => ⟨rfl, fun w' h => ex_loadT h 0 rfl rfl rfl Try.isAgg25 Try.sizeOf25 rfl rfl⟩) (ak (fun γ => ⟨rfl, fun w' h => ⟨20, #[.int .i64 s, .agg (pt a.1 a.2.1 a.2.2).toArray], exec_call rfl call20 rfl (mpn rfl), In_gb k a rfl _ ha w'⟩⟩) (ak (by refine fun γ => ⟨rfl, fun w' h => ?_⟩; clear h; go_simp) (ak (fun _ => ⟨rfl, fun _ _ => rfl⟩) (ak (fun _ => ⟨rfl, fun _ _ => rfl⟩) (ak (fun γ => ⟨rfl, fun w' h => ex_loadT h 1 rfl rfl rfl Try.isAgg25 Try.sizeOf25 rfl rfl⟩) (ak (fun γ => ⟨rfl, fun w' h => ⟨20, #[.int .i64 s, .agg (pt b.1 b.2.1 b.2.2).toArray], exec_call rfl call20 rfl (mpn rfl), In_gb k b rfl _ hb w'⟩⟩) (ak (by refine fun γ => ⟨rfl, fun w' h => ?_⟩; clear h; go_simp) (ak (by refine fun γ => ⟨rfl, fun w' h => ?_⟩; clear h; go_simp) (ak (fun _ => ⟨rfl, fun _ _ => rfl⟩) (ak (fun _ => ⟨rfl, fun _ _ => rfl⟩) (ak (fun γ => ⟨rfl, fun w' h => ex_loadT h 2 rfl rfl rfl Try.isAgg25 Try.sizeOf25 rfl rfl⟩) (ak (fun γ => ⟨rfl, fun w' h => ⟨20, #[.int .i64 s, .agg (pt d.1 d.2.1 d.2.2).toArray], exec_call rfl call20 rfl (mpn rfl), In_gb k d rfl _ hd w'⟩⟩) (ak (by refine fun γ => ⟨rfl, fun w' h => ?_⟩; clear h; go_simp) (ak (by refine fun γ => ⟨rfl, fun w' h => ?_⟩; clear h; go_simp) trivial)))))))))))))))
  intro _ w3 H3
  clear H2
  refine rest0 rfl (then_normal (wp_cond_true rfl (wp_seq ?_)))
  refine walk_seqB 2 [.quiet (.bool true), .quiet (.bool true)] H3 ?ho4 ?he4
  case ho4 => exact ak (fun _ => ⟨rfl, fun _ _ => rfl⟩) (ak (fun _ => ⟨rfl, fun _ _ => rfl⟩) trivial)
  intro _ w4 H4
  clear H3
  refine rest0 rfl (then_normal (wp_ret ?_))
  repeat (first | refine then_ret ?_ | refine block_ret ?_)
  refine bodyPost_ret (v := .bool true) (by simp [results, Try.results7, go_sem, *]) rfl ?_
  exact ⟨rfl, H4.out.2⟩
set_option maxHeartbeats 1000000 in
set_option maxRecDepth 100000 in
theorem bil_no (s : Int) (h1 : s ≠ 1) (h2 : s ≠ 2) (a b d : P3) (m n : Nat) (w : World) :
    Calls Try.prog 7 #[.int .i64 s, .agg (pt a.1 a.2.1 a.2.2).toArray, .agg (pt b.1 b.2.1 b.2.2).toArray, .agg (pt d.1 d.2.1 d.2.2).toArray, W32 m, W32 n] w fun e w' => e = .returned (.bool true) ∧ Below w.heap.size w w' := by
  have H0 : Hid (_ ∧ _) := ⟨Mm.nil w, Below.refl w.heap.size w⟩
  go_enter Try.func7, Try.ntmps7
  refine wp_seq ?_
  refine walk_seqA 4 [.made (pt a.1 a.2.1 a.2.2) 25, .made (pt b.1 b.2.1 b.2.2) 25, .made (pt d.1 d.2.1 d.2.2) 25, .quiet (.bool false)] (sB H0) ?ho1 ?he1
  case ho1 => exact ak (fun γ => ⟨rfl, fun w' => ex_boxT rfl rfl⟩) (ak (fun γ => ⟨rfl, fun w' => ex_boxT rfl rfl⟩) (ak (fun γ => ⟨rfl, fun w' => ex_boxT rfl rfl⟩) (ak (fun _ => ⟨rfl, fun _ _ => rfl⟩) trivial)))
  intro γ w1 l hM hl
  have H1 : Hid (Mm w1 [(γ 0, pt a.1 a.2.1 a.2.2), (γ 1, pt b.1 b.2.1 b.2.2), (γ 2, pt d.1 d.2.1 d.2.2)] ∧ _) := growB H0 hM (Nat.le_refl _) hl [0, 1, 2] rfl (by decide)
  have o1_0 := ownB H0 hM (Nat.le_refl _) hl (i := 0) rfl
  have o1_1 := ownB H0 hM (Nat.le_refl _) hl (i := 1) rfl
  have o1_2 := ownB H0 hM (Nat.le_refl _) hl (i := 2) rfl
  clear hM hl l
  generalize γ 0 = γ1_0 at H1 o1_0 ⊢
  generalize γ 1 = γ1_1 at H1 o1_1 ⊢
  generalize γ 2 = γ1_2 at H1 o1_2 ⊢
  clear γ
  refine rest0 rfl (then_normal (wp_seq ?_))
  refine walk_seqB 2 [.call (.bool true), .quiet (.bool true)] H1 ?ho2 ?he2
  case ho2 => exact ak (fun γ => ⟨rfl, fun w' h => ⟨41, #[], exec_call rfl call41 rfl (mpn rfl), awake_any w'⟩⟩) (ak (fun _ => ⟨rfl, fun _ _ => rfl⟩) trivial)
  intro _ w2 H2
  clear H1
  refine rest0 rfl (then_normal (wp_seq (wp_seq ?_)))
  refine walk_seqB 16 [.quiet (.int .i64 s), .quiet (.agg (pt a.1 a.2.1 a.2.2).toArray), .call (.bool false), .quiet (.bool true), .quiet (.bool true), .gone, .gone, .gone, .gone, .quiet (.bool true), .quiet (.bool true), .gone, .gone, .gone, .gone, .quiet (.bool true)] H2 ?ho3 ?he3
  case ho3 => exact ak (fun _ => ⟨rfl, fun _ _ => rfl⟩) (ak (fun γ => ⟨rfl, fun w' h => ex_loadT h 0 rfl rfl rfl Try.isAgg25 Try.sizeOf25 rfl rfl⟩) (ak (fun γ => ⟨rfl, fun w' h => ⟨20, #[.int .i64 s, .agg (pt a.1 a.2.1 a.2.2).toArray], exec_call rfl call20 rfl (mpn rfl), In_no s h1 h2 _ _ _ w'⟩⟩) (ak (by refine fun γ => ⟨rfl, fun w' h => ?_⟩; clear h; go_simp) (ak (fun _ => ⟨rfl, fun _ _ => rfl⟩) (ak (fun γ => rfl) (ak (fun γ => rfl) (ak (fun γ => rfl) (ak (fun γ => rfl) (ak (by refine fun γ => ⟨rfl, fun w' h => ?_⟩; clear h; go_simp) (ak (fun _ => ⟨rfl, fun _ _ => rfl⟩) (ak (fun γ => rfl) (ak (fun γ => rfl) (ak (fun γ => rfl) (ak (fun γ => rfl) (ak (by refine fun γ => ⟨rfl, fun w' h => ?_⟩; clear h; go_simp) trivial)))))))))))))))
  intro _ w3 H3
  clear H2
  refine rest0 rfl (then_normal (wp_cond_true rfl (wp_seq ?_)))
  refine walk_seqB 2 [.quiet (.bool true), .quiet (.bool true)] H3 ?ho4 ?he4
  case ho4 => exact ak (fun _ => ⟨rfl, fun _ _ => rfl⟩) (ak (fun _ => ⟨rfl, fun _ _ => rfl⟩) trivial)
  intro _ w4 H4
  clear H3
  refine rest0 rfl (then_normal (wp_ret ?_))
  repeat (first | refine then_ret ?_ | refine block_ret ?_)
  refine bodyPost_ret (v := .bool true) (by simp [results, Try.results7, go_sem, *]) rfl ?_
  exact ⟨rfl, H4.out.2⟩
end
end Rg
end Go.Proofs.Ytjmbgchoioepjaa
end
section
namespace Go.Proofs.Ytjmbgchoioepjaa
open Go.RowKit
namespace Rg
open NT
theorem eq_triv {u v : Nat} (t : Bool) (h : decide ((u, v) = ((1, 0) : E2)) = t) (w : World) : (Op.equalIn 10000 49 (V (l2 u v)) (V (l2 1 0))).run Try.prog w = .ok t w := by
  rw [run_eqL, ← h]
  refine congrArg (fun t => Result.ok t w) ?_
  by_cases h1 : u = 1 <;> by_cases h2 : v = 0 <;> simp [h1, h2]
set_option maxHeartbeats 4000000 in
set_option maxRecDepth 100000 in
theorem bil_ff (s : Int) (x1 y1 x2 y2 : Nat) (z2 : Bool) (x3 y3 x4 y4 : Nat) (z4 : Bool) (x5 y5 : Nat) (z5 : Bool) (x6 y6 : Nat) (z6 : Bool) (u1 v1 u2 v2 u3 v3 u4 v4 r m n : Nat) (hm : m < 4294967296) (hn : n < 4294967296) (ht : decide ((u1, v1) = ((1, 0) : E2)) = false)
    (c0 : ∀ w, Calls Try.prog 41 #[] w fun e w' => e = .returned (.bool true) ∧ Below w.heap.size w w')
    (c1 : ∀ w, Calls Try.prog 20 #[.int .i64 s, .agg (pt x1 y1 false).toArray] w fun e w' => e = .returned (.bool true) ∧ Below w.heap.size w w')
    (c2 : ∀ w, Calls Try.prog 20 #[.int .i64 s, .agg (pt x2 y2 z2).toArray] w fun e w' => e = .returned (.bool true) ∧ Below w.heap.size w w')
    (c3 : ∀ w, Calls Try.prog 20 #[.int .i64 s, .agg (pt x3 y3 false).toArray] w fun e w' => e = .returned (.bool true) ∧ Below w.heap.size w w')
    (c4 : ∀ w, Calls Try.prog 14 #[.int .i64 s, .agg (pt x1 y1 false).toArray, .agg (pt x2 y2 z2).toArray] w fun e w' => e = .returned (.tuple #[.agg (pt x4 y4 z4).toArray, .int .i64 0]) ∧ Below w.heap.size w w')
    (c5 : ∀ w, Calls Try.prog 27 #[.int .i64 s, .agg (pt x1 y1 false).toArray, .agg (pt x3 y3 false).toArray] w fun e w' => e = .returned (.tuple #[.agg (l2 u1 v1).toArray, .int .i64 0]) ∧ Below w.heap.size w w')
    (c6 : ∀ w, Calls Try.prog 27 #[.int .i64 s, .agg (pt x2 y2 z2).toArray, .agg (pt x3 y3 false).toArray] w fun e w' => e = .returned (.tuple #[.agg (l2 u2 v2).toArray, .int .i64 0]) ∧ Below w.heap.size w w')
    (c7 : ∀ w, Calls Try.prog 27 #[.int .i64 s, .agg (pt x4 y4 z4).toArray, .agg (pt x3 y3 false).toArray] w fun e w' => e = .returned (.tuple #[.agg (l2 u3 v3).toArray, .int .i64 0]) ∧ Below w.heap.size w w')
    (c8 : ∀ w, Calls Try.prog 27 #[.int .i64 s, .agg (pt x3 y3 false).toArray, .agg (pt x1 y1 false).toArray] w fun e w' => e = .returned (.tuple #[.agg (l2 u1 v1).toArray, .int .i64 0]) ∧ Below w.heap.size w w')
    (c9 : ∀ w, Calls Try.prog 27 #[.int .i64 s, .agg (pt x5 y5 z5).toArray, .agg (pt x6 y6 z6).toArray] w fun e w' => e = .returned (.tuple #[.agg (l2 u4 v4).toArray, .int .i64 0]) ∧ Below w.heap.size w w')
    (c10 : ∀ w, Calls Try.prog 28 #[.int .i64 s, .agg (l2 u1 v1).toArray, .agg (l2 u2 v2).toArray] w fun e w' => e = .returned (.tuple #[.agg (l2 u3 v3).toArray, .int .i64 0]) ∧ Below w.heap.size w w')
    (c11 : ∀ w, Calls Try.prog 15 #[.int .i64 s, .agg (pt x1 y1 false).toArray, U m] w fun e w' => e = .returned (.tuple #[.agg (pt x5 y5 z5).toArray, .int .i64 0]) ∧ Below w.heap.size w w')
    (c12 : ∀ w, Calls Try.prog 15 #[.int .i64 s, .agg (pt x3 y3 false).toArray, U n] w fun e w' => e = .returned (.tuple #[.agg (pt x6 y6 z6).toArray, .int .i64 0]) ∧ Below w.heap.size w w')
    (c13 : ∀ w, Calls Try.prog 12 #[.int .i64 s] w fun e w' => e = .returned (.tuple #[U r, .int .i64 0]) ∧ Below w.heap.size w w')
    (c14 : ∀ w, Calls Try.prog 29 #[.int .i64 s, .agg (l2 u1 v1).toArray, U (m * n)] w fun e w' => e = .returned (.tuple #[.agg (l2 u4 v4).toArray, .int .i64 0]) ∧ Below w.heap.size w w')
    (c15 : ∀ w, Calls Try.prog 29 #[.int .i64 s, .agg (l2 u1 v1).toArray, U r] w fun e w' => e = .returned (.tuple #[.agg (l2 1 0).toArray, .int .i64 0]) ∧ Below w.heap.size w w') (w : World) :
    Calls Try.prog 7 #[.int .i64 s, .agg (pt x1 y1 false).toArray, .agg (pt x2 y2 z2).toArray, .agg (pt x3 y3 false).toArray, W32 m, W32 n] w fun e w' => e = .returned (.bool true) ∧ Below w.heap.size w w' := by
  have H0 : Hid (_ ∧ _) := ⟨Mm.nil w, Below.refl w.heap.size w⟩
  have C0 : Hid _ := c0
  have C1 : Hid _ := c1
  have C2 : Hid _ := c2
  have C3 : Hid _ := c3
  have C4 : Hid _ := c4
  have C5 : Hid _ := c5
  have C6 : Hid _ := c6
  have C7 : Hid _ := c7
  have C8 : Hid _ := c8
  have C9 : Hid _ := c9
  have C10 : Hid _ := c10
  have C11 : Hid _ := c11
  have C12 : Hid _ := c12
  have C13 : Hid _ := c13
  have C14 : Hid _ := c14
  have C15 : Hid _ := c15
  clear c0 c1 c2 c3 c4 c5 c6 c7 c8 c9 c10 c11 c12 c13 c14 c15
  go_enter Try.func7, Try.ntmps7
  refine wp_seq ?_
  refine walk_seqA 4 [.made (pt x1 y1 false) 25, .made (pt x2 y2 z2) 25, .made (pt x3 y3 false) 25, .quiet (.bool false)] (sB H0) ?ho1 ?he1
  case ho1 => exact ak (fun γ => ⟨rfl, fun w' => ex_boxT rfl rfl⟩) (ak (fun γ => ⟨rfl, fun w' => ex_boxT rfl rfl⟩) (ak (fun γ => ⟨rfl, fun w' => ex_boxT rfl rfl⟩) (ak (fun _ => ⟨rfl, fun _ _ => rfl⟩) trivial)))
  intro γ w1 l hM hl
  have H1 : Hid (Mm w1 [(γ 0, pt x1 y1 false), (γ 1, pt x2 y2 z2), (γ 2, pt x3 y3 false)] ∧ _) := growB H0 hM (Nat.le_refl _) hl [0, 1, 2] rfl (by decide)
  have o1_0 := ownB H0 hM (Nat.le_refl _) hl (i := 0) rfl
  have o1_1 := ownB H0 hM (Nat.le_refl _) hl (i := 1) rfl
  have o1_2 := ownB H0 hM (Nat.le_refl _) hl (i := 2) rfl
  clear hM hl l
  generalize γ 0 = γ1_0 at H1 o1_0 ⊢
  generalize γ 1 = γ1_1 at H1 o1_1 ⊢
  generalize γ 2 = γ1_2 at H1 o1_2 ⊢
  clear γ
  refine rest0 rfl (then_normal (wp_seq ?_))
  refine walk_seqB 2 [.call (.bool true), .quiet (.bool true)] H1 ?ho2 ?he2
  case ho2 => exact ak (fun γ => ⟨rfl, fun w' h => ⟨41, #[], exec_call rfl call41 rfl (mpn rfl), C0.out w'⟩⟩) (ak (fun _ => ⟨rfl, fun _ _ => rfl⟩) trivial)
  intro _ w2 H2
  clear H1
  refine rest0 rfl (then_normal (wp_seq (wp_seq ?_)))
  refine walk_seqB 16 [.quiet (.int .i64 s), .quiet (.agg (pt x1 y1 false).toArray), .call (.bool true), .quiet (.bool false), .quiet (.bool false), .quiet (.int .i64 s), .quiet (.agg (pt x2 y2 z2).toArray), .call (.bool true), .quiet (.bool false), .quiet (.bool false), .quiet (.bool false), .quiet (.int .i64 s), .quiet (.agg (pt x3 y3 false).toArray), .call (.bool true), .quiet (.bool false), .quiet (.bool false)] H2 ?ho3 ?he3
  case ho3 => exact ak (fun _ => ⟨rfl, fun _ _ => rfl⟩) (ak (fun γ => ⟨rfl, fun w' h => ex_loadT h 0 rfl rfl rfl Try.isAgg25 Try.sizeOf25 rfl rfl⟩) (ak (fun γ => ⟨rfl, fun w' h => ⟨20, #[.int .i64 s, .agg (pt x1 y1 false).toArray], exec_call rfl call20 rfl (mpn rfl), C1.out w'⟩⟩) (ak (by refine fun γ => ⟨rfl, fun w' h => ?_⟩; clear h; go_simp) (ak (fun _ => ⟨rfl, fun _ _ => rfl⟩) (ak (fun _ => ⟨rfl, fun _ _ => rfl⟩) (ak (fun γ => ⟨rfl, fun w' h => ex_loadT h 1 rfl rfl rfl Try.isAgg25 Try.sizeOf25 rfl rfl⟩) (ak (fun γ => ⟨rfl, fun w' h => ⟨20, #[.int .i64 s, .agg (pt x2 y2 z2).toArray], exec_call rfl call20 rfl (mpn rfl), C2.out w'⟩⟩) (ak (by refine fun γ => ⟨rfl, fun w' h => ?_⟩; clear h; go_simp) (ak (by refine fun γ => ⟨rfl, fun w' h => ?_⟩; clear h; go_simp) (ak (fun _ => ⟨rfl, fun _ _ => rfl⟩) (ak (fun _ => ⟨rfl, fun _ _ => rfl⟩) (ak (fun γ => ⟨rfl, fun w' h => ex_loadT h 2 rfl rfl rfl Try.isAgg25 Try.sizeOf25 rfl rfl⟩) (ak (fun γ => ⟨rfl, fun w' h => ⟨20, #[.int .i64 s, .agg (pt x3 y3 false).toArray], exec_call rfl call20 rfl (mpn rfl), C3.out w'⟩⟩) (ak (by refine fun γ => ⟨rfl, fun w' h => ?_⟩; clear h; go_simp) (ak (by refine fun γ => ⟨rfl, fun w' h => ?_⟩; clear h; go_simp) trivial)))))))))))))))
  intro _ w3 H3
  clear H2
  refine rest0 rfl (then_normal (wp_cond_false rfl ?_))
  refine wp_skip (then_normal (wp_seq ?_))
  refine walk_seqA 10 [.quiet (.int .i64 s), .quiet (.agg (pt x1 y1 false).toArray), .quiet (.agg (pt x2 y2 z2).toArray), .call (.tuple #[.agg (pt x4 y4 z4).toArray, .int .i64 0]), .quiet (.tuple #[.agg (pt x4 y4 z4).toArray, .int .i64 0]), .quiet (.agg (pt x4 y4 z4).toArray), .quiet (.int .i64 0), .made (pt 0 0 false) 25, .laid 7 (pt 0 0 false) (pt x4 y4 z4), .quiet (.int .i64 0)] (sB H3) ?ho4 ?he4 (hL := ?hL4)
  case hL4 => exact ⟨⟨_, rfl⟩, trivial⟩
  case ho4 => exact ak (fun _ => ⟨rfl, fun _ _ => rfl⟩) (ak (fun γ => ⟨rfl, fun w' h => ex_loadT h 0 rfl rfl rfl Try.isAgg25 Try.sizeOf25 rfl rfl⟩) (ak (fun γ => ⟨rfl, fun w' h => ex_loadT h 1 rfl rfl rfl Try.isAgg25 Try.sizeOf25 rfl rfl⟩) (ak (fun γ => ⟨rfl, fun w' h => ⟨14, #[.int .i64 s, .agg (pt x1 y1 false).toArray, .agg (pt x2 y2 z2).toArray], exec_call rfl call14 rfl (mpn rfl), C4.out w'⟩⟩) (ak (fun _ => ⟨rfl, fun _ _ => rfl⟩) (ak (by refine fun γ => ⟨rfl, fun w' h => ?_⟩; clear h; go_simp) (ak (by refine fun γ => ⟨rfl, fun w' h => ?_⟩; clear h; go_simp) (ak (fun γ => ⟨rfl, fun w' => ex_made25 rfl⟩) (ak (fun γ => ⟨rfl, rfl, rfl, fun w' h => ex_laidT h rfl rfl Try.sizeOf25 rfl rfl rfl⟩) (ak (fun _ => ⟨rfl, fun _ _ => rfl⟩) trivial)))))))))
  intro γ w4 l hM hl
  have H4 : Hid (Mm w4 [(γ 7, pt x4 y4 z4), (γ1_0, pt x1 y1 false), (γ1_1, pt x2 y2 z2), (γ1_2, pt x3 y3 false)] ∧ _) := growB H3 hM (Nat.le_refl _) hl [7] rfl (by decide)
  have o4_7 := ownB H3 hM (Nat.le_refl _) hl (i := 7) rfl
  clear hM hl l H3
  generalize γ 7 = γ4_7 at H4 o4_7 ⊢
  clear γ
  refine rest0 rfl (then_normal (wp_seq ?_))
  refine walk_seqA 10 [.quiet (.int .i64 s), .quiet (.agg (pt x1 y1 false).toArray), .quiet (.agg (pt x3 y3 false).toArray), .call (.tuple #[.agg (l2 u1 v1).toArray, .int .i64 0]), .quiet (.tuple #[.agg (l2 u1 v1).toArray, .int .i64 0]), .quiet (.agg (l2 u1 v1).toArray), .quiet (.int .i64 0), .made (l2 0 0) 49, .laid 7 (l2 0 0) (l2 u1 v1), .quiet (.int .i64 0)] (sB H4) ?ho5 ?he5 (hL := ?hL5)
  case hL5 => exact ⟨⟨_, rfl⟩, trivial⟩
  case ho5 => exact ak (fun _ => ⟨rfl, fun _ _ => rfl⟩) (ak (fun γ => ⟨rfl, fun w' h => ex_loadT h 1 rfl rfl rfl Try.isAgg25 Try.sizeOf25 rfl rfl⟩) (ak (fun γ => ⟨rfl, fun w' h => ex_loadT h 3 rfl rfl rfl Try.isAgg25 Try.sizeOf25 rfl rfl⟩) (ak (fun γ => ⟨rfl, fun w' h => ⟨27, #[.int .i64 s, .agg (pt x1 y1 false).toArray, .agg (pt x3 y3 false).toArray], exec_call rfl call27 rfl (mpn rfl), C5.out w'⟩⟩) (ak (fun _ => ⟨rfl, fun _ _ => rfl⟩) (ak (by refine fun γ => ⟨rfl, fun w' h => ?_⟩; clear h; go_simp) (ak (by refine fun γ => ⟨rfl, fun w' h => ?_⟩; clear h; go_simp) (ak (fun γ => ⟨rfl, fun w' => ex_made49 rfl⟩) (ak (fun γ => ⟨rfl, rfl, rfl, fun w' h => ex_laidT h rfl rfl Try.sizeOf49 rfl rfl rfl⟩) (ak (fun _ => ⟨rfl, fun _ _ => rfl⟩) trivial)))))))))
  intro γ w5 l hM hl
  have H5 : Hid (Mm w5 [(γ 7, l2 u1 v1), (γ4_7, pt x4 y4 z4), (γ1_0, pt x1 y1 false), (γ1_1, pt x2 y2 z2), (γ1_2, pt x3 y3 false)] ∧ _) := growB H4 hM (Nat.le_refl _) hl [7] rfl (by decide)
  have o5_7 := ownB H4 hM (Nat.le_refl _) hl (i := 7) rfl
  clear hM hl l H4
  generalize γ 7 = γ5_7 at H5 o5_7 ⊢
  clear γ
  refine rest0 rfl (then_normal (wp_seq ?_))
  refine walk_seqA 10 [.quiet (.int .i64 s), .quiet (.agg (pt x2 y2 z2).toArray), .quiet (.agg (pt x3 y3 false).toArray), .call (.tuple #[.agg (l2 u2 v2).toArray, .int .i64 0]), .quiet (.tuple #[.agg (l2 u2 v2).toArray, .int .i64 0]), .quiet (.agg (l2 u2 v2).toArray), .quiet (.int .i64 0), .made (l2 0 0) 49, .laid 7 (l2 0 0) (l2 u2 v2), .quiet (.int .i64 0)] (sB H5) ?ho6 ?he6 (hL := ?hL6)
  case hL6 => exact ⟨⟨_, rfl⟩, trivial⟩
  case ho6 => exact ak (fun _ => ⟨rfl, fun _ _ => rfl⟩) (ak (fun γ => ⟨rfl, fun w' h => ex_loadT h 3 rfl rfl rfl Try.isAgg25 Try.sizeOf25 rfl rfl⟩) (ak (fun γ => ⟨rfl, fun w' h => ex_loadT h 4 rfl rfl rfl Try.isAgg25 Try.sizeOf25 rfl rfl⟩) (ak (fun γ => ⟨rfl, fun w' h => ⟨27, #[.int .i64 s, .agg (pt x2 y2 z2).toArray, .agg (pt x3 y3 false).toArray], exec_call rfl call27 rfl (mpn rfl), C6.out w'⟩⟩) (ak (fun _ => ⟨rfl, fun _ _ => rfl⟩) (ak (by refine fun γ => ⟨rfl, fun w' h => ?_⟩; clear h; go_simp) (ak (by refine fun γ => ⟨rfl, fun w' h => ?_⟩; clear h; go_simp) (ak (fun γ => ⟨rfl, fun w' => ex_made49 rfl⟩) (ak (fun γ => ⟨rfl, rfl, rfl, fun w' h => ex_laidT h rfl rfl Try.sizeOf49 rfl rfl rfl⟩) (ak (fun _ => ⟨rfl, fun _ _ => rfl⟩) trivial)))))))))
  intro γ w6 l hM hl
  have H6 : Hid (Mm w6 [(γ 7, l2 u2 v2), (γ5_7, l2 u1 v1), (γ4_7, pt x4 y4 z4), (γ1_0, pt x1 y1 false), (γ1_1, pt x2 y2 z2), (γ1_2, pt x3 y3 false)] ∧ _) := growB H5 hM (Nat.le_refl _) hl [7] rfl (by decide)
  have o6_7 := ownB H5 hM (Nat.le_refl _) hl (i := 7) rfl
  clear hM hl l H5
  generalize γ 7 = γ6_7 at H6 o6_7 ⊢
  clear γ
  refine rest0 rfl (then_normal (wp_seq ?_))
  refine walk_seqA 10 [.quiet (.int .i64 s), .quiet (.agg (pt x4 y4 z4).toArray), .quiet (.agg (pt x3 y3 false).toArray), .call (.tuple #[.agg (l2 u3 v3).toArray, .int .i64 0]), .quiet (.tuple #[.agg (l2 u3 v3).toArray, .int .i64 0]), .quiet (.agg (l2 u3 v3).toArray), .quiet (.int .i64 0), .made (l2 0 0) 49, .laid 7 (l2 0 0) (l2 u3 v3), .quiet (.int .i64 0)] (sB H6) ?ho7 ?he7 (hL := ?hL7)
  case hL7 => exact ⟨⟨_, rfl⟩, trivial⟩
  case ho7 => exact ak (fun _ => ⟨rfl, fun _ _ => rfl⟩) (ak (fun γ => ⟨rfl, fun w' h => ex_loadT h 2 rfl rfl rfl Try.isAgg25 Try.sizeOf25 rfl rfl⟩) (ak (fun γ => ⟨rfl, fun w' h => ex_loadT h 5 rfl rfl rfl Try.isAgg25 Try.sizeOf25 rfl rfl⟩) (ak (fun γ => ⟨rfl, fun w' h => ⟨27, #[.int .i64 s, .agg (pt x4 y4 z4).toArray, .agg (pt x3 y3 false).toArray], exec_call rfl call27 rfl (mpn rfl), C7.out w'⟩⟩) (ak (fun _ => ⟨rfl, fun _ _ => rfl⟩) (ak (by refine fun γ => ⟨rfl, fun w' h => ?_⟩; clear h; go_simp) (ak (by refine fun γ => ⟨rfl, fun w' h => ?_⟩; clear h; go_simp) (ak (fun γ => ⟨rfl, fun w' => ex_made49 rfl⟩) (ak (fun γ => ⟨rfl, rfl, rfl, fun w' h => ex_laidT h rfl rfl Try.sizeOf49 rfl rfl rfl⟩) (ak (fun _ => ⟨rfl, fun _ _ => rfl⟩) trivial)))))))))
  intro γ w7 l hM hl
  have H7 : Hid (Mm w7 [(γ 7, l2 u3 v3), (γ6_7, l2 u2 v2), (γ5_7, l2 u1 v1), (γ4_7, pt x4 y4 z4), (γ1_0, pt x1 y1 false), (γ1_1, pt x2 y2 z2), (γ1_2, pt x3 y3 false)] ∧ _) := growB H6 hM (Nat.le_refl _) hl [7] rfl (by decide)
  have o7_7 := ownB H6 hM (Nat.le_refl _) hl (i := 7) rfl
  clear hM hl l H6
  generalize γ 7 = γ7_7 at H7 o7_7 ⊢
  clear γ
  refine rest0 rfl (then_normal (wp_seq ?_))
  refine walk_seqA 10 [.quiet (.int .i64 s), .quiet (.agg (pt x3 y3 false).toArray), .quiet (.agg (pt x1 y1 false).toArray), .call (.tuple #[.agg (l2 u1 v1).toArray, .int .i64 0]), .quiet (.tuple #[.agg (l2 u1 v1).toArray, .int .i64 0]), .quiet (.agg (l2 u1 v1).toArray), .quiet (.int .i64 0), .made (l2 0 0) 49, .laid 7 (l2 0 0) (l2 u1 v1), .quiet (.int .i64 0)] (sB H7) ?ho8 ?he8 (hL := ?hL8)
  case hL8 => exact ⟨⟨_, rfl⟩, trivial⟩
  case ho8 => exact ak (fun _ => ⟨rfl, fun _ _ => rfl⟩) (ak (fun γ => ⟨rfl, fun w' h => ex_loadT h 6 rfl rfl rfl Try.isAgg25 Try.sizeOf25 rfl rfl⟩) (ak (fun γ => ⟨rfl, fun w' h => ex_loadT h 4 rfl rfl rfl Try.isAgg25 Try.sizeOf25 rfl rfl⟩) (ak (fun γ => ⟨rfl, fun w' h => ⟨27, #[.int .i64 s, .agg (pt x3 y3 false).toArray, .agg (pt x1 y1 false).toArray], exec_call rfl call27 rfl (mpn rfl), C8.out w'⟩⟩) (ak (fun _ => ⟨rfl, fun _ _ => rfl⟩) (ak (by refine fun γ => ⟨rfl, fun w' h => ?_⟩; clear h; go_simp) (ak (by refine fun γ => ⟨rfl, fun w' h => ?_⟩; clear h; go_simp) (ak (fun γ => ⟨rfl, fun w' => ex_made49 rfl⟩) (ak (fun γ => ⟨rfl, rfl, rfl, fun w' h => ex_laidT h rfl rfl Try.sizeOf49 rfl rfl rfl⟩) (ak (fun _ => ⟨rfl, fun _ _ => rfl⟩) trivial)))))))))
  intro γ w8 l hM hl
  have H8 : Hid (Mm w8 [(γ 7, l2 u1 v1), (γ7_7, l2 u3 v3), (γ6_7, l2 u2 v2), (γ5_7, l2 u1 v1), (γ4_7, pt x4 y4 z4), (γ1_0, pt x1 y1 false), (γ1_1, pt x2 y2 z2), (γ1_2, pt x3 y3 false)] ∧ _) := growB H7 hM (Nat.le_refl _) hl [7] rfl (by decide)
  have o8_7 := ownB H7 hM (Nat.le_refl _) hl (i := 7) rfl
  clear hM hl l H7
  generalize γ 7 = γ8_7 at H8 o8_7 ⊢
  clear γ
  refine rest0 rfl (then_normal (wp_seq ?_))
  refine walk_seqA 10 [.quiet (.int .i64 s), .quiet (.agg (l2 u1 v1).toArray), .quiet (.agg (l2 u2 v2).toArray), .call (.tuple #[.agg (l2 u3 v3).toArray, .int .i64 0]), .quiet (.tuple #[.agg (l2 u3 v3).toArray, .int .i64 0]), .quiet (.agg (l2 u3 v3).toArray), .quiet (.int .i64 0), .made (l2 0 0) 49, .laid 7 (l2 0 0) (l2 u3 v3), .quiet (.int .i64 0)] (sB H8) ?ho9 ?he9 (hL := ?hL9)
  case hL9 => exact ⟨⟨_, rfl⟩, trivial⟩
  case ho9 => exact ak (fun _ => ⟨rfl, fun _ _ => rfl⟩) (ak (fun γ => ⟨rfl, fun w' h => ex_loadT h 3 rfl rfl rfl Try.isAgg49 Try.sizeOf49 rfl rfl⟩) (ak (fun γ => ⟨rfl, fun w' h => ex_loadT h 2 rfl rfl rfl Try.isAgg49 Try.sizeOf49 rfl rfl⟩) (ak (fun γ => ⟨rfl, fun w' h => ⟨28, #[.int .i64 s, .agg (l2 u1 v1).toArray, .agg (l2 u2 v2).toArray], exec_call rfl call28 rfl (mpn rfl), C10.out w'⟩⟩) (ak (fun _ => ⟨rfl, fun _ _ => rfl⟩) (ak (by refine fun γ => ⟨rfl, fun w' h => ?_⟩; clear h; go_simp) (ak (by refine fun γ => ⟨rfl, fun w' h => ?_⟩; clear h; go_simp) (ak (fun γ => ⟨rfl, fun w' => ex_made49 rfl⟩) (ak (fun γ => ⟨rfl, rfl, rfl, fun w' h => ex_laidT h rfl rfl Try.sizeOf49 rfl rfl rfl⟩) (ak (fun _ => ⟨rfl, fun _ _ => rfl⟩) trivial)))))))))
  intro γ w9 l hM hl
  have H9 : Hid (Mm w9 [(γ 7, l2 u3 v3), (γ8_7, l2 u1 v1), (γ7_7, l2 u3 v3), (γ6_7, l2 u2 v2), (γ5_7, l2 u1 v1), (γ4_7, pt x4 y4 z4), (γ1_0, pt x1 y1 false), (γ1_1, pt x2 y2 z2), (γ1_2, pt x3 y3 false)] ∧ _) := growB H8 hM (Nat.le_refl _) hl [7] rfl (by decide)
  have o9_7 := ownB H8 hM (Nat.le_refl _) hl (i := 7) rfl
  clear hM hl l H8
  generalize γ 7 = γ9_7 at H9 o9_7 ⊢
  clear γ
  refine rest0 rfl (then_normal (wp_seq ?_))
  refine walk_seqA 11 [.quiet (.int .i64 s), .quiet (.agg (pt x1 y1 false).toArray), .quiet (W32 m), .quiet (U m), .call (.tuple #[.agg (pt x5 y5 z5).toArray, .int .i64 0]), .quiet (.tuple #[.agg (pt x5 y5 z5).toArray, .int .i64 0]), .quiet (.agg (pt x5 y5 z5).toArray), .quiet (.int .i64 0), .made (pt 0 0 false) 25, .laid 8 (pt 0 0 false) (pt x5 y5 z5), .quiet (.int .i64 0)] (sB H9) ?ho10 ?he10 (hL := ?hL10)
  case hL10 => exact ⟨⟨_, rfl⟩, trivial⟩
  case ho10 => exact ak (fun _ => ⟨rfl, fun _ _ => rfl⟩) (ak (fun γ => ⟨rfl, fun w' h => ex_loadT h 6 rfl rfl rfl Try.isAgg25 Try.sizeOf25 rfl rfl⟩) (ak (fun _ => ⟨rfl, fun _ _ => rfl⟩) (ak (fun γ => ⟨rfl, fun w' _ => ex_cv32 hm rfl rfl⟩) (ak (fun γ => ⟨rfl, fun w' h => ⟨15, #[.int .i64 s, .agg (pt x1 y1 false).toArray, U m], exec_call rfl call15 rfl (mpn rfl), C11.out w'⟩⟩) (ak (fun _ => ⟨rfl, fun _ _ => rfl⟩) (ak (by refine fun γ => ⟨rfl, fun w' h => ?_⟩; clear h; go_simp) (ak (by refine fun γ => ⟨rfl, fun w' h => ?_⟩; clear h; go_simp) (ak (fun γ => ⟨rfl, fun w' => ex_made25 rfl⟩) (ak (fun γ => ⟨rfl, rfl, rfl, fun w' h => ex_laidT h rfl rfl Try.sizeOf25 rfl rfl rfl⟩) (ak (fun _ => ⟨rfl, fun _ _ => rfl⟩) trivial))))))))))
  intro γ w10 l hM hl
  have H10 : Hid (Mm w10 [(γ 8, pt x5 y5 z5), (γ9_7, l2 u3 v3), (γ8_7, l2 u1 v1), (γ7_7, l2 u3 v3), (γ6_7, l2 u2 v2), (γ5_7, l2 u1 v1), (γ4_7, pt x4 y4 z4), (γ1_0, pt x1 y1 false), (γ1_1, pt x2 y2 z2), (γ1_2, pt x3 y3 false)] ∧ _) := growB H9 hM (Nat.le_refl _) hl [8] rfl (by decide)
  have o10_8 := ownB H9 hM (Nat.le_refl _) hl (i := 8) rfl
  clear hM hl l H9
  generalize γ 8 = γ10_8 at H10 o10_8 ⊢
  clear γ
  refine rest0 rfl (then_normal (wp_seq ?_))
  refine walk_seqA 11 [.quiet (.int .i64 s), .quiet (.agg (pt x3 y3 false).toArray), .quiet (W32 n), .quiet (U n), .call (.tuple #[.agg (pt x6 y6 z6).toArray, .int .i64 0]), .quiet (.tuple #[.agg (pt x6 y6 z6).toArray, .int .i64 0]), .quiet (.agg (pt x6 y6 z6).toArray), .quiet (.int .i64 0), .made (pt 0 0 false) 25, .laid 8 (pt 0 0 false) (pt x6 y6 z6), .quiet (.int .i64 0)] (sB H10) ?ho11 ?he11 (hL := ?hL11)
  case hL11 => exact ⟨⟨_, rfl⟩, trivial⟩
  case ho11 => exact ak (fun _ => ⟨rfl, fun _ _ => rfl⟩) (ak (fun γ => ⟨rfl, fun w' h => ex_loadT h 9 rfl rfl rfl Try.isAgg25 Try.sizeOf25 rfl rfl⟩) (ak (fun _ => ⟨rfl, fun _ _ => rfl⟩) (ak (fun γ => ⟨rfl, fun w' _ => ex_cv32 hn rfl rfl⟩) (ak (fun γ => ⟨rfl, fun w' h => ⟨15, #[.int .i64 s, .agg (pt x3 y3 false).toArray, U n], exec_call rfl call15 rfl (mpn rfl), C12.out w'⟩⟩) (ak (fun _ => ⟨rfl, fun _ _ => rfl⟩) (ak (by refine fun γ => ⟨rfl, fun w' h => ?_⟩; clear h; go_simp) (ak (by refine fun γ => ⟨rfl, fun w' h => ?_⟩; clear h; go_simp) (ak (fun γ => ⟨rfl, fun w' => ex_made25 rfl⟩) (ak (fun γ => ⟨rfl, rfl, rfl, fun w' h => ex_laidT h rfl rfl Try.sizeOf25 rfl rfl rfl⟩) (ak (fun _ => ⟨rfl, fun _ _ => rfl⟩) trivial))))))))))
  intro γ w11 l hM hl
  have H11 : Hid (Mm w11 [(γ 8, pt x6 y6 z6), (γ10_8, pt x5 y5 z5), (γ9_7, l2 u3 v3), (γ8_7, l2 u1 v1), (γ7_7, l2 u3 v3), (γ6_7, l2 u2 v2), (γ5_7, l2 u1 v1), (γ4_7, pt x4 y4 z4), (γ1_0, pt x1 y1 false), (γ1_1, pt x2 y2 z2), (γ1_2, pt x3 y3 false)] ∧ _) := growB H10 hM (Nat.le_refl _) hl [8] rfl (by decide)
  have o11_8 := ownB H10 hM (Nat.le_refl _) hl (i := 8) rfl
  clear hM hl l H10
  generalize γ 8 = γ11_8 at H11 o11_8 ⊢
  clear γ
  refine rest0 rfl (then_normal (wp_seq ?_))
  refine walk_seqA 10 [.quiet (.int .i64 s), .quiet (.agg (pt x5 y5 z5).toArray), .quiet (.agg (pt x6 y6 z6).toArray), .call (.tuple #[.agg (l2 u4 v4).toArray, .int .i64 0]), .quiet (.tuple #[.agg (l2 u4 v4).toArray, .int .i64 0]), .quiet (.agg (l2 u4 v4).toArray), .quiet (.int .i64 0), .made (l2 0 0) 49, .laid 7 (l2 0 0) (l2 u4 v4), .quiet (.int .i64 0)] (sB H11) ?ho12 ?he12 (hL := ?hL12)
  case hL12 => exact ⟨⟨_, rfl⟩, trivial⟩
  case ho12 => exact ak (fun _ => ⟨rfl, fun _ _ => rfl⟩) (ak (fun γ => ⟨rfl, fun w' h => ex_loadT h 1 rfl rfl rfl Try.isAgg25 Try.sizeOf25 rfl rfl⟩) (ak (fun γ => ⟨rfl, fun w' h => ex_loadT h 0 rfl rfl rfl Try.isAgg25 Try.sizeOf25 rfl rfl⟩) (ak (fun γ => ⟨rfl, fun w' h => ⟨27, #[.int .i64 s, .agg (pt x5 y5 z5).toArray, .agg (pt x6 y6 z6).toArray], exec_call rfl call27 rfl (mpn rfl), C9.out w'⟩⟩) (ak (fun _ => ⟨rfl, fun _ _ => rfl⟩) (ak (by refine fun γ => ⟨rfl, fun w' h => ?_⟩; clear h; go_simp) (ak (by refine fun γ => ⟨rfl, fun w' h => ?_⟩; clear h; go_simp) (ak (fun γ => ⟨rfl, fun w' => ex_made49 rfl⟩) (ak (fun γ => ⟨rfl, rfl, rfl, fun w' h => ex_laidT h rfl rfl Try.sizeOf49 rfl rfl rfl⟩) (ak (fun _ => ⟨rfl, fun _ _ => rfl⟩) trivial)))))))))
  intro γ w12 l hM hl
  have H12 : Hid (Mm w12 [(γ 7, l2 u4 v4), (γ11_8, pt x6 y6 z6), (γ10_8, pt x5 y5 z5), (γ9_7, l2 u3 v3), (γ8_7, l2 u1 v1), (γ7_7, l2 u3 v3), (γ6_7, l2 u2 v2), (γ5_7, l2 u1 v1), (γ4_7, pt x4 y4 z4), (γ1_0, pt x1 y1 false), (γ1_1, pt x2 y2 z2), (γ1_2, pt x3 y3 false)] ∧ _) := growB H11 hM (Nat.le_refl _) hl [7] rfl (by decide)
  have o12_7 := ownB H11 hM (Nat.le_refl _) hl (i := 7) rfl
  clear hM hl l H11
  generalize γ 7 = γ12_7 at H12 o12_7 ⊢
  clear γ
  refine rest0 rfl (then_normal (wp_seq ?_))
  refine walk_seqA 14 [.quiet (.int .i64 s), .quiet (.agg (l2 u1 v1).toArray), .quiet (W32 m), .quiet (U m), .quiet (W32 n), .quiet (U n), .quiet (U (m * n)), .call (.tuple #[.agg (l2 u4 v4).toArray, .int .i64 0]), .quiet (.tuple #[.agg (l2 u4 v4).toArray, .int .i64 0]), .quiet (.agg (l2 u4 v4).toArray), .quiet (.int .i64 0), .made (l2 0 0) 49, .laid 11 (l2 0 0) (l2 u4 v4), .quiet (.int .i64 0)] (sB H12) ?ho13 ?he13 (hL := ?hL13)
  case hL13 => exact ⟨⟨_, rfl⟩, trivial⟩
  case ho13 => exact ak (fun _ => ⟨rfl, fun _ _ => rfl⟩) (ak (fun γ => ⟨rfl, fun w' h => ex_loadT h 7 rfl rfl rfl Try.isAgg49 Try.sizeOf49 rfl rfl⟩) (ak (fun _ => ⟨rfl, fun _ _ => rfl⟩) (ak (fun γ => ⟨rfl, fun w' _ => ex_cv32 hm rfl rfl⟩) (ak (fun _ => ⟨rfl, fun _ _ => rfl⟩) (ak (fun γ => ⟨rfl, fun w' _ => ex_cv32 hn rfl rfl⟩) (ak (fun γ => ⟨rfl, fun w' _ => ex_mulU (mul32 hm hn) rfl rfl rfl⟩) (ak (fun γ => ⟨rfl, fun w' h => ⟨29, #[.int .i64 s, .agg (l2 u1 v1).toArray, U (m * n)], exec_call rfl call29 rfl (mpn rfl), C14.out w'⟩⟩) (ak (fun _ => ⟨rfl, fun _ _ => rfl⟩) (ak (by refine fun γ => ⟨rfl, fun w' h => ?_⟩; clear h; go_simp) (ak (by refine fun γ => ⟨rfl, fun w' h => ?_⟩; clear h; go_simp) (ak (fun γ => ⟨rfl, fun w' => ex_made49 rfl⟩) (ak (fun γ => ⟨rfl, rfl, rfl, fun w' h => ex_laidT h rfl rfl Try.sizeOf49 rfl rfl rfl⟩) (ak (fun _ => ⟨rfl, fun _ _ => rfl⟩) trivial)))))))))))))
  intro γ w13 l hM hl
  have H13 : Hid (Mm w13 [(γ 11, l2 u4 v4), (γ12_7, l2 u4 v4), (γ11_8, pt x6 y6 z6), (γ10_8, pt x5 y5 z5), (γ9_7, l2 u3 v3), (γ8_7, l2 u1 v1), (γ7_7, l2 u3 v3), (γ6_7, l2 u2 v2), (γ5_7, l2 u1 v1), (γ4_7, pt x4 y4 z4), (γ1_0, pt x1 y1 false), (γ1_1, pt x2 y2 z2), (γ1_2, pt x3 y3 false)] ∧ _) := growB H12 hM (Nat.le_refl _) hl [11] rfl (by decide)
  have o13_11 := ownB H12 hM (Nat.le_refl _) hl (i := 11) rfl
  clear hM hl l H12
  generalize γ 11 = γ13_11 at H13 o13_11 ⊢
  clear γ
  refine rest0 rfl (then_normal (wp_seq ?_))
  refine walk_seqB 7 [.quiet (.int .i64 s), .call (.tuple #[U r, .int .i64 0]), .quiet (.tuple #[U r, .int .i64 0]), .quiet (U r), .quiet (.int .i64 0), .quiet (U r), .quiet (.int .i64 0)] H13 ?ho14 ?he14
  case ho14 => exact ak (fun _ => ⟨rfl, fun _ _ => rfl⟩) (ak (fun γ => ⟨rfl, fun w' h => ⟨12, #[.int .i64 s], exec_call rfl call12 rfl (mpn rfl), C13.out w'⟩⟩) (ak (fun _ => ⟨rfl, fun _ _ => rfl⟩) (ak (by refine fun γ => ⟨rfl, fun w' h => ?_⟩; clear h; go_simp) (ak (by refine fun γ => ⟨rfl, fun w' h => ?_⟩; clear h; go_simp) (ak (fun _ => ⟨rfl, fun _ _ => rfl⟩) (ak (fun _ => ⟨rfl, fun _ _ => rfl⟩) trivial))))))
  intro _ w14 H14
  clear H13
  refine rest0 rfl (then_normal (wp_seq ?_))
  refine walk_seqA 10 [.quiet (.int .i64 s), .quiet (.agg (l2 u1 v1).toArray), .quiet (U r), .call (.tuple #[.agg (l2 1 0).toArray, .int .i64 0]), .quiet (.tuple #[.agg (l2 1 0).toArray, .int .i64 0]), .quiet (.agg (l2 1 0).toArray), .quiet (.int .i64 0), .made (l2 0 0) 49, .laid 7 (l2 0 0) (l2 1 0), .quiet (.int .i64 0)] (sB H14) ?ho15 ?he15 (hL := ?hL15)
  case hL15 => exact ⟨⟨_, rfl⟩, trivial⟩
  case ho15 => exact ak (fun _ => ⟨rfl, fun _ _ => rfl⟩) (ak (fun γ => ⟨rfl, fun w' h => ex_loadT h 8 rfl rfl rfl Try.isAgg49 Try.sizeOf49 rfl rfl⟩) (ak (fun _ => ⟨rfl, fun _ _ => rfl⟩) (ak (fun γ => ⟨rfl, fun w' h => ⟨29, #[.int .i64 s, .agg (l2 u1 v1).toArray, U r], exec_call rfl call29 rfl (mpn rfl), C15.out w'⟩⟩) (ak (fun _ => ⟨rfl, fun _ _ => rfl⟩) (ak (by refine fun γ => ⟨rfl, fun w' h => ?_⟩; clear h; go_simp) (ak (by refine fun γ => ⟨rfl, fun w' h => ?_⟩; clear h; go_simp) (ak (fun γ => ⟨rfl, fun w' => ex_made49 rfl⟩) (ak (fun γ => ⟨rfl, rfl, rfl, fun w' h => ex_laidT h rfl rfl Try.sizeOf49 rfl rfl rfl⟩) (ak (fun _ => ⟨rfl, fun _ _ => rfl⟩) trivial)))))))))
  intro γ w15 l hM hl
  have H15 : Hid (Mm w15 [(γ 7, l2 1 0), (γ13_11, l2 u4 v4), (γ12_7, l2 u4 v4), (γ11_8, pt x6 y6 z6), (γ10_8, pt x5 y5 z5), (γ9_7, l2 u3 v3), (γ8_7, l2 u1 v1), (γ7_7, l2 u3 v3), (γ6_7, l2 u2 v2), (γ5_7, l2 u1 v1), (γ4_7, pt x4 y4 z4), (γ1_0, pt x1 y1 false), (γ1_1, pt x2 y2 z2), (γ1_2, pt x3 y3 false)] ∧ _) := growB H14 hM (Nat.le_refl _) hl [7] rfl (by decide)
  have o15_7 := ownB H14 hM (Nat.le_refl _) hl (i := 7) rfl
  clear hM hl l H14
  generalize γ 7 = γ15_7 at H15 o15_7 ⊢
  clear γ
  refine rest0 rfl (then_normal (wp_seq ?_))
  refine walk_seqB 4 [.quiet (.agg (l2 u1 v1).toArray), .quiet (.agg (l2 1 0).toArray), .quiet (.bool false), .quiet (.bool false)] H15 ?ho16 ?he16
  case ho16 => exact ak (fun γ => ⟨rfl, fun w' h => ex_loadT h 9 rfl rfl rfl Try.isAgg49 Try.sizeOf49 rfl rfl⟩) (ak (fun γ => ⟨rfl, fun w' _ => ex_build49_01 rfl rfl rfl⟩) (ak (fun γ => ⟨rfl, fun w' _ => exec_eqT49 (fun w => eq_triv _ ht w) rfl rfl rfl⟩) (ak (fun _ => ⟨rfl, fun _ _ => rfl⟩) trivial)))
  intro _ w16 H16
  clear H15
  refine rest0 rfl (then_normal (wp_seq ?_))
  refine walk_seqB 48 [.quiet (.bool true), .quiet (.bool true), .quiet (.int .i64 0), .quiet (.bool true), .quiet (.bool true), .quiet (.bool true), .quiet (.int .i64 0), .quiet (.bool true), .quiet (.bool true), .quiet (.bool true), .quiet (.int .i64 0), .quiet (.bool true), .quiet (.bool true), .quiet (.bool true), .quiet (.int .i64 0), .quiet (.bool true), .quiet (.bool true), .quiet (.bool true), .quiet (.agg (l2 u3 v3).toArray), .quiet (.agg (l2 u3 v3).toArray), .quiet (.bool true), .quiet (.bool true), .quiet (.bool true), .quiet (.agg (l2 u1 v1).toArray), .quiet (.agg (l2 u1 v1).toArray), .quiet (.bool true), .quiet (.bool true), .quiet (.bool true), .quiet (.agg (l2 u4 v4).toArray), .quiet (.agg (l2 u4 v4).toArray), .quiet (.bool true), .quiet (.bool true), .quiet (.bool true), .quiet (.agg (l2 1 0).toArray), .quiet (.agg (l2 1 0).toArray), .quiet (.bool true), .quiet (.bool true), .quiet (.bool true), .quiet (.bool false), .quiet (PT γ1_0 2), .quiet (.bool false), .quiet (.bool false), .quiet (PT γ1_2 2), .quiet (.bool false), .quiet (.bool false), .quiet (.bool true), .quiet (.bool true), .quiet (.bool true)] H16 ?ho17 ?he17 (hL := ?hL17)
  case hL17 => exact trivial
  case ho17 => exact ak (fun _ => ⟨rfl, fun _ _ => rfl⟩) (ak (fun _ => ⟨rfl, fun _ _ => rfl⟩) (ak (fun _ => ⟨rfl, fun _ _ => rfl⟩) (ak (by refine fun γ => ⟨rfl, fun w' h => ?_⟩; clear h; go_simp) (ak (by refine fun γ => ⟨rfl, fun w' h => ?_⟩; clear h; go_simp) (ak (fun _ => ⟨rfl, fun _ _ => rfl⟩) (ak (fun _ => ⟨rfl, fun _ _ => rfl⟩) (ak (by refine fun γ => ⟨rfl, fun w' h => ?_⟩; clear h; go_simp) (ak (by refine fun γ => ⟨rfl, fun w' h => ?_⟩; clear h; go_simp) (ak (fun _ => ⟨rfl, fun _ _ => rfl⟩) (ak (fun _ => ⟨rfl, fun _ _ => rfl⟩) (ak (by refine fun γ => ⟨rfl, fun w' h => ?_⟩; clear h; go_simp) (ak (by refine fun γ => ⟨rfl, fun w' h => ?_⟩; clear h; go_simp) (ak (fun _ => ⟨rfl, fun _ _ => rfl⟩) (ak (fun _ => ⟨rfl, fun _ _ => rfl⟩) (ak (by refine fun γ => ⟨rfl, fun w' h => ?_⟩; clear h; go_simp) (ak (by refine fun γ => ⟨rfl, fun w' h => ?_⟩; clear h; go_simp) (ak (fun _ => ⟨rfl, fun _ _ => rfl⟩) (ak (fun γ => ⟨rfl, fun w' h => ex_loadT h 7 rfl rfl rfl Try.isAgg49 Try.sizeOf49 rfl rfl⟩) (ak (fun γ => ⟨rfl, fun w' h => ex_loadT h 5 rfl rfl rfl Try.isAgg49 Try.sizeOf49 rfl rfl⟩) (ak (fun γ => ⟨rfl, fun w' _ => exec_eqT49 (fun w => eqL_self _ _ w) rfl rfl rfl⟩) (ak (by refine fun γ => ⟨rfl, fun w' h => ?_⟩; clear h; go_simp) (ak (fun _ => ⟨rfl, fun _ _ => rfl⟩) (ak (fun γ => ⟨rfl, fun w' h => ex_loadT h 6 rfl rfl rfl Try.isAgg49 Try.sizeOf49 rfl rfl⟩) (ak (fun γ => ⟨rfl, fun w' h => ex_loadT h 9 rfl rfl rfl Try.isAgg49 Try.sizeOf49 rfl rfl⟩) (ak (fun γ => ⟨rfl, fun w' _ => exec_eqT49 (fun w => eqL_self _ _ w) rfl rfl rfl⟩) (ak (by refine fun γ => ⟨rfl, fun w' h => ?_⟩; clear h; go_simp) (ak (fun _ => ⟨rfl, fun _ _ => rfl⟩) (ak (fun γ => ⟨rfl, fun w' h => ex_loadT h 2 rfl rfl rfl Try.isAgg49 Try.sizeOf49 rfl rfl⟩) (ak (fun γ => ⟨rfl, fun w' h => ex_loadT h 1 rfl rfl rfl Try.isAgg49 Try.sizeOf49 rfl rfl⟩) (ak (fun γ => ⟨rfl, fun w' _ => exec_eqT49 (fun w => eqL_self _ _ w) rfl rfl rfl⟩) (ak (by refine fun γ => ⟨rfl, fun w' h => ?_⟩; clear h; go_simp) (ak (fun _ => ⟨rfl, fun _ _ => rfl⟩) (ak (fun γ => ⟨rfl, fun w' h => ex_loadT h 0 rfl rfl rfl Try.isAgg49 Try.sizeOf49 rfl rfl⟩) (ak (fun γ => ⟨rfl, fun w' _ => ex_build49_01 rfl rfl rfl⟩) (ak (fun γ => ⟨rfl, fun w' _ => exec_eqT49 (fun w => eqL_self _ _ w) rfl rfl rfl⟩) (ak (by refine fun γ => ⟨rfl, fun w' h => ?_⟩; clear h; go_simp) (ak (fun _ => ⟨rfl, fun _ _ => rfl⟩) (ak (fun _ => ⟨rfl, fun _ _ => rfl⟩) (ak (by refine fun γ => ⟨rfl, fun w' h => ?_⟩; clear h; go_simp) (ak (fun γ => ⟨rfl, fun w' h => ex_loadC h 11 rfl rfl rfl Try.isAgg4 rfl⟩) (ak (fun _ => ⟨rfl, fun _ _ => rfl⟩) (ak (by refine fun γ => ⟨rfl, fun w' h => ?_⟩; clear h; go_simp) (ak (fun γ => ⟨rfl, fun w' h => ex_loadC h 13 rfl rfl rfl Try.isAgg4 rfl⟩) (ak (by refine fun γ => ⟨rfl, fun w' h => ?_⟩; clear h; go_simp) (ak (by refine fun γ => ⟨rfl, fun w' h => ?_⟩; clear h; go_simp) (ak (by refine fun γ => ⟨rfl, fun w' h => ?_⟩; clear h; go_simp) (ak (fun _ => ⟨rfl, fun _ _ => rfl⟩) trivial)))))))))))))))))))))))))))))))))))))))))))))))
  intro _ w17 H17
  clear H16
  refine rest0 rfl (then_normal (wp_ret ?_))
  repeat (first | refine then_ret ?_ | refine block_ret ?_)
  refine bodyPost_ret (v := .bool true) (by simp [results, Try.results7, go_sem, *]) rfl ?_
  exact ⟨rfl, H17.out.2⟩
end Rg
end Go.Proofs.Ytjmbgchoioepjaa
end
