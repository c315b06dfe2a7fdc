/- Texts of the proof, joined. -/
import Derived.Test.YtmanelnacifgcaaGreatDoorP7
set_option maxRecDepth 100000
section
namespace Go.Proofs.YtmanelnacifgcaaGreatDoor
open Go.RowKit
namespace Rg
open NT
abbrev GV1 (g : Nat) (tn : Value) : Value := .agg (G1 g tn 1 4).toArray
abbrev t1 (T : EC.Tri Fp) : List Nat := [p0 T.1, p0 T.2.1, p0 T.2.2]
def c1x : Option (Fp × Fp) → Nat
 | none => 0
 | some (x, _) => p0 x
def c1y : Option (Fp × Fp) → Nat
 | none => 0
 | some (_, y) => p0 y
def c1z : Option (Fp × Fp) → Bool
 | none => true
 | some _ => false
abbrev pv1 (x y : Nat) (z : Bool) : Value := .agg (cel [x, y] ++ [Value.bool z]).toArray
abbrev enc1 (P : Option (Fp × Fp)) : Value := pv1 (c1x P) (c1y P) (c1z P)
theorem c1x_big (P : Option (Fp × Fp)) : c1x P < big := by
 cases P with
 | none => exact big_pos
 | some q => exact p0_big _
theorem c1y_big (P : Option (Fp × Fp)) : c1y P < big := by
 cases P with
 | none => exact big_pos
 | some q => exact p0_big _
theorem togE_1 {I : Fp → Fp} (hI : Inv1 I) {g : Nat} {tn : Value} (A B : EC.Tri Fp) (w : World) (hm : Mm w [(g, zT pB), (2, dtab)]) : Calls Tryz.prog 88 #[(GV1 g tn), V (t1 A), V (t1 B)] w (Rt w (V (t1 ((K1 hI).tog A B)))) := by
 have h := togetherV_1 (u := (K1 hI).R.one) (b := (K1 hI).b) (tn := tn) (fd1 hI g) A.1 A.2.1 A.2.2 B.1 B.2.1 B.2.2 _ _ _ _ _ _ _ _ _ _ _ _ _ _ _ _ _ _ _ _ _ _ _ _ _ _ _ _ _ _ _ _ _ _ rfl rfl rfl rfl rfl rfl rfl rfl rfl rfl rfl rfl rfl rfl rfl rfl rfl rfl rfl rfl rfl rfl rfl rfl rfl rfl rfl rfl rfl rfl rfl rfl rfl rfl w hm
 rw [← (K1 hI).ptog_eq A B]
 exact h
theorem zeroE_1 {I : Fp → Fp} (hI : Inv1 I) {g : Nat} {tn : Value} (w : World) (hm : Mm w [(g, zT pB), (2, dtab)]) : Calls Tryz.prog 89 #[(GV1 g tn)] w (Rt w (V (t1 ((K1 hI).lift none)))) := zero_1 (u := (K1 hI).R.one) (b := (K1 hI).b) (tn := tn) (fd1 hI g) w hm
theorem liftE_1 {I : Fp → Fp} (hI : Inv1 I) {g : Nat} {tn : Value} (P : Option (Fp × Fp)) (w : World) (hm : Mm w [(g, zT pB), (2, dtab)]) : Calls Tryz.prog 74 #[(GV1 g tn), enc1 P] w (Rt w (V (t1 ((K1 hI).lift P)))) := by
 rcases P with _ | ⟨x, y⟩
 ·exact liftT_1 (u := (K1 hI).R.one) (b := (K1 hI).b) (tn := tn) (fd1 hI g) 0 0 w hm
 ·exact liftF_1 (u := (K1 hI).R.one) (b := (K1 hI).b) (tn := tn) (fd1 hI g) (p0 x) (p0 y) w hm
theorem isz_1 (t : Fp) : (p0 t = 0) ↔ t = fpR.zero := ⟨fun h => Subtype.ext h, fun h => by rw [h]; rfl⟩
theorem eqz_1 (t : Fp) {r : Bool} (hr : decide (t = fpR.zero) = r) : ∀ w, (Op.equalIn 10000 24 (N (p0 t)) (N 0)).run Tryz.prog w = .ok r w := fun w => by
 have h := run_eqGD 9998 (p0 t) 0 (p0_big t) big_pos w
 rw [← hr, show decide (t = fpR.zero) = decide (p0 t = 0) from decide_eq_decide.2 (isz_1 t).symm]
 exact h
theorem eqe_1 (s t : Fp) {r : Bool} (hr : decide (s = t) = r) : ∀ w, (Op.equalIn 10000 24 (N (p0 s)) (N (p0 t))).run Tryz.prog w = .ok r w := fun w => by
 have h := run_eqGD 9998 (p0 s) (p0 t) (p0_big s) (p0_big t) w
 rw [← hr, show decide (s = t) = decide (p0 s = p0 t) from decide_eq_decide.2 ⟨fun e => by rw [e], fun e => Subtype.ext e⟩]
 exact h
theorem twiceE_1 {I : Fp → Fp} (hI : Inv1 I) {g : Nat} {tn : Value} (A : EC.Tri Fp) (w : World) (hm : Mm w [(g, zT pB), (2, dtab)]) : Calls Tryz.prog 109 #[(GV1 g tn), V (t1 A)] w (Rt w (V (t1 ((K1 hI).twice A)))) := by
 unfold EC.Crv.twice
 by_cases hz : A.2.2 = (K1 hI).R.zero
 ·rw [if_pos hz]
  exact twiceT_1 (u := (K1 hI).R.one) (b := (K1 hI).b) (tn := tn) (fd1 hI g) (p0 A.1) (p0 A.2.1) (p0 A.2.2) (eqz_1 _ (decide_eq_true hz)) w hm
 ·rw [if_neg hz]
  exact twiceV_1 (u := (K1 hI).R.one) (b := (K1 hI).b) (tn := tn) (fd1 hI g) A.1 A.2.1 A.2.2 (eqz_1 _ (decide_eq_false hz)) _ _ _ _ _ _ _ _ _ _ _ _ _ _ _ _ _ _ rfl rfl rfl rfl rfl rfl rfl rfl rfl rfl rfl rfl rfl rfl rfl rfl rfl rfl w hm
theorem belE_1 (a : Nat) (ha : a < big) (w : World) : Calls Tryz.prog 72 #[N a] w (Rt w (.bool (decide (a < pB)))) :=
 belowG_gen a pB (cmpv a pB) base_pB (fun w => compare_any a pB ha pB_lt w) (decide (a < pB)) (by
  by_cases h : a < pB
  ·rw [cmp_lt h, decide_eq_true h]
   rfl
  ·rw [decide_eq_false h]
   exact decide_eq_false (cmp_ge h)) w
/-- What the numbers say: a point of the first curve, or none. -/
def rd1 (x y : Nat) (z : Bool) : Option (Option (Fp × Fp)) :=
 if z = true then (if x = 0 ∧ y = 0 then some none else none)
 else if h : x < pB ∧ y < pB then (if EC.side fpR fp4 ⟨x, h.1⟩ = fpR.mul ⟨y, h.2⟩ ⟨y, h.2⟩ then some (some (⟨x, h.1⟩, ⟨y, h.2⟩)) else none) else none
theorem checkE_1 {I : Fp → Fp} (hI : Inv1 I) {g : Nat} {tn : Value} (x y : Nat) (z : Bool) (hx : x < big) (hy : y < big) (w : World) (hm : Mm w [(g, zT pB), (2, dtab)]) : Calls Tryz.prog 45 #[(GV1 g tn), pv1 x y z] w (Rt w (.bool (rd1 x y z).isSome)) := by
 cases z with
 | true =>
  have e : (rd1 x y true).isSome = decide (x = 0 ∧ y = 0) := by
   unfold rd1
   rw [if_pos rfl]
   by_cases h : x = 0 ∧ y = 0
   ·rw [if_pos h, decide_eq_true h]; rfl
   ·rw [if_neg h, decide_eq_false h]; rfl
  refine checkZ_1 (u := (K1 hI).R.one) (b := (K1 hI).b) (tn := tn) (fd1 hI g) x y _ (fun w => ?_) w hm
  have h := run_eqPN x y 0 0 true true hx hy big_pos big_pos w
  rw [e]
  refine h.trans (congrArg (fun q => Result.ok q w) ?_)
  rw [Bool.eq_iff_iff]
  simp
 | false =>
  by_cases hX : x < pB
  ·have bx := fun w (_ : Mm w [(g, zT pB), (2, dtab)]) => belE_1 x hx w
   rw [decide_eq_true hX] at bx
   by_cases hY : y < pB
   ·have by_ := fun w (_ : Mm w [(g, zT pB), (2, dtab)]) => belE_1 y hy w
    rw [decide_eq_true hY] at by_
    have e : (rd1 x y false).isSome = decide (fpR.mul (⟨y, hY⟩ : Fp) (⟨y, hY⟩ : Fp) = EC.side fpR fp4 (⟨x, hX⟩ : Fp)) := by
     unfold rd1
     rw [if_neg (by decide), dif_pos ⟨hX, hY⟩]
     by_cases h : fpR.mul (⟨y, hY⟩ : Fp) (⟨y, hY⟩ : Fp) = EC.side fpR fp4 (⟨x, hX⟩ : Fp)
     ·rw [if_pos h.symm, decide_eq_true h]; rfl
     ·rw [if_neg (fun q => h q.symm), decide_eq_false h]; rfl
    rw [e]
    exact checkB_1 (u := (K1 hI).R.one) (b := (K1 hI).b) (tn := tn) (fd1 hI g) (⟨x, hX⟩ : Fp) (⟨y, hY⟩ : Fp) _ bx by_ (eqe_1 _ _ rfl) w hm
   ·have by_ := fun w (_ : Mm w [(g, zT pB), (2, dtab)]) => belE_1 y hy w
    rw [decide_eq_false hY] at by_
    have e : (rd1 x y false).isSome = false := by
     unfold rd1
     rw [if_neg (by decide), dif_neg (fun q => hY q.2)]; rfl
    rw [e]
    exact checkY_1 (u := (K1 hI).R.one) (b := (K1 hI).b) (tn := tn) (fd1 hI g) x y bx by_ w hm
  ·have bx := fun w (_ : Mm w [(g, zT pB), (2, dtab)]) => belE_1 x hx w
   rw [decide_eq_false hX] at bx
   have e : (rd1 x y false).isSome = false := by
    unfold rd1
    rw [if_neg (by decide), dif_neg (fun q => hX q.1)]; rfl
   rw [e]
   exact checkX_1 (u := (K1 hI).R.one) (b := (K1 hI).b) (tn := tn) (fd1 hI g) x y bx w hm
theorem rd1_enc {I : Fp → Fp} (hI : Inv1 I) {x y : Nat} {z : Bool} {P : Option (Fp × Fp)} (h : rd1 x y z = some P) : pv1 x y z = enc1 P ∧ (K1 hI).on P := by
 unfold rd1 at h
 split at h
 ·rename_i hz
  split at h
  ·rename_i h0
   injection h with h
   subst h hz
   obtain ⟨rfl, rfl⟩ := h0
   exact ⟨rfl, trivial⟩
  ·cases h
 ·rename_i hz
  have hz' : z = false := by cases z with | true => exact absurd rfl hz | false => rfl
  subst hz'
  split at h
  ·rename_i hb
   split at h
   ·rename_i hs
    injection h with h
    subst h
    exact ⟨rfl, hs.symm⟩
   ·cases h
  ·cases h
theorem rd1_of {I : Fp → Fp} (hI : Inv1 I) {P : Option (Fp × Fp)} (h : (K1 hI).on P) : rd1 (c1x P) (c1y P) (c1z P) = some P := by
 rcases P with _ | ⟨x, y⟩
 ·rfl
 ·have hs : (K1 hI).R.mul y y = EC.side (K1 hI).R (K1 hI).b x := h
  unfold rd1
  rw [if_neg (by show ¬ false = true; decide), dif_pos ⟨x.2, y.2⟩]
  exact if_pos hs.symm
theorem ckE_1 {I : Fp → Fp} (hI : Inv1 I) {g : Nat} {tn : Value} {P : Option (Fp × Fp)} (hP : (K1 hI).on P) (w : World) (hm : Mm w [(g, zT pB), (2, dtab)]) : Calls Tryz.prog 45 #[(GV1 g tn), enc1 P] w (Rt w (.bool true)) := by
 have h := checkE_1 hI (g := g) (tn := tn) (c1x P) (c1y P) (c1z P) (c1x_big P) (c1y_big P) w hm
 rw [rd1_of hI hP] at h
 exact h
theorem negE_1 {I : Fp → Fp} (hI : Inv1 I) {g : Nat} {tn : Value} {P : Option (Fp × Fp)} (hP : (K1 hI).on P) (w : World) (hm : Mm w [(g, zT pB), (2, dtab)]) : Calls Tryz.prog 46 #[(GV1 g tn), enc1 P] w (Rt w (.tuple #[enc1 ((K1 hI).neg P), .int .i64 0])) := by
 rcases P with _ | ⟨x, y⟩
 ·have h := negY_1 (u := (K1 hI).R.one) (b := (K1 hI).b) (tn := tn) (fd1 hI g) 0 (K1 hI).R.zero true (fun w hm => ckE_1 hI (P := none) trivial w hm) w hm
  have e : EC.osub (EC.rops (K1 hI).R) (K1 hI).R.zero (K1 hI).R.zero = (K1 hI).R.zero := (K1 hI).R.add_neg _
  rw [e] at h
  exact h
 ·have h := negY_1 (u := (K1 hI).R.one) (b := (K1 hI).b) (tn := tn) (fd1 hI g) (p0 x) y false (fun w hm => ckE_1 hI hP w hm) w hm
  have e : EC.osub (EC.rops (K1 hI).R) (K1 hI).R.zero y = (K1 hI).R.neg y := (K1 hI).R.zero_add _
  rw [e] at h
  exact h
theorem firstE (w : World) : Calls Tryz.prog 41 #[] w fun e w' => Below w.heap.size w w' ∧ ∃ g x y, e = .returned (.agg (G1 g (.func (.func 73) #[] #[PT x 0, PT y 0]) 1 4).toArray) ∧ w.heap.size ≤ g ∧ g < w'.heap.size ∧ Blk w' g (zT pB) := (first3_gen pB 1 4 tr numb_tr (fun w => of_any 1 (by decide) w) (fun w => of_any 4 (by decide) w) base_pB (fun w => new_ok pB_ok w) w).mono fun e w' h => by
 obtain ⟨hB, g, x, y, he, hN, hM⟩ := h
 exact ⟨hB, g, x, y, he, hN _ (List.mem_cons_self ..), hM.blk _ (List.mem_cons_self ..)⟩
theorem CheckE_1 {I : Fp → Fp} (hI : Inv1 I) (x y : Nat) (z : Bool) (hx : x < big) (hy : y < big) (w : World) (hm : Mm w [(2, dtab)]) : Calls Tryz.prog 18 #[pv1 x y z] w (Rt w (.bool (rd1 x y z).isSome)) :=
 Check_1 1 4 x y z _ firstE (fun g tn w hm => checkE_1 hI (g := g) (tn := tn) x y z hx hy w hm) w hm
theorem CkE_1 {I : Fp → Fp} (hI : Inv1 I) {P : Option (Fp × Fp)} (hP : (K1 hI).on P) (w : World) (hm : Mm w [(2, dtab)]) : Calls Tryz.prog 18 #[enc1 P] w (Rt w (.bool true)) := by
 have h := CheckE_1 hI (c1x P) (c1y P) (c1z P) (c1x_big P) (c1y_big P) w hm
 rw [rd1_of hI hP] at h
 exact h
theorem NegE_1 {I : Fp → Fp} (hI : Inv1 I) {P : Option (Fp × Fp)} (hP : (K1 hI).on P) (w : World) (hm : Mm w [(2, dtab)]) : Calls Tryz.prog 19 #[enc1 P] w (Rt w (.tuple #[enc1 ((K1 hI).neg P), .int .i64 0])) :=
 Neg_1 1 4 (c1x P) (c1y P) (c1x ((K1 hI).neg P)) (c1y ((K1 hI).neg P)) (c1z P) (c1z ((K1 hI).neg P)) 0 firstE (fun g tn w hm => negE_1 hI (g := g) (tn := tn) hP w hm) w hm
end Rg
end Go.Proofs.YtmanelnacifgcaaGreatDoor
end
section
namespace Go.Proofs.YtmanelnacifgcaaGreatDoor
open Go.RowKit
namespace Rg
open NT
abbrev GV2 (tn : Value) : Value := .agg (G2 tn 1 0 4 4).toArray
abbrev t2 (T : EC.Tri Fq) : List Nat := [q0 T.1, q1 T.1, q0 T.2.1, q1 T.2.1, q0 T.2.2, q1 T.2.2]
def c2x0 : Option (Fq × Fq) → Nat
 | none => 0
 | some (x, _) => q0 x
def c2x1 : Option (Fq × Fq) → Nat
 | none => 0
 | some (x, _) => q1 x
def c2y0 : Option (Fq × Fq) → Nat
 | none => 0
 | some (_, y) => q0 y
def c2y1 : Option (Fq × Fq) → Nat
 | none => 0
 | some (_, y) => q1 y
def c2z : Option (Fq × Fq) → Bool
 | none => true
 | some _ => false
abbrev pv2 (x0 x1 y0 y1 : Nat) (z : Bool) : Value := .agg (cel [x0, x1, y0, y1] ++ [Value.bool z]).toArray
abbrev enc2 (P : Option (Fq × Fq)) : Value := pv2 (c2x0 P) (c2x1 P) (c2y0 P) (c2y1 P) (c2z P)
theorem c2x0_big (P : Option (Fq × Fq)) : c2x0 P < big := by
 cases P with
 | none => exact big_pos
 | some q => exact q0_big _
theorem c2x1_big (P : Option (Fq × Fq)) : c2x1 P < big := by
 cases P with
 | none => exact big_pos
 | some q => exact q1_big _
theorem c2y0_big (P : Option (Fq × Fq)) : c2y0 P < big := by
 cases P with
 | none => exact big_pos
 | some q => exact q0_big _
theorem c2y1_big (P : Option (Fq × Fq)) : c2y1 P < big := by
 cases P with
 | none => exact big_pos
 | some q => exact q1_big _
theorem eqe_2 (s t : Fq) {r : Bool} (hr : decide (s = t) = r) : ∀ w, (Op.equalIn 10000 33 (V [q0 s, q1 s]) (V [q0 t, q1 t])).run Tryz.prog w = .ok r w := fun w => by
 have h := run_eqG2 9997 (q0 s) (q1 s) (q0 t) (q1 t) (q0_big s) (q1_big s) (q0_big t) (q1_big t) w
 have e : (decide (q0 s = q0 t) && decide (q1 s = q1 t)) = decide (s = t) := by
  rw [Bool.eq_iff_iff]
  simp only [Bool.and_eq_true, decide_eq_true_eq]
  exact ⟨fun e => Prod.ext (Subtype.ext e.1) (Subtype.ext e.2), fun e => by rw [e]; exact ⟨rfl, rfl⟩⟩
 rw [← hr, ← e]
 exact h
theorem eqz_2 (t : Fq) {r : Bool} (hr : decide (t = fqR.zero) = r) : ∀ w, (Op.equalIn 10000 33 (V [q0 t, q1 t]) (V [0, 0])).run Tryz.prog w = .ok r w := eqe_2 t fqR.zero hr
theorem belE_2 (a0 a1 : Nat) (h0 : a0 < big) (h1 : a1 < big) (w : World) : Calls Tryz.prog 81 #[V [a0, a1]] w (Rt w (.bool (decide (a0 < pB ∧ a1 < pB)))) := by
 by_cases h : a0 < pB
 ·have hc := fun w => belE_1 a0 h0 w
  rw [decide_eq_true h] at hc
  have e := belowT_gen a0 a1 hc (decide (a1 < pB)) (fun w => belE_1 a1 h1 w) w
  rw [show decide (a0 < pB ∧ a1 < pB) = decide (a1 < pB) from decide_eq_decide.2 ⟨fun q => q.2, fun q => ⟨h, q⟩⟩]
  exact e
 ·have hc := fun w => belE_1 a0 h0 w
  rw [decide_eq_false h] at hc
  have e := belowF_gen a0 a1 hc w
  rw [show decide (a0 < pB ∧ a1 < pB) = false from decide_eq_false (fun q => h q.1)]
  exact e
/-- What the numbers say: a point of the second curve, or none. -/
def rd2 (x0 x1 y0 y1 : Nat) (z : Bool) : Option (Option (Fq × Fq)) :=
 if z = true then (if (x0 = 0 ∧ x1 = 0) ∧ (y0 = 0 ∧ y1 = 0) then some none else none)
 else if h : (x0 < pB ∧ x1 < pB) ∧ (y0 < pB ∧ y1 < pB) then (if EC.side fqR fq4 (⟨x0, h.1.1⟩, ⟨x1, h.1.2⟩) = fqR.mul (⟨y0, h.2.1⟩, ⟨y1, h.2.2⟩) (⟨y0, h.2.1⟩, ⟨y1, h.2.2⟩) then some (some ((⟨x0, h.1.1⟩, ⟨x1, h.1.2⟩), (⟨y0, h.2.1⟩, ⟨y1, h.2.2⟩))) else none) else none
theorem checkE_2 {I : Fp → Fp} (hI : Inv1 I) {tn : Value} (x0 x1 y0 y1 : Nat) (z : Bool) (hx0 : x0 < big) (hx1 : x1 < big) (hy0 : y0 < big) (hy1 : y1 < big) (w : World) (hm : Mm w [(2, dtab)]) : Calls Tryz.prog 57 #[(GV2 tn), pv2 x0 x1 y0 y1 z] w (Rt w (.bool (rd2 x0 x1 y0 y1 z).isSome)) := by
 cases z with
 | true =>
  have e : (rd2 x0 x1 y0 y1 true).isSome = decide ((x0 = 0 ∧ x1 = 0) ∧ (y0 = 0 ∧ y1 = 0)) := by
   unfold rd2
   rw [if_pos rfl]
   by_cases h : (x0 = 0 ∧ x1 = 0) ∧ (y0 = 0 ∧ y1 = 0)
   ·rw [if_pos h, decide_eq_true h]; rfl
   ·rw [if_neg h, decide_eq_false h]; rfl
  refine checkZ_2 (u := (K2 hI).R.one) (b := (K2 hI).b) (tn := tn) (fd2 hI) x0 x1 y0 y1 _ (fun w => ?_) w hm
  have h := run_eqPE x0 x1 y0 y1 0 0 0 0 true true hx0 hx1 hy0 hy1 big_pos big_pos big_pos big_pos w
  rw [e]
  refine h.trans (congrArg (fun q => Result.ok q w) ?_)
  rw [Bool.eq_iff_iff]
  simp
 | false =>
  by_cases hX : x0 < pB ∧ x1 < pB
  ·have bx := fun w (_ : Mm w [(2, dtab)]) => belE_2 x0 x1 hx0 hx1 w
   rw [decide_eq_true hX] at bx
   by_cases hY : y0 < pB ∧ y1 < pB
   ·have by_ := fun w (_ : Mm w [(2, dtab)]) => belE_2 y0 y1 hy0 hy1 w
    rw [decide_eq_true hY] at by_
    have e : (rd2 x0 x1 y0 y1 false).isSome = decide (fqR.mul ((⟨y0, hY.1⟩, ⟨y1, hY.2⟩) : Fq) ((⟨y0, hY.1⟩, ⟨y1, hY.2⟩) : Fq) = EC.side fqR fq4 ((⟨x0, hX.1⟩, ⟨x1, hX.2⟩) : Fq)) := by
     unfold rd2
     rw [if_neg (by decide), dif_pos ⟨hX, hY⟩]
     by_cases h : fqR.mul ((⟨y0, hY.1⟩, ⟨y1, hY.2⟩) : Fq) ((⟨y0, hY.1⟩, ⟨y1, hY.2⟩) : Fq) = EC.side fqR fq4 ((⟨x0, hX.1⟩, ⟨x1, hX.2⟩) : Fq)
     ·rw [if_pos h.symm, decide_eq_true h]; rfl
     ·rw [if_neg (fun q => h q.symm), decide_eq_false h]; rfl
    rw [e]
    exact checkB_2 (u := (K2 hI).R.one) (b := (K2 hI).b) (tn := tn) (fd2 hI) ((⟨x0, hX.1⟩, ⟨x1, hX.2⟩) : Fq) ((⟨y0, hY.1⟩, ⟨y1, hY.2⟩) : Fq) _ bx by_ (eqe_2 _ _ rfl) w hm
   ·have by_ := fun w (_ : Mm w [(2, dtab)]) => belE_2 y0 y1 hy0 hy1 w
    rw [decide_eq_false hY] at by_
    have e : (rd2 x0 x1 y0 y1 false).isSome = false := by
     unfold rd2
     rw [if_neg (by decide), dif_neg (fun q => hY q.2)]; rfl
    rw [e]
    exact checkY_2 (u := (K2 hI).R.one) (b := (K2 hI).b) (tn := tn) (fd2 hI) x0 x1 y0 y1 bx by_ w hm
  ·have bx := fun w (_ : Mm w [(2, dtab)]) => belE_2 x0 x1 hx0 hx1 w
   rw [decide_eq_false hX] at bx
   have e : (rd2 x0 x1 y0 y1 false).isSome = false := by
    unfold rd2
    rw [if_neg (by decide), dif_neg (fun q => hX q.1)]; rfl
   rw [e]
   exact checkX_2 (u := (K2 hI).R.one) (b := (K2 hI).b) (tn := tn) (fd2 hI) x0 x1 y0 y1 bx w hm
theorem rd2_enc {I : Fp → Fp} (hI : Inv1 I) {x0 x1 y0 y1 : Nat} {z : Bool} {P : Option (Fq × Fq)} (h : rd2 x0 x1 y0 y1 z = some P) : pv2 x0 x1 y0 y1 z = enc2 P ∧ (K2 hI).on P := by
 unfold rd2 at h
 split at h
 ·rename_i hz
  split at h
  ·rename_i h0
   injection h with h
   subst h hz
   obtain ⟨⟨rfl, rfl⟩, rfl, rfl⟩ := h0
   exact ⟨rfl, trivial⟩
  ·cases h
 ·rename_i hz
  have hz' : z = false := by cases z with | true => exact absurd rfl hz | false => rfl
  subst hz'
  split at h
  ·rename_i hb
   split at h
   ·rename_i hs
    injection h with h
    subst h
    exact ⟨rfl, hs.symm⟩
   ·cases h
  ·cases h
theorem rd2_of {I : Fp → Fp} (hI : Inv1 I) {P : Option (Fq × Fq)} (h : (K2 hI).on P) : rd2 (c2x0 P) (c2x1 P) (c2y0 P) (c2y1 P) (c2z P) = some P := by
 rcases P with _ | ⟨x, y⟩
 ·rfl
 ·have hs : (K2 hI).R.mul y y = EC.side (K2 hI).R (K2 hI).b x := h
  unfold rd2
  rw [if_neg (by show ¬ false = true; decide), dif_pos ⟨⟨x.1.2, x.2.2⟩, y.1.2, y.2.2⟩]
  exact if_pos hs.symm
theorem ckE_2 {I : Fp → Fp} (hI : Inv1 I) {tn : Value} {P : Option (Fq × Fq)} (hP : (K2 hI).on P) (w : World) (hm : Mm w [(2, dtab)]) : Calls Tryz.prog 57 #[(GV2 tn), enc2 P] w (Rt w (.bool true)) := by
 have h := checkE_2 hI (tn := tn) (c2x0 P) (c2x1 P) (c2y0 P) (c2y1 P) (c2z P) (c2x0_big P) (c2x1_big P) (c2y0_big P) (c2y1_big P) w hm
 rw [rd2_of hI hP] at h
 exact h
theorem negE_2 {I : Fp → Fp} (hI : Inv1 I) {tn : Value} {P : Option (Fq × Fq)} (hP : (K2 hI).on P) (w : World) (hm : Mm w [(2, dtab)]) : Calls Tryz.prog 56 #[(GV2 tn), enc2 P] w (Rt w (.tuple #[enc2 ((K2 hI).neg P), .int .i64 0])) := by
 rcases P with _ | ⟨x, y⟩
 ·have h := negY_2 (u := (K2 hI).R.one) (b := (K2 hI).b) (tn := tn) (fd2 hI) 0 0 (K2 hI).R.zero true (fun w hm => ckE_2 hI (P := none) trivial w hm) w hm
  have e : EC.osub (EC.rops (K2 hI).R) (K2 hI).R.zero (K2 hI).R.zero = (K2 hI).R.zero := (K2 hI).R.add_neg _
  rw [e] at h
  exact h
 ·have h := negY_2 (u := (K2 hI).R.one) (b := (K2 hI).b) (tn := tn) (fd2 hI) (q0 x) (q1 x) y false (fun w hm => ckE_2 hI hP w hm) w hm
  have e : EC.osub (EC.rops (K2 hI).R) (K2 hI).R.zero y = (K2 hI).R.neg y := (K2 hI).R.zero_add _
  rw [e] at h
  exact h
theorem secondE (w : World) : Calls Tryz.prog 43 #[] w fun e w' => Below w.heap.size w w' ∧ ∃ g x, ∃ _y : Nat, e = .returned (.agg (G2 (.func (.func 82) #[] #[PT g 0, PT x 0]) 1 0 4 4).toArray) ∧ w.heap.size ≤ g ∧ g < w'.heap.size ∧ Blk w' g [] := (second3_gen 1 4 tx1 ty0 ty1 numb_tx1 numb_ty0 numb_ty1 (fun w => of_any 1 (by decide) w) (fun w => of_any 4 (by decide) w) w).mono fun e w' h => by
 obtain ⟨hB, g, x, y, he, hN, hM⟩ := h
 exact ⟨hB, g, x, y, he, hN _ (List.mem_cons_self ..), (hM.blk _ (List.mem_cons_self ..)).1, fun j v hj => by simp at hj⟩
theorem CheckE_2 {I : Fp → Fp} (hI : Inv1 I) (x0 x1 y0 y1 : Nat) (z : Bool) (hx0 : x0 < big) (hx1 : x1 < big) (hy0 : y0 < big) (hy1 : y1 < big) (w : World) (hm : Mm w [(2, dtab)]) : Calls Tryz.prog 31 #[pv2 x0 x1 y0 y1 z] w (Rt w (.bool (rd2 x0 x1 y0 y1 z).isSome)) :=
 Check_2 1 4 x0 x1 y0 y1 z _ secondE (fun tn w hm => checkE_2 hI (tn := tn) x0 x1 y0 y1 z hx0 hx1 hy0 hy1 w hm) w hm
theorem CkE_2 {I : Fp → Fp} (hI : Inv1 I) {P : Option (Fq × Fq)} (hP : (K2 hI).on P) (w : World) (hm : Mm w [(2, dtab)]) : Calls Tryz.prog 31 #[enc2 P] w (Rt w (.bool true)) := by
 have h := CheckE_2 hI (c2x0 P) (c2x1 P) (c2y0 P) (c2y1 P) (c2z P) (c2x0_big P) (c2x1_big P) (c2y0_big P) (c2y1_big P) w hm
 rw [rd2_of hI hP] at h
 exact h
theorem NegE_2 {I : Fp → Fp} (hI : Inv1 I) {P : Option (Fq × Fq)} (hP : (K2 hI).on P) (w : World) (hm : Mm w [(2, dtab)]) : Calls Tryz.prog 30 #[enc2 P] w (Rt w (.tuple #[enc2 ((K2 hI).neg P), .int .i64 0])) :=
 Neg_2 1 4 (c2x0 P) (c2x1 P) (c2y0 P) (c2y1 P) (c2x0 ((K2 hI).neg P)) (c2x1 ((K2 hI).neg P)) (c2y0 ((K2 hI).neg P)) (c2y1 ((K2 hI).neg P)) (c2z P) (c2z ((K2 hI).neg P)) 0 secondE (fun tn w hm => negE_2 hI (tn := tn) hP w hm) w hm
end Rg
end Go.Proofs.YtmanelnacifgcaaGreatDoor
end
section
namespace Go.Proofs.YtmanelnacifgcaaGreatDoor
open Go.RowKit
namespace Rg
end Rg
end Go.Proofs.YtmanelnacifgcaaGreatDoor
end
section
namespace Go.Proofs.YtmanelnacifgcaaGreatDoor
open Go.RowKit
namespace Rg
open NT
end Rg
end Go.Proofs.YtmanelnacifgcaaGreatDoor
end
section
namespace Go.Proofs.YtmanelnacifgcaaGreatDoor
open Go.RowKit
namespace Rg
open NT
theorem refl_P1 (a b : Nat) (z : Bool) (ha : a < big) (hb : b < big) : ∀ w, (Op.equalIn 10000 27 (pv1 a b z) (pv1 a b z)).run Tryz.prog w = .ok true w := fun w => by
 have h := run_eqP1 a b a b z z ha hb ha hb w
 refine h.trans (congrArg (fun q => Result.ok q w) ?_)
 simp
theorem gx_lt : gx < pB := by decide +kernel
theorem gy_lt : gy < pB := by decide +kernel
theorem hx0_lt : hx0 < pB := by decide +kernel
theorem hx1_lt : hx1 < pB := by decide +kernel
theorem hy0_lt : hy0 < pB := by decide +kernel
theorem hy1_lt : hy1 < pB := by decide +kernel
/-- The generators. -/
def Q1 : Option (Fp × Fp) := some (⟨gx, gx_lt⟩, ⟨gy, gy_lt⟩)
def Q2 : Option (Fq × Fq) := some ((⟨hx0, hx0_lt⟩, ⟨hx1, hx1_lt⟩), (⟨hy0, hy0_lt⟩, ⟨hy1, hy1_lt⟩))
theorem on_Q1 {I : Fp → Fp} (hI : Inv1 I) : (K1 hI).on Q1 := by
 refine Subtype.ext ?_
 show gy * gy % pB = (gx * (gx * gx % pB) % pB + 4) % pB
 decide +kernel
theorem GenE_1 (w : World) : Calls Tryz.prog 9 #[] w (Rt w (enc1 Q1)) := gen1_gen gx gy numb_gx numb_gy w
end Rg
end Go.Proofs.YtmanelnacifgcaaGreatDoor
end
section
namespace Go.Proofs.YtmanelnacifgcaaGreatDoor
open Go.RowKit
namespace Rg
open NT
def gr (y : Nat) : Bool := decide (pB / 2 < y)
theorem pB_odd : pB % 2 = 1 := by decide +kernel
theorem half_big : pB / 2 < big := Nat.lt_of_le_of_lt (Nat.div_le_self _ _) pB_lt
theorem shv_half : shv pB (-1) = pB / 2 := by
 unfold shv
 rw [if_neg (by decide), if_pos (by decide)]
 rfl
theorem cmp_pos (a b : Nat) : decide (0 < cmpv a b) = decide (b < a) := by
 unfold cmpv
 by_cases h : a = b
 ·rw [if_pos h]
  simp [h]
 ·rw [if_neg h]
  by_cases h2 : a < b
  ·rw [if_pos h2]
   simp
   omega
  ·rw [if_neg h2]
   simp
   omega
theorem half_shift (w : World) : Calls Tryz.prog 61 #[N pB, .int .i64 (-1)] w (Rt w (N (pB / 2))) := by
 have h := shift_any pB (-1) pB_lt w
 rw [shv_half] at h
 exact h
theorem grE (y : Nat) (hy : y < big) (w : World) : Calls Tryz.prog 52 #[N y] w (Rt w (.bool (gr y))) :=
 greater1_gen y pB (pB / 2) (cmpv y (pB / 2)) (gr y) (cmp_pos _ _) base_pB half_shift (fun w => compare_any y (pB / 2) hy half_big w) w
theorem gr_half (p y : Nat) (hp : p % 2 = 1) (h : y < p) : decide (p / 2 < p - y) = !decide (p / 2 < y) := by
 by_cases h1 : p / 2 < y
 ·rw [decide_eq_true h1, decide_eq_false (by omega)]
  rfl
 ·rw [decide_eq_false h1, decide_eq_true (by omega)]
  rfl
theorem gr_neg (y : Nat) (h : y < pB) : gr (pB - y) = !gr y := gr_half pB y pB_odd h
theorem neg_val (y : Fp) (h : y ≠ fpR.zero) : 0 < y.1 ∧ (fpR.neg y).1 = pB - y.1 := by
 have h0 : 0 < y.1 := Nat.pos_of_ne_zero fun e => h (Subtype.ext e)
 refine ⟨h0, ?_⟩
 show (pB - y.1) % pB = _
 exact Nat.mod_eq_of_lt (by omega)
theorem gr1_neg (y : Fp) (h : y ≠ fpR.zero) : gr (fpR.neg y).1 = !gr y.1 := by
 rw [(neg_val y h).2]
 exact gr_neg y.1 y.2
theorem neg_zero1 (y : Fp) (h : y = fpR.zero) : fpR.neg y = fpR.zero := by
 rw [h]
 refine Subtype.ext ?_
 show (pB - 0) % pB = 0
 rw [Nat.sub_zero, Nat.mod_self]
def gr2 (y0 y1 : Nat) : Bool := if y1 = 0 then gr y0 else gr y1
theorem gr2E (y : Fq) (w : World) : Calls Tryz.prog 54 #[V [q0 y, q1 y]] w (Rt w (.bool (gr2 (q0 y) (q1 y)))) := by
 unfold gr2
 by_cases h : y.2 = fpR.zero
 ·have e : q1 y = 0 := congrArg Subtype.val h
  rw [if_pos e]
  exact greater2_T (q0 y) (q1 y) (gr (q0 y)) (eqz_1 y.2 (decide_eq_true h)) (grE (q0 y) (p0_big y.1)) w
 ·have e : ¬ q1 y = 0 := fun e => h (Subtype.ext e)
  rw [if_neg e]
  exact greater2_F (q0 y) (q1 y) (gr (q1 y)) (eqz_1 y.2 (decide_eq_false h)) (grE (q1 y) (p0_big y.2)) w
theorem gr2_neg (y : Fq) (h : y ≠ fqR.zero) : gr2 (q0 (fqR.neg y)) (q1 (fqR.neg y)) = !gr2 (q0 y) (q1 y) := by
 show gr2 (fpR.neg y.1).1 (fpR.neg y.2).1 = !gr2 y.1.1 y.2.1
 unfold gr2
 by_cases h2 : y.2 = fpR.zero
 ·have h1 : y.1 ≠ fpR.zero := fun h1 => h (Prod.ext h1 h2)
  rw [if_pos (show (fpR.neg y.2).1 = 0 from congrArg Subtype.val (neg_zero1 y.2 h2)), if_pos (show y.2.1 = 0 from congrArg Subtype.val h2)]
  exact gr1_neg y.1 h1
 ·obtain ⟨h0, e⟩ := neg_val y.2 h2
  have hl := y.2.2
  rw [if_neg (by rw [e]; omega), if_neg (by omega)]
  exact gr1_neg y.2 h2
theorem xor_fl : ∀ (n : Fin 32) (u : Bool), bits .xor .u8 (fl8 false u (n.val : Int)) (fl8 false (!u) (n.val : Int)) = 32 := by decide +kernel
theorem top_p : pB / 2 ^ (8 * 47) < 32 := by decide +kernel
theorem top_lt (x : Fp) : bt x.1 47 < 32 := by
 unfold bt
 have h1 : x.1 / 2 ^ (8 * 47) ≤ pB / 2 ^ (8 * 47) := Nat.div_le_div_right (Nat.le_of_lt x.2)
 have h2 := Nat.lt_of_le_of_lt h1 top_p
 exact Nat.lt_of_le_of_lt (Nat.mod_le _ _) h2
theorem xor_lt (n : Nat) (h : n < 32) (u : Bool) : bits .xor .u8 (fl8 false u (n : Int)) (fl8 false (!u) (n : Int)) = 32 := xor_fl ⟨n, h⟩ u
theorem nby_0 (a : Nat) : nby a 0 = ((bt a 47 : Nat) : Int) := by
 unfold nby
 rw [Nat.sub_zero]
theorem xor_at (x : Fp) (u : Bool) : bits .xor .u8 (fl8 false u (nby x.1 0)) (fl8 false (!u) (nby x.1 0)) = 32 := by
 rw [nby_0]
 exact xor_lt _ (top_lt x) u
def ro1 (x y : Fp) : Nat → Int := upd (nby (p0 x)) 0 (fl8 false (gr (p0 y)) (nby (p0 x) 0))
def ro2 (x y : Fq) : Nat → Int := upd (cat8 (nby (q1 x)) 48 (nby (q0 x))) 0 (fl8 false (gr2 (q0 y) (q1 y)) (cat8 (nby (q1 x)) 48 (nby (q0 x)) 0))
theorem ro1_xor (x y : Fp) (h : y ≠ fpR.zero) : bits .xor .u8 (ro1 x y 0) (ro1 x (fpR.neg y) 0) = 32 := by
 unfold ro1
 rw [upd_at, upd_at, show p0 (fpR.neg y) = (fpR.neg y).1 from rfl, gr1_neg y h]
 exact xor_at x _
theorem ro2_xor (x y : Fq) (h : y ≠ fqR.zero) : bits .xor .u8 (ro2 x y 0) (ro2 x (fqR.neg y) 0) = 32 := by
 unfold ro2
 rw [upd_at, upd_at, gr2_neg y h]
 exact xor_at x.2 _
theorem upd_succ (f : Nat → Int) (v : Int) (j : Nat) : upd f 0 v (j + 1) = f (j + 1) := if_neg (by omega)
theorem ro1_same (x y z : Fp) (j : Nat) : ro1 x y (j + 1) = ro1 x z (j + 1) := by
 unfold ro1
 rw [upd_succ, upd_succ]
theorem ro2_same (x y z : Fq) (j : Nat) : ro2 x y (j + 1) = ro2 x z (j + 1) := by
 unfold ro2
 rw [upd_succ, upd_succ]
theorem rowBS (f : Nat → Int) (g n c : Nat) (hc : n ≤ c) (w : World) (hm : Mm w [(g, by8 f (n + 1))]) : BSl w ((List.range n).map fun j => f (j + 1)) c (.slice (some ⟨g, 1, none⟩) n c) := by
 have hl : ((List.range n).map fun j => f (j + 1)).length = n := by simp
 have h := BSl.full (w := w) (xs := (List.range n).map fun j => f (j + 1)) (c := c) g 1 (hm.blk _ (List.mem_cons_self ..)).1 (by rw [hl]; exact hc) (fun i hi => by
  rw [hl] at hi
  have e := hm.cell (List.mem_cons_self ..) (by8_get f (show 1 + i < n + 1 by omega))
  rw [e]
  simp [List.getD, hi, Nat.add_comm])
 rw [hl] at h
 exact h
theorem sameB (f h : Nat → Int) (n c d : Nat) (hc : n ≤ c) (hd : n ≤ d) (e : ∀ j, f (j + 1) = h (j + 1)) (g k : Nat) (w : World) (hg : Mm w [(g, by8 f (n + 1))]) (hk : Mm w [(k, by8 h (n + 1))]) : Calls Tryz.prog 29 #[.slice (some ⟨g, 1, none⟩) n c, .slice (some ⟨k, 1, none⟩) n d] w (Rt w (.bool true)) := by
 have b1 := rowBS f g n c hc w hg
 have b2 := rowBS h k n d hd w hk
 rw [show (fun j => f (j + 1)) = (fun j => h (j + 1)) from funext e] at b1
 exact (same_any w b1 b2).mono fun e w' hh => ⟨hh.1, by rw [hh.2]; exact Below.refl _ _⟩
theorem bytesE_1 {I : Fp → Fp} (hI : Inv1 I) {x y : Fp} (hP : (K1 hI).on (some (x, y))) (w : World) (hm : Mm w [(2, dtab)]) : Calls Tryz.prog 25 #[enc1 (some (x, y))] w fun e w' => Below w.heap.size w w' ∧ ∃ g, e = .returned (.tuple #[.slice (some ⟨g, 0, none⟩) 48 48, .int .i64 0]) ∧ w.heap.size ≤ g ∧ g < w'.heap.size ∧ Blk w' g (by8 (ro1 x y) 48) :=
 bytes1_ok (p0 x) (p0 y) false (gr (p0 y)) (fun w hm => CkE_1 hI hP w hm) (bytesB (p0 x)) (grE _ (p0_big y)) w hm
theorem bytesE_2 {I : Fp → Fp} (hI : Inv1 I) {x y : Fq} (hP : (K2 hI).on (some (x, y))) (w : World) (hm : Mm w [(2, dtab)]) : Calls Tryz.prog 27 #[enc2 (some (x, y))] w fun e w' => Below w.heap.size w w' ∧ ∃ g x', ∃ _ : Nat, e = .returned (.tuple #[.slice (some ⟨g, 0, none⟩) 96 (96 + x'), .int .i64 0]) ∧ w.heap.size ≤ g ∧ g < w'.heap.size ∧ Blk w' g (by8 (ro2 x y) 96) :=
 (bytes2_ok (q0 x) (q1 x) (q0 y) (q1 y) false (gr2 (q0 y) (q1 y)) (fun w hm => CkE_2 hI hP w hm) bytesB (gr2E y) w hm).mono fun _ _ ⟨hb, g, cap, h⟩ => ⟨hb, g, cap, 0, h⟩
theorem NegN_1 {I : Fp → Fp} (hI : Inv1 I) (x y : Nat) (z : Bool) (hx : x < big) (hy : y < big) (h : rd1 x y z = none) (w : World) (hm : Mm w [(2, dtab)]) : Calls Tryz.prog 19 #[pv1 x y z] w (Rt w (.tuple #[pv1 0 0 false, .int .i64 5])) :=
 Neg_1 1 4 x y 0 0 z false 5 firstE (fun g tn w hm => negN_1 (u := (K1 hI).R.one) (b := (K1 hI).b) (tn := tn) (fd1 hI g) x y z (fun w hm => by have k := checkE_1 hI (g := g) (tn := tn) x y z hx hy w hm; rw [h] at k; exact k) w hm) w hm
theorem NegN_2 {I : Fp → Fp} (hI : Inv1 I) (x0 x1 y0 y1 : Nat) (z : Bool) (hx0 : x0 < big) (hx1 : x1 < big) (hy0 : y0 < big) (hy1 : y1 < big) (h : rd2 x0 x1 y0 y1 z = none) (w : World) (hm : Mm w [(2, dtab)]) : Calls Tryz.prog 30 #[pv2 x0 x1 y0 y1 z] w (Rt w (.tuple #[pv2 0 0 0 0 false, .int .i64 5])) :=
 Neg_2 1 4 x0 x1 y0 y1 0 0 0 0 z false 5 secondE (fun tn w hm => negN_2 (u := (K2 hI).R.one) (b := (K2 hI).b) (tn := tn) (fd2 hI) x0 x1 y0 y1 z (fun w hm => by have k := checkE_2 hI (tn := tn) x0 x1 y0 y1 z hx0 hx1 hy0 hy1 w hm; rw [h] at k; exact k) w hm) w hm
end Rg
end Go.Proofs.YtmanelnacifgcaaGreatDoor
end
section
namespace Go.Proofs.YtmanelnacifgcaaGreatDoor
open Go.RowKit
namespace Rg
set_option maxHeartbeats 4000000 in
theorem read1_low (b c n x y : Nat) (f f2 : Nat → Int) (bt : Int) (ct : ∀ w, Mm w [(b, by8 f 48)] → Calls Tryz.prog 91 #[.slice (some ⟨b, 0, none⟩) 48 c, .int .i64 48] w fun e w' => Below w.heap.size w w' ∧ ∃ g x, ∃ _ : Nat, e = .returned (.tuple #[.slice (some ⟨g, 0, none⟩) 48 x, .int .u8 bt, .bool true]) ∧ w.heap.size ≤ g ∧ g < w'.heap.size ∧ Blk w' g (by8 f2 48)) (cn : ∀ g cap w, Mm w [(g, by8 f2 48)] → Calls Tryz.prog 92 #[.slice (some ⟨g, 0, none⟩) 48 cap] w (Rt w (.tuple #[N x, .bool true]))) (cg : ∀ w, Calls Tryz.prog 93 #[] w fun e w' => Below w.heap.size w w' ∧ ∃ g, e = .returned (PT g 0) ∧ w.heap.size ≤ g ∧ g < w'.heap.size ∧ Blk w' g (zT n)) (cr : ∀ g w, Mm w [(g, zT n)] → Calls Tryz.prog 94 #[PT g 0, N x] w (Rt w (.tuple #[N y, .bool true])))  (d1 : bits .and .u8 bt 64 = 0) (d2 : bits .and .u8 bt 32 = 0) (w : World) (hm : Mm w [(b, by8 f 48)]) :
  Calls Tryz.prog 53 #[.slice (some ⟨b, 0, none⟩) 48 c] w (Rt w (.tuple #[.agg (zW x y false).toArray, .bool true])) := by
 have H0 : Hid (_ ∧ _) := ⟨hm, Below.refl w.heap.size w⟩
 clear hm
 have CT : Hid _ := ct
 clear ct
 have CN : Hid _ := cn
 clear cn
 have CG : Hid _ := cg
 clear cg
 have CR : Hid _ := cr
 clear cr
 go_enter Tryz.func53, Tryz.ntmps53
 refine wp_seq ?_
 refine zC 2 [.made (zW 0 0 false) 27, .q (.bool false)] (sB H0) ?ho1 ?he1
 case ho1 => exact am (ex_madeP1 rfl) (ar trivial)
 intro J w1 l hM hl
 have H1 : Hid (Mm w1 ([(J 0, zW 0 0 false)] ++ _) ∧ _) := wB H0 hM hl [0]
 have o1_0 := vB H0 hM hl 0
 clear hM hl l
 generalize J 0 = J1_0 at H1 o1_0 ⊢
 clear J
 refine rN (wp_seq ?_)
 refine zC 2 [.q (.slice (some ⟨b, 0, none⟩) 48 c), .bornX (fun g x y => .tuple #[.slice (some ⟨g, 0, none⟩) 48 x, .int .u8 bt, .bool true]) (by8 f2 48)] (sB H1) ?ho2 ?he2
 case ho2 => exact ar (ak (fun J => ⟨rfl, fun w' h => eC call91 (CT.out w' (h.one 1 rfl))⟩) trivial)
 intro J w2 l hM hl
 have H2 : Hid (Mm w2 ([(J 1, by8 f2 48)] ++ _) ∧ _) := wB H1 hM hl [1]
 have o2_1 := vB H1 hM hl 1
 clear hM hl l H1
 generalize J 1 = J2_1 at H2 o2_1 ⊢
 generalize J 65537 = J2_65537
 clear J
 refine zH (l := [2, 3, 4, 5, 6, 7, 8]) rfl ?_
 refine zF (d := 10) rfl rfl rfl rfl ?_
 simp only [Act.put, sa, sz, ss]
 refine zF (d := 13) (v := .slice (some ⟨J2_1, 0, none⟩) 48 J2_65537) (w' := w2) rfl rfl rfl (by go_simp) ?_
 simp only [Act.put, sa, sz, ss]
 refine zF (d := 14) (v := .int .u8 bt) (w' := w2) rfl rfl rfl (by go_simp) ?_
 simp only [Act.put, sa, sz, ss]
 refine zF (d := 15) (v := .bool true) (w' := w2) rfl rfl rfl (by go_simp) ?_
 simp only [Act.put, sa, sz, ss]
 refine zF (d := 4) rfl rfl rfl rfl ?_
 simp only [Act.put, sa, sz, ss]
 refine zF (d := 5) rfl rfl rfl rfl ?_
 simp only [Act.put, sa, sz, ss]
 refine zF (d := 6) rfl rfl rfl rfl ?_
 simp only [Act.put, sa, sz, ss]
 refine zE (zA ?_)
 refine wp_seq (wp_seq ?_)
 refine zD 2 [.q (.bool true), .q (.bool false)] H2 ?ho3 ?he3
 case ho3 => exact ar (ag trivial)
 intro _ w3 H3
 clear H2
 refine rN (wp_cond_false rfl ?_)
 refine wp_skip (zA ?_)
 refine wp_seq (wp_seq ?_)
 refine zD 3 [.q (.int .u8 bt), .q (.int .u8 (bits .and .u8 bt 64)), .q (.bool false)] H3 ?ho4 ?he4
 case ho4 => exact ar (ag (ag trivial))
 intro _ w4 H4
 clear H3
 refine rN (wp_cond_false rfl ?_)
 refine wp_skip (zA (wp_seq ?_))
 refine zC 8 [.q (.slice (some ⟨J2_1, 0, none⟩) 48 J2_65537), .call (.tuple #[N x, .bool true]), .q (.tuple #[N x, .bool true]), .q (N x), .q (.bool true), .made zero6 24, .laid 5 zero6 (zB x), .q (.bool true)] (sB H4) ?ho5 ?he5 (hL := ?hL5)
 case hL5 => exact ⟨⟨_, rfl⟩, trivial⟩
 case ho5 => exact ar (ac (fun w' h => eC call92 (CN.out J2_1 J2_65537 w' (h.one 0 rfl))) (ar (ag (ag (am (zG rfl) (ak (fun J => ⟨rfl, rfl, rfl, fun w' h => zK h rfl rfl rfl⟩) (ar trivial)))))))
 intro J w5 l hM hl
 have H5 : Hid (Mm w5 ([(J 5, zB x)] ++ _) ∧ _) := wB H4 hM hl [5]
 have o5_5 := vB H4 hM hl 5
 clear hM hl l H4
 generalize J 5 = J5_5 at H5 o5_5 ⊢
 clear J
 refine rN (wp_seq (wp_seq ?_))
 refine zD 2 [.q (.bool true), .q (.bool false)] H5 ?ho6 ?he6
 case ho6 => exact ar (ag trivial)
 intro _ w6 H6
 clear H5
 refine rN (wp_cond_false rfl ?_)
 refine wp_skip (zA (wp_seq ?_))
 refine zC 1 [.born (fun g => PT g 0) (zT n)] (sB H6) ?ho7 ?he7
 case ho7 => exact ak (fun J => ⟨rfl, fun w' h => eC call93 (CG.out w')⟩) trivial
 intro J w7 l hM hl
 have H7 : Hid (Mm w7 ([(J 0, zT n)] ++ _) ∧ _) := wB H6 hM hl [0]
 have o7_0 := vB H6 hM hl 0
 clear hM hl l H6
 generalize J 0 = J7_0 at H7 o7_0 ⊢
 clear J
 refine zH (l := [1]) rfl ?_
 refine zF (d := 8) rfl rfl rfl rfl ?_
 simp only [Act.put, sa, sz, ss]
 refine zE (zA (wp_seq ?_))
 refine zC 9 [.q (PT J7_0 0), .q (N x), .call (.tuple #[N y, .bool true]), .q (.tuple #[N y, .bool true]), .q (N y), .q (.bool true), .made zero6 24, .laid 6 zero6 (zB y), .q (.bool true)] (sB H7) ?ho8 ?he8 (hL := ?hL8)
 case hL8 => exact ⟨⟨_, rfl⟩, trivial⟩
 case ho8 => exact ar (bN 1 (ac (fun w' h => eC call94 (CR.out J7_0 w' (h.one 0 rfl))) (ar (ag (ag (am (zG rfl) (ak (fun J => ⟨rfl, rfl, rfl, fun w' h => zK h rfl rfl rfl⟩) (ar trivial))))))))
 intro J w8 l hM hl
 have H8 : Hid (Mm w8 ([(J 6, zB y)] ++ _) ∧ _) := wB H7 hM hl [6]
 have o8_6 := vB H7 hM hl 6
 clear hM hl l H7
 generalize J 6 = J8_6 at H8 o8_6 ⊢
 clear J
 refine rN (wp_seq (wp_seq ?_))
 refine zD 2 [.q (.bool true), .q (.bool false)] H8 ?ho9 ?he9
 case ho9 => exact ar (ag trivial)
 intro _ w9 H9
 clear H8
 refine rN (wp_cond_false rfl ?_)
 refine wp_skip (zA ?_)
 refine wp_seq (wp_seq ?_)
 refine zD 3 [.q (.int .u8 bt), .q (.int .u8 (bits .and .u8 bt 32)), .q (.bool false)] H9 ?ho10 ?he10
 case ho10 => exact ar (ag (ag trivial))
 intro _ w10 H10
 clear H9
 refine rN (wp_cond_false rfl ?_)
 refine wp_skip (zA (wp_seq ?_))
 refine zD 3 [.q (N x), .q (N y), .q (.agg (zW x y false).toArray)] H10 ?ho11 ?he11
 case ho11 => exact bN 2 (bN 0 (ak (fun J => ⟨rfl, fun w' _ => ex_buildP1xy rfl rfl rfl⟩) trivial))
 intro _ w11 H11
 clear H10
 refine zH (l := [3, 4]) rfl ?_
 refine sG rfl (fun h => ex_storeT (vs := zW x y false) h 4 rfl rfl rfl rfl As27 rfl (Nat.le_of_ble_eq_true rfl)) 4 [_, _, _, _, (_, zW x y false), _] H11 o1_0 fun w12 H12 => ?_
 clear H11
 refine zF (d := 3) rfl rfl rfl rfl ?_
 simp only [Act.put, sa, sz, ss]
 refine zE (zA (wp_ret ?_))
 repeat (first | refine zJ ?_ | refine zI ?_)
 have hf0 := var_T H12.out.1 4 rfl Ai27 As27 rfl
 refine bodyPost_ret (v := .tuple #[.agg (zW x y false).toArray, .bool true]) (by simp [results, Tryz.results53, asAddr, Act.eval, hf0]) rfl ?_
 exact ⟨rfl, H12.out.2⟩
set_option maxHeartbeats 4000000 in
theorem Read1_ok (b c x y : Nat) (zb : Bool) (f : Nat → Int) (c0 : ∀ w, Mm w [(b, by8 f 48)] → Calls Tryz.prog 53 #[.slice (some ⟨b, 0, none⟩) 48 c] w (Rt w (.tuple #[.agg (zW x y zb).toArray, .bool true]))) (ci : ∀ w, Mm w [(2, dtab)] → Calls Tryz.prog 15 #[.agg (zW x y zb).toArray] w (Rt w (.bool true))) (w : World) (hm : Mm w [(b, by8 f 48), (2, dtab)]) :
  Calls Tryz.prog 26 #[.slice (some ⟨b, 0, none⟩) 48 c] w (Rt w (.tuple #[.agg (zW x y zb).toArray, .int .i64 0])) := by
 have H0 : Hid (_ ∧ _) := ⟨hm, Below.refl w.heap.size w⟩
 clear hm
 have C0 : Hid _ := c0
 clear c0
 have CI : Hid _ := ci
 clear ci
 go_enter Tryz.func26, Tryz.ntmps26
 refine wp_seq ?_
 refine zC 2 [.made (zW 0 0 false) 27, .q (.int .i64 0)] (sB H0) ?ho1 ?he1
 case ho1 => exact am (ex_madeP1 rfl) (ar trivial)
 intro J w1 l hM hl
 have H1 : Hid (Mm w1 ([(J 0, zW 0 0 false)] ++ _) ∧ _) := wB H0 hM hl [0]
 have o1_0 := vB H0 hM hl 0
 clear hM hl l
 generalize J 0 = J1_0 at H1 o1_0 ⊢
 clear J
 refine rN (wp_seq ?_)
 refine zC 8 [.q (.slice (some ⟨b, 0, none⟩) 48 c), .call (.tuple #[.agg (zW x y zb).toArray, .bool true]), .q (.tuple #[.agg (zW x y zb).toArray, .bool true]), .q (.agg (zW x y zb).toArray), .q (.bool true), .made (zW 0 0 false) 27, .laid 5 (zW 0 0 false) (zW x y zb), .q (.bool true)] (sB H1) ?ho2 ?he2 (hL := ?hL2)
 case hL2 => exact ⟨⟨_, rfl⟩, trivial⟩
 case ho2 => exact ar (ac (fun w' h => eC call53 (C0.out w' (h.one 1 rfl))) (ar (ag (ag (am (ex_madeP1 rfl) (ak (fun J => ⟨rfl, rfl, rfl, fun w' h => ex_laidT h rfl rfl As27 rfl rfl rfl⟩) (ar trivial)))))))
 intro J w2 l hM hl
 have H2 : Hid (Mm w2 ([(J 5, zW x y zb)] ++ _) ∧ _) := wB H1 hM hl [5]
 have o2_5 := vB H1 hM hl 5
 clear hM hl l H1
 generalize J 5 = J2_5 at H2 o2_5 ⊢
 clear J
 refine rN (wp_seq (wp_seq ?_))
 refine zD 2 [.q (.bool true), .q (.bool false)] H2 ?ho3 ?he3
 case ho3 => exact ar (ag trivial)
 intro _ w3 H3
 clear H2
 refine rN (wp_cond_false rfl ?_)
 refine wp_skip (zA ?_)
 refine wp_seq (wp_seq ?_)
 refine zD 3 [.q (.agg (zW x y zb).toArray), .call (.bool true), .q (.bool false)] H3 ?ho4 ?he4
 case ho4 => exact bT 0 Ai27 As27 (ac (fun w' h => eC call15 (CI.out w' (h.one 3 rfl))) (ag trivial))
 intro _ w4 H4
 clear H3
 refine rN (wp_cond_false rfl ?_)
 refine wp_skip (zA (wp_seq ?_))
 refine zD 1 [.q (.agg (zW x y zb).toArray)] H4 ?ho5 ?he5
 case ho5 => exact bT 0 Ai27 As27 trivial
 intro _ w5 H5
 clear H4
 refine zH (l := [1, 2]) rfl ?_
 refine sG rfl (fun h => ex_storeT (vs := zW x y zb) h 1 rfl rfl rfl rfl As27 rfl (Nat.le_of_ble_eq_true rfl)) 1 [_, (_, zW x y zb), _, _] H5 o1_0 fun w6 H6 => ?_
 clear H5
 refine zF (d := 3) rfl rfl rfl rfl ?_
 simp only [Act.put, sa, sz, ss]
 refine zE (zA (wp_ret ?_))
 repeat (first | refine zJ ?_ | refine zI ?_)
 have hf0 := var_T H6.out.1 1 rfl Ai27 As27 rfl
 refine bodyPost_ret (v := .tuple #[.agg (zW x y zb).toArray, .int .i64 0]) (by simp [results, Tryz.results26, asAddr, Act.eval, hf0]) rfl ?_
 exact ⟨rfl, H6.out.2⟩
set_option maxHeartbeats 4000000 in
theorem awake5_gen (ma0 ma1 : Nat) (maz : Bool) (f : Nat → Int) (cg : ∀ w, Calls Tryz.prog 9 #[] w (Rt w (.agg (zW ma0 ma1 maz).toArray))) (cb : ∀ w, Mm w [(2, dtab)] → Calls Tryz.prog 25 #[.agg (zW ma0 ma1 maz).toArray] w fun e w' => Below w.heap.size w w' ∧ ∃ g, e = .returned (.tuple #[.slice (some ⟨g, 0, none⟩) 48 48, .int .i64 0]) ∧ w.heap.size ≤ g ∧ g < w'.heap.size ∧ Blk w' g (by8 f 48)) (cr : ∀ g w, Mm w [(g, by8 f 48), (2, dtab)] → Calls Tryz.prog 26 #[.slice (some ⟨g, 0, none⟩) 48 48] w (Rt w (.tuple #[.agg (zW ma0 ma1 maz).toArray, .int .i64 0]))) (e0 : ∀ w, (Op.equalIn 10000 27 (.agg (zW ma0 ma1 maz).toArray) (.agg (zW ma0 ma1 maz).toArray)).run Tryz.prog w = .ok true w) (d1 : f 0 = 151) (d2 : f 1 = 241) (w : World) (hm : Mm w [(2, dtab)]) :
  Calls Tryz.prog 24 #[] w (Rt w (.bool true)) := by
 have H0 : Hid (_ ∧ _) := ⟨hm, Below.refl w.heap.size w⟩
 clear hm
 have CG : Hid _ := cg
 clear cg
 have CB : Hid _ := cb
 clear cb
 have CR : Hid _ := cr
 clear cr
 have E0 : Hid _ := e0
 clear e0
 go_enter Tryz.func24, Tryz.ntmps24
 refine wp_seq ?_
 refine zD 1 [.q (.bool false)] H0 ?ho1 ?he1
 case ho1 => exact ar trivial
 intro _ w1 H1
 refine rN (wp_seq ?_)
 refine zC 2 [.call (.agg (zW ma0 ma1 maz).toArray), .born (fun g => .tuple #[.slice (some ⟨g, 0, none⟩) 48 48, .int .i64 0]) (by8 f 48)] (sB H1) ?ho2 ?he2
 case ho2 => exact ak (fun J => ⟨rfl, fun w' h => eC call9 (CG.out w')⟩) (ak (fun J => ⟨rfl, fun w' h => eC call25 (CB.out w' (h.one 0 rfl))⟩) trivial)
 intro J w2 l hM hl
 have H2 : Hid (Mm w2 ([(J 1, by8 f 48)] ++ _) ∧ _) := wB H1 hM hl [1]
 have o2_1 := vB H1 hM hl 1
 clear hM hl l H1
 generalize J 1 = J2_1 at H2 o2_1 ⊢
 clear J
 refine zH (l := [2, 3, 4, 5, 6]) rfl ?_
 refine zF (d := 5) rfl rfl rfl rfl ?_
 simp only [Act.put, sa, sz, ss]
 refine zF (d := 8) (v := .slice (some ⟨J2_1, 0, none⟩) 48 48) (w' := w2) rfl rfl rfl (by go_simp) ?_
 simp only [Act.put, sa, sz, ss]
 refine zF (d := 9) (v := .int .i64 0) (w' := w2) rfl rfl rfl (by go_simp) ?_
 simp only [Act.put, sa, sz, ss]
 refine zF (d := 1) rfl rfl rfl rfl ?_
 simp only [Act.put, sa, sz, ss]
 refine zF (d := 2) rfl rfl rfl rfl ?_
 simp only [Act.put, sa, sz, ss]
 refine zE (zA (wp_seq ?_))
 refine zC 8 [.q (.slice (some ⟨J2_1, 0, none⟩) 48 48), .call (.tuple #[.agg (zW ma0 ma1 maz).toArray, .int .i64 0]), .q (.tuple #[.agg (zW ma0 ma1 maz).toArray, .int .i64 0]), .q (.agg (zW ma0 ma1 maz).toArray), .q (.int .i64 0), .made (zW 0 0 false) 27, .laid 5 (zW 0 0 false) (zW ma0 ma1 maz), .q (.int .i64 0)] (sB H2) ?ho3 ?he3 (hL := ?hL3)
 case hL3 => exact ⟨⟨_, rfl⟩, trivial⟩
 case ho3 => exact ar (ac (fun w' h => eC call26 (CR.out J2_1 w' (h.pick [0, 1] rfl (by decide)))) (ar (ag (ag (am (ex_madeP1 rfl) (ak (fun J => ⟨rfl, rfl, rfl, fun w' h => ex_laidT h rfl rfl As27 rfl rfl rfl⟩) (ar trivial)))))))
 intro J w3 l hM hl
 have H3 : Hid (Mm w3 ([(J 5, zW ma0 ma1 maz)] ++ _) ∧ _) := wB H2 hM hl [5]
 have o3_5 := vB H2 hM hl 5
 clear hM hl l H2
 generalize J 5 = J3_5 at H3 o3_5 ⊢
 clear J
 refine rN (wp_seq ?_)
 refine zS 29 [.q (.slice (some ⟨J2_1, 0, none⟩) 48 48), .q (.int .i64 48), .q (.bool true), .q (.bool true), .q (.slice (some ⟨J2_1, 0, none⟩) 48 48), .q (PT J2_1 0), .q (.int .u8 (f 0)), .q (.bool true), .q (.bool true), .q (.bool true), .q (.slice (some ⟨J2_1, 0, none⟩) 48 48), .q (PT J2_1 1), .q (.int .u8 (f 1)), .q (.bool true), .q (.bool true), .q (.bool true), .q (.int .i64 0), .q (.bool true), .q (.bool true), .q (.bool true), .q (.agg (zW ma0 ma1 maz).toArray), .call (.agg (zW ma0 ma1 maz).toArray), .q (.bool true), .q (.bool true), .q (.bool true), .q (.int .i64 0), .q (.bool true), .q (.bool true), .q (.bool true)] H3 ?ho4 ?he4 (hL := ?hL4)
 case hL4 => exact trivial
 case ho4 => exact ar (ag (ag (ar (ar (ag (aq (fun w' h => ex_loadC h 1 rfl rfl rfl Ai5 (by8_get _ (by decide))) (ag (ag (ar (ar (ag (aq (fun w' h => ex_loadC h 1 rfl rfl rfl Ai5 (by8_get _ (by decide))) (ag (ag (ar (ar (ag (ag (ar (bT 0 Ai27 As27 (ac (fun w' h => eC call9 (CG.out w')) (ak (fun J => ⟨rfl, fun w' _ => exec_eqT27 E0.out rfl rfl rfl⟩) (ag (ar (ar (ag (ag (ar trivial))))))))))))))))))))))))))))
 intro _ w4 H4
 clear H3
 refine rN (wp_ret ?_)
 repeat (first | refine zJ ?_ | refine zI ?_)
 refine bodyPost_ret (v := .bool true) (by simp [results, Tryz.results24, go_sem, *]) rfl ?_
 exact ⟨rfl, H4.out.2⟩
theorem ex_shl1 {ρ : Operand → Value} {o : Oper} {x y : Operand} {a : Int} {w : World} (ho : o.op = .binOp .shl 22 x y 150) (hx : ρ x = .int .u64 a) (hy : ρ y = .int .u64 1) :
  (execOp ρ o).run Tryz.prog w = .ok (.value (.int .u64 (IntKind.u64.wrap (a * 2 ^ 1)))) w := by
 simp only [execOp, ho, hx, hy]
 clear ho hx hy
 go_simp
theorem ex_shr63 {ρ : Operand → Value} {o : Oper} {x y : Operand} {a : Int} {w : World} (ho : o.op = .binOp .shr 22 x y 150) (hx : ρ x = .int .u64 a) (hy : ρ y = .int .u64 63) :
  (execOp ρ o).run Tryz.prog w = .ok (.value (.int .u64 (a / 2 ^ 63))) w := by
 simp only [execOp, ho, hx, hy]
 clear ho hx hy
 go_simp
set_option maxHeartbeats 8000000 in
theorem byWord_1 {α : Type} {en : α → Nat} {fa fs fm : α → α → α} {fi : α → α} {z u b : α} {g : Nat} {tn : Value} (_C : Fd1 g en fa fs fm fi z) (tw tg : EC.Tri α → EC.Tri α) (T0 : EC.Tri α) (A : Nat → EC.Tri α) (wo : Nat → Int) (dg : Nat → Nat)
  (cz : ∀ w, Mm w [(g, zT pB), (2, dtab)] → Calls Tryz.prog 89 #[.agg (G1 g tn (en u) (en b)).toArray] w (Rt w (V [en ((A 0).1), en ((A 0).2.1), en ((A 0).2.2)])))
  (ctw : ∀ T w, Mm w [(g, zT pB), (2, dtab)] → Calls Tryz.prog 109 #[.agg (G1 g tn (en u) (en b)).toArray, V [en T.1, en T.2.1, en T.2.2]] w (Rt w (V [en ((tw T).1), en ((tw T).2.1), en ((tw T).2.2)])))
  (ctg : ∀ T w, Mm w [(g, zT pB), (2, dtab)] → Calls Tryz.prog 88 #[.agg (G1 g tn (en u) (en b)).toArray, V [en T.1, en T.2.1, en T.2.2], V [en T0.1, en T0.2.1, en T0.2.2]] w (Rt w (V [en ((tg T).1), en ((tg T).2.1), en ((tg T).2.2)])))
  (hd : ∀ k, wo k / 2 ^ 63 = ((dg k : Nat) : Int)) (hw : ∀ k, IntKind.u64.wrap (wo k * 2 ^ 1) = wo (k + 1))
  (ha0 : ∀ k, dg k ≠ 1 → tw (A k) = A (k + 1)) (ha1 : ∀ k, dg k = 1 → tg (tw (A k)) = A (k + 1)) (w : World) (hm : Mm w [(g, zT pB), (2, dtab)]) :
  Calls Tryz.prog 75 #[.agg (G1 g tn (en u) (en b)).toArray, V [en T0.1, en T0.2.1, en T0.2.2], .int .u64 (wo 0)] w (Rt w (V [en ((A 64).1), en ((A 64).2.1), en ((A 64).2.2)])) := by
 have H0 : Hid (_ ∧ _) := ⟨hm, Below.refl w.heap.size w⟩
 clear hm
 have CZ : Hid _ := cz
 clear cz
 have CTW : Hid _ := ctw
 clear ctw
 have CTG : Hid _ := ctg
 clear ctg
 have HD : Hid _ := hd
 clear hd
 have HW : Hid _ := hw
 clear hw
 have HA0 : Hid _ := ha0
 clear ha0
 have HA1 : Hid _ := ha1
 clear ha1
 go_enter Tryz.func75, Tryz.ntmps75
 refine wp_seq ?_
 refine zC 3 [.made (G1 g tn (en u) (en b)) 82, .made (cel [en T0.1, en T0.2.1, en T0.2.2]) 124, .made (cel [0, 0, 0]) 124] (sB H0) ?ho1 ?he1
 case ho1 => exact am (zQ rfl rfl) (am (ex_boxA rfl rfl) (am (ex_madeTN rfl) trivial))
 intro J w1 l hM hl
 have H1 : Hid (Mm w1 ([(J 0, G1 g tn (en u) (en b)), (J 1, cel [en T0.1, en T0.2.1, en T0.2.2]), (J 2, cel [0, 0, 0])] ++ _) ∧ _) := wB H0 hM hl [0, 1, 2]
 have o1_0 := vB H0 hM hl 0
 have o1_1 := vB H0 hM hl 1
 have o1_2 := vB H0 hM hl 2
 clear hM hl l
 generalize J 0 = J1_0 at H1 o1_0 ⊢
 generalize J 1 = J1_1 at H1 o1_1 ⊢
 generalize J 2 = J1_2 at H1 o1_2 ⊢
 clear J
 refine rN (wp_seq ?_)
 refine zC 4 [.q (.agg (G1 g tn (en u) (en b)).toArray), .call (V [en ((A 0).1), en ((A 0).2.1), en ((A 0).2.2)]), .made (cel [0, 0, 0]) 124, .laid 2 (cel [0, 0, 0]) (cel [en ((A 0).1), en ((A 0).2.1), en ((A 0).2.2)])] (sB H1) ?ho2 ?he2 (hL := ?hL2)
 case hL2 => exact ⟨⟨_, rfl⟩, trivial⟩
 case ho2 => exact bT 0 Ai82 As82 (ac (fun w' h => eC call89 (CZ.out w' (h.two 3 4 rfl rfl (by decide)))) (am (ex_madeTN rfl) (ak (fun J => ⟨rfl, rfl, rfl, fun w' h => ex_laidA h rfl As124 rfl rfl rfl⟩) trivial)))
 intro J w2 l hM hl
 have H2 : Hid (Mm w2 ([(J 2, cel [en ((A 0).1), en ((A 0).2.1), en ((A 0).2.2)])] ++ _) ∧ _) := wB H1 hM hl [2]
 have o2_2 := vB H1 hM hl 2
 clear hM hl l H1
 generalize J 2 = J2_2 at H2 o2_2 ⊢
 clear J
 refine rN (wp_seq (wp_seq ?_))
 refine zD 1 [.q (.int .i64 0)] H2 ?ho3 ?he3
 case ho3 => exact ar trivial
 intro _ w3 H3
 clear H2
 refine rN (wp_block ?_)
 refine loop_ghost (α := Nat) (fun k a' w' => ∃ s0 : Nat → Value, a' = ⟨#[.agg (G1 g tn (en u) (en b)).toArray, V [en T0.1, en T0.2.1, en T0.2.2], .int .u64 (wo k), PT J1_0 0, PT J1_1 0, undef, PT J1_2 0, PT J2_2 0, .agg (G1 g tn (en u) (en b)).toArray, V [en ((A 0).1), en ((A 0).2.1), en ((A 0).2.2)], .int .i64 ((k : Nat) : Int), s0 11, s0 12, s0 13, s0 14, s0 15, s0 16, s0 17, s0 18, s0 19, s0 20, s0 21, s0 22, s0 23, s0 24, undef], []⟩ ∧ (Mm w' [(J2_2, cel [en ((A k).1), en ((A k).2.1), en ((A k).2.2)]), (J1_0, G1 g tn (en u) (en b)), (J1_1, cel [en T0.1, en T0.2.1, en T0.2.2]), (J1_2, cel [0, 0, 0]), (g, zT pB), (2, dtab)] ∧ Below w.heap.size w w') ∧ k ≤ 64) (fun k => 64 - k) 0 ?st0 ?rd0
 case st0 => exact ⟨(slotfn [ud, ud, ud, ud, ud, ud, ud, ud, ud, ud, ud, ud, ud, ud, ud, ud, ud, ud, ud, ud, ud, ud, ud, ud, ud]), rfl, ⟨H3.out.1, H3.out.2⟩, by omega⟩
 intro k a' w4 hI
 obtain ⟨s0, rfl, hMB, hk0⟩ := hI
 have H4 : Hid (_ ∧ _) := hMB
 clear hMB H3
 by_cases hlt0 : k < 64
 ·have hrd : True := trivial
  clear hrd
  by_cases hdz : dg k = 1
  ·have hrd : True := trivial
   clear hrd
   have hlt : k < 64 := by omega
   refine wp_seq ?_
   refine zD 1 [.q (.bool true)] H4 ?ho4 ?he4
   case ho4 => exact ak (by refine fun J => ⟨rfl, fun w' h => ?_⟩; clear h; go_simp <;> omega) trivial
   intro _ w5 H5
   clear H4
   refine rN (wp_seq ?_)
   refine wp_cond_true rfl (wp_skip ?_)
   refine zA (wp_seq ?_)
   refine wp_block (wp_seq ?_)
   refine zD 3 [.q (.agg (G1 g tn (en u) (en b)).toArray), .q (V [en ((A k).1), en ((A k).2.1), en ((A k).2.2)]), .call (V [en ((tw (A k)).1), en ((tw (A k)).2.1), en ((tw (A k)).2.2)])] H5 ?ho5 ?he5
   case ho5 => exact bT 1 Ai82 As82 (bA 0 3 0 Ai124 As124 (ac (fun w' h => eC call109 (CTW.out (A k) w' (h.two 4 5 rfl rfl (by decide)))) trivial))
   intro _ w6 H6
   clear H5
   refine zH (l := [3]) rfl ?_
   refine sF 0 [en ((tw (A k)).1), en ((tw (A k)).2.1), en ((tw (A k)).2.2)] [_, _, _, _, _, _] H6 o2_2 As124 fun w7 H7 => ?_
   clear H6
   refine zE (zA ?_)
   refine wp_seq (wp_seq ?_)
   refine zD 3 [.q (.int .u64 (wo k)), .q (.int .u64 ((dg k : Nat) : Int)), .q (.bool true)] H7 ?ho6 ?he6
   case ho6 => exact ar (ak (fun J => ⟨rfl, fun w' _ => by rw [← HD.out k]; exact ex_shr63 rfl rfl rfl⟩) (ak (by refine fun J => ⟨rfl, fun w' h => ?_⟩; clear h; go_simp <;> omega) trivial))
   intro _ w8 H8
   clear H7
   refine rN (wp_cond_true rfl ?_)
   refine zD 4 [.q (.agg (G1 g tn (en u) (en b)).toArray), .q (V [en ((tw (A k)).1), en ((tw (A k)).2.1), en ((tw (A k)).2.2)]), .q (V [en T0.1, en T0.2.1, en T0.2.2]), .call (V [en ((tg (tw (A k))).1), en ((tg (tw (A k))).2.1), en ((tg (tw (A k))).2.2)])] H8 ?ho7 ?he7
   case ho7 => exact bT 1 Ai82 As82 (bA 0 3 0 Ai124 As124 (bA 0 3 2 Ai124 As124 (ac (fun w' h => eC call88 (CTG.out (tw (A k)) w' (h.two 4 5 rfl rfl (by decide)))) trivial)))
   intro _ w9 H9
   clear H8
   refine zH (l := [4]) rfl ?_
   refine sF 0 [en ((tg (tw (A k))).1), en ((tg (tw (A k))).2.1), en ((tg (tw (A k))).2.2)] [_, _, _, _, _, _] H9 o2_2 As124 fun w10 H10 => ?_
   clear H9
   refine zE (zA ?_)
   refine zD 2 [.q (.int .u64 (wo k)), .q (.int .u64 (wo (k + 1)))] H10 ?ho8 ?he8
   case ho8 => exact ar (ak (fun J => ⟨rfl, fun w' _ => by rw [← HW.out k]; exact ex_shl1 rfl rfl rfl⟩) trivial)
   intro _ w11 H11
   clear H10
   refine zH (l := [2]) rfl ?_
   refine zF (d := 2) rfl rfl rfl rfl ?_
   simp only [Act.put, sa, sz, ss]
   refine zE (zY (zA ?_))
   refine zD 1 [.q (.int .i64 ((k + 1 : Nat) : Int))] H11 ?ho9 ?he9
   case ho9 => exact ak (by refine fun J => ⟨rfl, fun w' h => ?_⟩; clear h; go_simp; rw [IntKind.wrap_i64]; omega) trivial
   intro _ w12 H12
   clear H11
   refine zH (l := [1]) rfl ?_
   refine zF (d := 10) rfl rfl rfl rfl ?_
   simp only [Act.put, sa, sz, ss]
   refine zE (zA ?_)
   exact ⟨k + 1, ⟨(slotfn [ud, ud, ud, ud, ud, ud, ud, ud, ud, ud, ud, .bool true, .agg (G1 g tn (en u) (en b)).toArray, V [en ((A k).1), en ((A k).2.1), en ((A k).2.2)], V [en ((tw (A k)).1), en ((tw (A k)).2.1), en ((tw (A k)).2.2)], .int .u64 (wo k), .int .u64 ((dg k : Nat) : Int), .bool true, .agg (G1 g tn (en u) (en b)).toArray, V [en ((tw (A k)).1), en ((tw (A k)).2.1), en ((tw (A k)).2.2)], V [en T0.1, en T0.2.1, en T0.2.2], V [en ((tg (tw (A k))).1), en ((tg (tw (A k))).2.1), en ((tg (tw (A k))).2.2)], .int .u64 (wo k), .int .u64 (wo (k + 1)), .int .i64 ((k + 1 : Nat) : Int)]), rfl, ⟨(H12.out.1).atk (by rw [HA1.out k hdz]), H12.out.2⟩, by omega⟩, by omega⟩
  ·have hrd : True := trivial
   clear hrd
   have hlt : k < 64 := by omega
   refine wp_seq ?_
   refine zD 1 [.q (.bool true)] H4 ?ho10 ?he10
   case ho10 => exact ak (by refine fun J => ⟨rfl, fun w' h => ?_⟩; clear h; go_simp <;> omega) trivial
   intro _ w13 H13
   clear H4
   refine rN (wp_seq ?_)
   refine wp_cond_true rfl (wp_skip ?_)
   refine zA (wp_seq ?_)
   refine wp_block (wp_seq ?_)
   refine zD 3 [.q (.agg (G1 g tn (en u) (en b)).toArray), .q (V [en ((A k).1), en ((A k).2.1), en ((A k).2.2)]), .call (V [en ((tw (A k)).1), en ((tw (A k)).2.1), en ((tw (A k)).2.2)])] H13 ?ho11 ?he11
   case ho11 => exact bT 1 Ai82 As82 (bA 0 3 0 Ai124 As124 (ac (fun w' h => eC call109 (CTW.out (A k) w' (h.two 4 5 rfl rfl (by decide)))) trivial))
   intro _ w14 H14
   clear H13
   refine zH (l := [3]) rfl ?_
   refine sF 0 [en ((tw (A k)).1), en ((tw (A k)).2.1), en ((tw (A k)).2.2)] [_, _, _, _, _, _] H14 o2_2 As124 fun w15 H15 => ?_
   clear H14
   refine zE (zA ?_)
   refine wp_seq (wp_seq ?_)
   refine zD 3 [.q (.int .u64 (wo k)), .q (.int .u64 ((dg k : Nat) : Int)), .q (.bool false)] H15 ?ho12 ?he12
   case ho12 => exact ar (ak (fun J => ⟨rfl, fun w' _ => by rw [← HD.out k]; exact ex_shr63 rfl rfl rfl⟩) (ak (by refine fun J => ⟨rfl, fun w' h => ?_⟩; clear h; go_simp <;> omega) trivial))
   intro _ w16 H16
   clear H15
   refine rN (wp_cond_false rfl ?_)
   refine wp_skip (zA ?_)
   refine zD 2 [.q (.int .u64 (wo k)), .q (.int .u64 (wo (k + 1)))] H16 ?ho13 ?he13
   case ho13 => exact ar (ak (fun J => ⟨rfl, fun w' _ => by rw [← HW.out k]; exact ex_shl1 rfl rfl rfl⟩) trivial)
   intro _ w17 H17
   clear H16
   refine zH (l := [2]) rfl ?_
   refine zF (d := 2) rfl rfl rfl rfl ?_
   simp only [Act.put, sa, sz, ss]
   refine zE (zY (zA ?_))
   refine zD 1 [.q (.int .i64 ((k + 1 : Nat) : Int))] H17 ?ho14 ?he14
   case ho14 => exact ak (by refine fun J => ⟨rfl, fun w' h => ?_⟩; clear h; go_simp; rw [IntKind.wrap_i64]; omega) trivial
   intro _ w18 H18
   clear H17
   refine zH (l := [1]) rfl ?_
   refine zF (d := 10) rfl rfl rfl rfl ?_
   simp only [Act.put, sa, sz, ss]
   refine zE (zA ?_)
   exact ⟨k + 1, ⟨(slotfn [ud, ud, ud, ud, ud, ud, ud, ud, ud, ud, ud, .bool true, .agg (G1 g tn (en u) (en b)).toArray, V [en ((A k).1), en ((A k).2.1), en ((A k).2.2)], V [en ((tw (A k)).1), en ((tw (A k)).2.1), en ((tw (A k)).2.2)], .int .u64 (wo k), .int .u64 ((dg k : Nat) : Int), .bool false, s0 18, s0 19, s0 20, s0 21, .int .u64 (wo k), .int .u64 (wo (k + 1)), .int .i64 ((k + 1 : Nat) : Int)]), rfl, ⟨(H18.out.1).atk (by rw [HA0.out k hdz]), H18.out.2⟩, by omega⟩, by omega⟩
 have hk64 : k = 64 := by omega
 subst hk64
 refine wp_seq ?_
 refine zD 1 [.q (.bool false)] H4 ?ho15 ?he15
 case ho15 => exact ak (by refine fun J => ⟨rfl, fun w' h => ?_⟩; clear h; go_simp <;> omega) trivial
 intro _ w19 H19
 clear H4
 refine rN (wp_seq (wp_cond_false rfl ?_))
 refine wp_exit ?_
 repeat refine then_exit ?_
 refine block_exit ?_
 refine zA (wp_seq ?_)
 refine zD 1 [.q (V [en ((A 64).1), en ((A 64).2.1), en ((A 64).2.2)])] H19 ?ho16 ?he16
 case ho16 => exact bA 0 3 0 Ai124 As124 trivial
 intro _ w20 H20
 clear H19
 refine zH (l := [1]) rfl ?_
 refine sF 3 [en ((A 64).1), en ((A 64).2.1), en ((A 64).2.2)] [_, _, _, _, _, _] H20 o1_2 As124 fun w21 H21 => ?_
 clear H20
 refine zE (zA (wp_ret ?_))
 repeat (first | refine zJ ?_ | refine zI ?_)
 have hf0 := cel_var (k := 3) H21.out.1 3 rfl Ai124 As124 rfl
 refine bodyPost_ret (v := V [en ((A 64).1), en ((A 64).2.1), en ((A 64).2.2)]) (by simp [results, Tryz.results75, asAddr, hf0]) rfl ?_
 exact ⟨rfl, H21.out.2⟩
set_option maxHeartbeats 2000000 in
theorem turn_1 {α : Type} {en : α → Nat} {fa fs fm : α → α → α} {fi : α → α} {z : α} {g : Nat} (C : Fd1 g en fa fs fm fi z) (x t3 : α) (y gx gy : Nat) (w : World) (hm : Mm w [(g, zT pB), (2, dtab), (gx, [PT g 0]), (gy, zB (en t3))]) :
  Calls Tryz.prog 73 #[N (en x), N y, PT gx 0, PT gy 0] w (Rt w (.tuple #[N (en (fm x t3)), N y])) := by
 have H0 : Hid (_ ∧ _) := ⟨hm, Below.refl w.heap.size w⟩
 clear hm
 go_enter Tryz.func73, Tryz.ntmps73
 refine wp_seq ?_
 refine zC 4 [.made (zB (en x)) 24, .made (zB y) 24, .made zero6 24, .made zero6 24] (sB H0) ?ho1 ?he1
 case ho1 => exact am (zU rfl rfl) (am (zU rfl rfl) (am (zG rfl) (am (zG rfl) trivial)))
 intro J w1 l hM hl
 have H1 : Hid (Mm w1 ([(J 0, zB (en x)), (J 1, zB y), (J 2, zero6), (J 3, zero6)] ++ _) ∧ _) := wB H0 hM hl [0, 1, 2, 3]
 have o1_0 := vB H0 hM hl 0
 have o1_1 := vB H0 hM hl 1
 have o1_2 := vB H0 hM hl 2
 have o1_3 := vB H0 hM hl 3
 clear hM hl l
 generalize J 0 = J1_0 at H1 o1_0 ⊢
 generalize J 1 = J1_1 at H1 o1_1 ⊢
 generalize J 2 = J1_2 at H1 o1_2 ⊢
 generalize J 3 = J1_3 at H1 o1_3 ⊢
 clear J
 refine rN (wp_seq ?_)
 refine walk_put2 (by kernel_rfl) 5 [4] [.q (PT g 0), .q (N (en x)), .q (N (en t3)), .call (N (en (fm x t3))), .q (N y)] _ ?pre2 ?F2 _ ?hpre2 (fun J => ?hF2) (by kernel_rfl) rfl trivial (sB H1) ?ho2 ?hla2 ?he2
 case hpre2 => simp only [tk, tz]; rfl
 case hF2 => simp only [zZ, Kind.val, Act.put, sa, sz, ss]; rfl
 case ho2 =>
  refine bC 6 Ai39 ?_
  refine bN 0 ?_
  refine bN 7 ?_
  refine ak (fun J => ⟨rfl, fun w' h => eC call70 (C.cm _ _ w' (h.two 4 5 rfl rfl (by decide)))⟩) ?_
  refine bN 1 ?_
  exact trivial
 case hla2 => exact rfl
 intro J w2 l hM hl
 have H2 := keepB H1 hM.below
 clear hM hl l H1 J
 have H3 : Hid (Mm (w2.setCells J1_2 0 (zB (en (fm x t3)))) [(J1_0, zB (en x)), (J1_1, zB y), (J1_2, zB (en (fm x t3))), (J1_3, zero6), (g, zT pB), (2, dtab), (gx, [PT g 0]), (gy, zB (en t3))] ∧ Below w.heap.size w (w2.setCells J1_2 0 (zB (en (fm x t3))))) := ⟨H2.out.1.put 2 (off := 0) (vs := zB (en (fm x t3))) rfl (Nat.le_of_ble_eq_true rfl), zV _ o1_2.out _ _ _ H2.out.2⟩
 refine ⟨_, zL H2.out.1 2 rfl rfl rfl rfl (Nat.le_of_ble_eq_true rfl), ⟨⟨_, _, rfl, rfl, rfl, ex_load6 H3.out.1 1 rfl rfl rfl rfl⟩, trivial⟩, ?_⟩
 clear H2
 generalize hgw : World.setCells _ _ _ _ = w3 at H3 ⊢
 clear hgw
 refine zH (l := [6]) rfl ?_
 refine sG rfl (fun h => zL h 3 rfl rfl rfl rfl (Nat.le_of_ble_eq_true rfl)) 3 [_, _, _, (_, zB y), _, _, _, _] H3 o1_3 fun w4 H4 => ?_
 clear H3
 refine zE (zA (wp_ret ?_))
 repeat (first | refine zJ ?_ | refine zI ?_)
 have c0 := H4.out.1.get 2 rfl 0 rfl
 have c1 := H4.out.1.get 2 rfl 1 rfl
 have c2 := H4.out.1.get 2 rfl 2 rfl
 have c3 := H4.out.1.get 2 rfl 3 rfl
 have c4 := H4.out.1.get 2 rfl 4 rfl
 have c5 := H4.out.1.get 2 rfl 5 rfl
 have c1_0 := H4.out.1.get 3 rfl 0 rfl
 have c1_1 := H4.out.1.get 3 rfl 1 rfl
 have c1_2 := H4.out.1.get 3 rfl 2 rfl
 have c1_3 := H4.out.1.get 3 rfl 3 rfl
 have c1_4 := H4.out.1.get 3 rfl 4 rfl
 have c1_5 := H4.out.1.get 3 rfl 5 rfl
 refine bodyPost_ret (v := .tuple #[N (en (fm x t3)), N y]) (by simp [results, Tryz.results73, go_sem, *]) rfl ?_
 exact ⟨rfl, H4.out.2⟩
theorem inZ_1 {α : Type} {en : α → Nat} {fa fs fm : α → α → α} {fi : α → α} {z u b : α} {g : Nat} (_C : Fd1 g en fa fs fm fi z) (t3 : α) (gx gy : Nat) (x y : Nat) (be : Bool) (ck : ∀ w, Mm w [(g, zT pB), (2, dtab)] → Calls Tryz.prog 45 #[.agg (G1 g (.func (.func 73) #[] #[PT gx 0, PT gy 0]) (en u) (en b)).toArray, .agg (zW x y true).toArray] w (Rt w (.bool be))) (w : World) (hm : Mm w [(g, zT pB), (2, dtab), (gx, [PT g 0]), (gy, zB (en t3))]) :
  Calls Tryz.prog 42 #[.agg (G1 g (.func (.func 73) #[] #[PT gx 0, PT gy 0]) (en u) (en b)).toArray, .agg (zW x y true).toArray] w (Rt w (.bool be)) := by
 have H0 : Hid (_ ∧ _) := ⟨hm, Below.refl w.heap.size w⟩
 clear hm
 have CK : Hid _ := ck
 clear ck
 go_enter Tryz.func42, Tryz.ntmps42
 refine wp_seq ?_
 refine zC 3 [.made (G1 g (.func (.func 73) #[] #[PT gx 0, PT gy 0]) (en u) (en b)) 82, .made (zW x y true) 85, .q (.bool false)] (sB H0) ?ho1 ?he1
 case ho1 => exact am (zQ rfl rfl) (am (zQ rfl rfl) (ar trivial))
 intro J w1 l hM hl
 have H1 : Hid (Mm w1 ([(J 0, G1 g (.func (.func 73) #[] #[PT gx 0, PT gy 0]) (en u) (en b)), (J 1, zW x y true)] ++ _) ∧ _) := wB H0 hM hl [0, 1]
 have o1_0 := vB H0 hM hl 0
 have o1_1 := vB H0 hM hl 1
 clear hM hl l
 generalize J 0 = J1_0 at H1 o1_0 ⊢
 generalize J 1 = J1_1 at H1 o1_1 ⊢
 clear J
 refine rN (wp_seq (wp_seq ?_))
 refine zD 8 [.q (PT J1_1 12), .q (.bool true), .q (.bool true), .gone, .gone, .gone, .gone, .q (.bool true)] H1 ?ho2 ?he2
 case ho2 => exact ag (bC 1 Ai4 (ar (ak (fun J => rfl) (ak (fun J => rfl) (ak (fun J => rfl) (ak (fun J => rfl) (ag trivial)))))))
 intro _ w2 H2
 clear H1
 refine rN (wp_cond_true rfl (wp_seq ?_))
 refine zD 4 [.q (.agg (G1 g (.func (.func 73) #[] #[PT gx 0, PT gy 0]) (en u) (en b)).toArray), .q (.agg (zW x y true).toArray), .call (.bool be), .q (.bool be)] H2 ?ho3 ?he3
 case ho3 => exact bT 0 Ai82 As82 (bT 1 Ai85 As85 (ac (fun w' h => eC call45 (CK.out w' (h.two 2 3 rfl rfl (by decide)))) (ar trivial)))
 intro _ w3 H3
 clear H2
 refine rN (wp_ret ?_)
 repeat (first | refine zJ ?_ | refine zI ?_)
 refine bodyPost_ret (v := .bool be) (by simp [results, Tryz.results42, go_sem, *]) rfl ?_
 exact ⟨rfl, H3.out.2⟩
theorem inN_1 {α : Type} {en : α → Nat} {fa fs fm : α → α → α} {fi : α → α} {z u b : α} {g : Nat} (_C : Fd1 g en fa fs fm fi z) (t3 : α) (gx gy : Nat) (x y : Nat) (ck : ∀ w, Mm w [(g, zT pB), (2, dtab)] → Calls Tryz.prog 45 #[.agg (G1 g (.func (.func 73) #[] #[PT gx 0, PT gy 0]) (en u) (en b)).toArray, .agg (zW x y false).toArray] w (Rt w (.bool false))) (w : World) (hm : Mm w [(g, zT pB), (2, dtab), (gx, [PT g 0]), (gy, zB (en t3))]) :
  Calls Tryz.prog 42 #[.agg (G1 g (.func (.func 73) #[] #[PT gx 0, PT gy 0]) (en u) (en b)).toArray, .agg (zW x y false).toArray] w (Rt w (.bool false)) := by
 have H0 : Hid (_ ∧ _) := ⟨hm, Below.refl w.heap.size w⟩
 clear hm
 have CK : Hid _ := ck
 clear ck
 go_enter Tryz.func42, Tryz.ntmps42
 refine wp_seq ?_
 refine zC 3 [.made (G1 g (.func (.func 73) #[] #[PT gx 0, PT gy 0]) (en u) (en b)) 82, .made (zW x y false) 85, .q (.bool false)] (sB H0) ?ho1 ?he1
 case ho1 => exact am (zQ rfl rfl) (am (zQ rfl rfl) (ar trivial))
 intro J w1 l hM hl
 have H1 : Hid (Mm w1 ([(J 0, G1 g (.func (.func 73) #[] #[PT gx 0, PT gy 0]) (en u) (en b)), (J 1, zW x y false)] ++ _) ∧ _) := wB H0 hM hl [0, 1]
 have o1_0 := vB H0 hM hl 0
 have o1_1 := vB H0 hM hl 1
 clear hM hl l
 generalize J 0 = J1_0 at H1 o1_0 ⊢
 generalize J 1 = J1_1 at H1 o1_1 ⊢
 clear J
 refine rN (wp_seq (wp_seq ?_))
 refine zD 8 [.q (PT J1_1 12), .q (.bool false), .q (.bool false), .q (.agg (G1 g (.func (.func 73) #[] #[PT gx 0, PT gy 0]) (en u) (en b)).toArray), .q (.agg (zW x y false).toArray), .call (.bool false), .q (.bool true), .q (.bool true)] H1 ?ho2 ?he2
 case ho2 => exact ag (bC 1 Ai4 (ar (bT 0 Ai82 As82 (bT 1 Ai85 As85 (ac (fun w' h => eC call45 (CK.out w' (h.two 2 3 rfl rfl (by decide)))) (ag (ag trivial)))))))
 intro _ w2 H2
 clear H1
 refine rN (wp_cond_true rfl (wp_seq ?_))
 refine zD 4 [.q (.agg (G1 g (.func (.func 73) #[] #[PT gx 0, PT gy 0]) (en u) (en b)).toArray), .q (.agg (zW x y false).toArray), .call (.bool false), .q (.bool false)] H2 ?ho3 ?he3
 case ho3 => exact bT 0 Ai82 As82 (bT 1 Ai85 As85 (ac (fun w' h => eC call45 (CK.out w' (h.two 2 3 rfl rfl (by decide)))) (ar trivial)))
 intro _ w3 H3
 clear H2
 refine rN (wp_ret ?_)
 repeat (first | refine zJ ?_ | refine zI ?_)
 refine bodyPost_ret (v := .bool false) (by simp [results, Tryz.results42, go_sem, *]) rfl ?_
 exact ⟨rfl, H3.out.2⟩
set_option maxHeartbeats 4000000 in
theorem inF_1 {α : Type} {en : α → Nat} {fa fs fm : α → α → α} {fi : α → α} {z u b : α} {g : Nat} (C : Fd1 g en fa fs fm fi z) (t3 : α) (gx gy : Nat) (S0 S1 S2 : EC.Tri α) (x y tx ty : α) (ck : ∀ w, Mm w [(g, zT pB), (2, dtab)] → Calls Tryz.prog 45 #[.agg (G1 g (.func (.func 73) #[] #[PT gx 0, PT gy 0]) (en u) (en b)).toArray, .agg (zW (en x) (en y) false).toArray] w (Rt w (.bool true))) (cl : ∀ w, Mm w [(g, zT pB), (2, dtab)] → Calls Tryz.prog 74 #[.agg (G1 g (.func (.func 73) #[] #[PT gx 0, PT gy 0]) (en u) (en b)).toArray, .agg (zW (en x) (en y) false).toArray] w (Rt w (V [en S0.1, en S0.2.1, en S0.2.2]))) (cw0 : ∀ w, Mm w [(g, zT pB), (2, dtab)] → Calls Tryz.prog 75 #[.agg (G1 g (.func (.func 73) #[] #[PT gx 0, PT gy 0]) (en u) (en b)).toArray, V [en S0.1, en S0.2.1, en S0.2.2], .int .u64 15132376222941642752] w (Rt w (V [en S1.1, en S1.2.1, en S1.2.2]))) (cw1 : ∀ w, Mm w [(g, zT pB), (2, dtab)] → Calls Tryz.prog 75 #[.agg (G1 g (.func (.func 73) #[] #[PT gx 0, PT gy 0]) (en u) (en b)).toArray, V [en S1.1, en S1.2.1, en S1.2.2], .int .u64 15132376222941642752] w (Rt w (V [en S2.1, en S2.2.1, en S2.2.2]))) (ct : ∀ w, Mm w [(g, zT pB), (2, dtab), (gx, [PT g 0]), (gy, zB (en t3))] → Calls Tryz.prog 73 #[N (en x), N (en y), PT gx 0, PT gy 0] w (Rt w (.tuple #[N (en tx), N (en ty)]))) (ea : ∀ w, (Op.equalIn 10000 24 (N (en S2.1)) (N (en (fm tx S2.2.2)))).run Tryz.prog w = .ok false w) (w : World) (hm : Mm w [(g, zT pB), (2, dtab), (gx, [PT g 0]), (gy, zB (en t3))]) :
  Calls Tryz.prog 42 #[.agg (G1 g (.func (.func 73) #[] #[PT gx 0, PT gy 0]) (en u) (en b)).toArray, .agg (zW (en x) (en y) false).toArray] w (Rt w (.bool false)) := by
 have H0 : Hid (_ ∧ _) := ⟨hm, Below.refl w.heap.size w⟩
 clear hm
 have CK : Hid _ := ck
 clear ck
 have CL : Hid _ := cl
 clear cl
 have CW0 : Hid _ := cw0
 clear cw0
 have CW1 : Hid _ := cw1
 clear cw1
 have CT : Hid _ := ct
 clear ct
 have EA : Hid _ := ea
 clear ea
 go_enter Tryz.func42, Tryz.ntmps42
 refine wp_seq ?_
 refine zC 3 [.made (G1 g (.func (.func 73) #[] #[PT gx 0, PT gy 0]) (en u) (en b)) 82, .made (zW (en x) (en y) false) 85, .q (.bool false)] (sB H0) ?ho1 ?he1
 case ho1 => exact am (zQ rfl rfl) (am (zQ rfl rfl) (ar trivial))
 intro J w1 l hM hl
 have H1 : Hid (Mm w1 ([(J 0, G1 g (.func (.func 73) #[] #[PT gx 0, PT gy 0]) (en u) (en b)), (J 1, zW (en x) (en y) false)] ++ _) ∧ _) := wB H0 hM hl [0, 1]
 have o1_0 := vB H0 hM hl 0
 have o1_1 := vB H0 hM hl 1
 clear hM hl l
 generalize J 0 = J1_0 at H1 o1_0 ⊢
 generalize J 1 = J1_1 at H1 o1_1 ⊢
 clear J
 refine rN (wp_seq (wp_seq ?_))
 refine zD 8 [.q (PT J1_1 12), .q (.bool false), .q (.bool false), .q (.agg (G1 g (.func (.func 73) #[] #[PT gx 0, PT gy 0]) (en u) (en b)).toArray), .q (.agg (zW (en x) (en y) false).toArray), .call (.bool true), .q (.bool false), .q (.bool false)] H1 ?ho2 ?he2
 case ho2 => exact ag (bC 1 Ai4 (ar (bT 0 Ai82 As82 (bT 1 Ai85 As85 (ac (fun w' h => eC call45 (CK.out w' (h.two 2 3 rfl rfl (by decide)))) (ag (ag trivial)))))))
 intro _ w2 H2
 clear H1
 refine rN (wp_cond_false rfl ?_)
 refine wp_skip (zA (wp_seq ?_))
 refine zC 5 [.q (.agg (G1 g (.func (.func 73) #[] #[PT gx 0, PT gy 0]) (en u) (en b)).toArray), .q (.agg (zW (en x) (en y) false).toArray), .call (V [en S0.1, en S0.2.1, en S0.2.2]), .made (cel [0, 0, 0]) 124, .laid 3 (cel [0, 0, 0]) (cel [en S0.1, en S0.2.1, en S0.2.2])] (sB H2) ?ho3 ?he3 (hL := ?hL3)
 case hL3 => exact ⟨⟨_, rfl⟩, trivial⟩
 case ho3 => exact bT 0 Ai82 As82 (bT 1 Ai85 As85 (ac (fun w' h => eC call74 (CL.out w' (h.two 2 3 rfl rfl (by decide)))) (am (ex_madeTN rfl) (ak (fun J => ⟨rfl, rfl, rfl, fun w' h => ex_laidA h rfl As124 rfl rfl rfl⟩) trivial))))
 intro J w3 l hM hl
 have H3 : Hid (Mm w3 ([(J 3, cel [en S0.1, en S0.2.1, en S0.2.2])] ++ _) ∧ _) := wB H2 hM hl [3]
 have o3_3 := vB H2 hM hl 3
 clear hM hl l H2
 generalize J 3 = J3_3 at H3 o3_3 ⊢
 clear J
 refine rN (wp_seq (wp_seq ?_))
 refine zD 3 [.q (PT J1_0 18), .q (.int .i64 2), .q (.int .i64 0)] H3 ?ho4 ?he4
 case ho4 => exact ag (bC 1 Tryz.isAgg3 (ar trivial))
 intro _ w4 H4
 clear H3
 refine rN (wp_block ?_)
 refine wp_loop_rounds 3 ?_
 refine rounds_in (n := 2) ?_
 refine wp_seq ?_
 refine zD 1 [.q (.bool true)] H4 ?ho5 ?he5
 case ho5 => exact ag trivial
 intro _ w5 H5
 clear H4
 refine rN (wp_seq ?_)
 refine wp_cond_true rfl (wp_skip ?_)
 refine zA (wp_seq (wp_block ?_))
 refine zD 3 [.q (.agg (G1 g (.func (.func 73) #[] #[PT gx 0, PT gy 0]) (en u) (en b)).toArray), .q (V [en S0.1, en S0.2.1, en S0.2.2]), .call (V [en S1.1, en S1.2.1, en S1.2.2])] H5 ?ho6 ?he6
 case ho6 => exact bT 1 Ai82 As82 (bA 0 3 0 Ai124 As124 (ac (fun w' h => eC call75 (CW0.out w' (h.two 3 4 rfl rfl (by decide)))) trivial))
 intro _ w6 H6
 clear H5
 refine zH (l := [3]) rfl ?_
 refine sF 0 [en S1.1, en S1.2.1, en S1.2.2] [_, _, _, _, _, _, _] H6 o3_3 As124 fun w7 H7 => ?_
 clear H6
 refine zE (zY (zA ?_))
 refine zD 1 [.q (.int .i64 1)] H7 ?ho7 ?he7
 case ho7 => exact av trivial
 intro _ w8 H8
 clear H7
 refine zH (l := [1]) rfl ?_
 refine zF (d := 24) rfl rfl rfl rfl ?_
 simp only [Act.put, sa, sz, ss]
 refine zE (zA ?_)
 refine rounds_in (n := 1) ?_
 refine wp_seq ?_
 refine zD 1 [.q (.bool true)] H8 ?ho8 ?he8
 case ho8 => exact ag trivial
 intro _ w9 H9
 clear H8
 refine rN (wp_seq ?_)
 refine wp_cond_true rfl (wp_skip ?_)
 refine zA (wp_seq (wp_block ?_))
 refine zD 3 [.q (.agg (G1 g (.func (.func 73) #[] #[PT gx 0, PT gy 0]) (en u) (en b)).toArray), .q (V [en S1.1, en S1.2.1, en S1.2.2]), .call (V [en S2.1, en S2.2.1, en S2.2.2])] H9 ?ho9 ?he9
 case ho9 => exact bT 1 Ai82 As82 (bA 0 3 0 Ai124 As124 (ac (fun w' h => eC call75 (CW1.out w' (h.two 3 4 rfl rfl (by decide)))) trivial))
 intro _ w10 H10
 clear H9
 refine zH (l := [3]) rfl ?_
 refine sF 0 [en S2.1, en S2.2.1, en S2.2.2] [_, _, _, _, _, _, _] H10 o3_3 As124 fun w11 H11 => ?_
 clear H10
 refine zE (zY (zA ?_))
 refine zD 1 [.q (.int .i64 2)] H11 ?ho10 ?he10
 case ho10 => exact av trivial
 intro _ w12 H12
 clear H11
 refine zH (l := [1]) rfl ?_
 refine zF (d := 24) rfl rfl rfl rfl ?_
 simp only [Act.put, sa, sz, ss]
 refine zE (zA ?_)
 refine rounds_in (n := 0) ?_
 refine wp_seq ?_
 refine zD 1 [.q (.bool false)] H12 ?ho11 ?he11
 case ho11 => exact ag trivial
 intro _ w13 H13
 clear H12
 refine rN (wp_seq (wp_cond_false rfl ?_))
 refine wp_exit ?_
 repeat refine then_exit ?_
 refine block_exit ?_
 refine zA (wp_seq ?_)
 refine zC 14 [.q (PT J1_0 17), .q (.func (.func 73) #[] #[PT gx 0, PT gy 0]), .q (PT J1_1 0), .q (N (en x)), .q (PT J1_1 6), .q (N (en y)), .call (.tuple #[N (en tx), N (en ty)]), .q (.tuple #[N (en tx), N (en ty)]), .q (N (en tx)), .q (N (en ty)), .made zero6 24, .made zero6 24, .laid 10 zero6 (zB (en tx)), .laid 11 zero6 (zB (en ty))] (sB H13) ?ho12 ?he12 (hL := ?hL12)
 case hL12 => exact ⟨⟨_, rfl⟩, ⟨_, rfl⟩, trivial⟩
 case ho12 => exact ag (bC 1 Tryz.isAgg80 (ag (bN 2 (ag (bN 2 (ac (fun w' h => ⟨73, #[N (en x), N (en y), PT gx 0, PT gy 0], zM rfl call73 rfl (mpn rfl) rfl, CT.out w' (h.pick [3, 4, 5, 6] rfl (by decide))⟩) (ar (ag (ag (am (zG rfl) (am (zG rfl) (ak (fun J => ⟨rfl, rfl, rfl, fun w' h => zK h rfl rfl rfl⟩) (ak (fun J => ⟨rfl, rfl, rfl, fun w' h => zK h rfl rfl rfl⟩) trivial)))))))))))))
 intro J w14 l hM hl
 have H14 : Hid (Mm w14 ([(J 10, zB (en tx)), (J 11, zB (en ty))] ++ _) ∧ _) := wB H13 hM hl [10, 11]
 have o12_10 := vB H13 hM hl 10
 have o12_11 := vB H13 hM hl 11
 clear hM hl l H13
 generalize J 10 = J12_10 at H14 o12_10 ⊢
 generalize J 11 = J12_11 at H14 o12_11 ⊢
 clear J
 refine rN (wp_seq ?_)
 refine zS 25 [.q (PT J3_3 0), .q (N (en S2.1)), .q (PT J1_0 0), .q (PT J1_0 2), .q (.func (.func 70) #[PT g 0] #[]), .q (N (en tx)), .q (PT J3_3 12), .q (N (en S2.2.2)), .call (N (en (fm tx S2.2.2))), .q (.bool false), .q (.bool false), .gone, .gone, .gone, .gone, .gone, .gone, .gone, .gone, .gone, .gone, .gone, .gone, .q (.bool false), .q (.bool false)] H14 ?ho13 ?he13 (hL := ?hL13)
 case hL13 => exact trivial
 case ho13 => exact ag (aq (fun w' h => zO (i := 0) h 2 rfl rfl rfl rfl) (ag (ag (bC 3 Ai76 (bN 0 (ag (aq (fun w' h => zO (i := 2) h 2 rfl rfl rfl rfl) (ac (fun w' h => ⟨70, #[PT g 0, N (en tx), N (en S2.2.2)], zM rfl call70 rfl (mpn rfl) rfl, C.cm _ _ w' (h.two 5 6 rfl rfl (by decide))⟩) (ak (fun J => ⟨rfl, fun w' _ => exec_eq6 EA.out rfl rfl rfl⟩) (ar (ak (fun J => rfl) (ak (fun J => rfl) (ak (fun J => rfl) (ak (fun J => rfl) (ak (fun J => rfl) (ak (fun J => rfl) (ak (fun J => rfl) (ak (fun J => rfl) (ak (fun J => rfl) (ak (fun J => rfl) (ak (fun J => rfl) (ak (fun J => rfl) (ag (ar trivial))))))))))))))))))))))))
 intro _ w15 H15
 clear H14
 refine rN (wp_ret ?_)
 repeat (first | refine zJ ?_ | refine zI ?_)
 refine bodyPost_ret (v := .bool false) (by simp [results, Tryz.results42, go_sem, *]) rfl ?_
 exact ⟨rfl, H15.out.2⟩
set_option maxHeartbeats 4000000 in
theorem inT_1 {α : Type} {en : α → Nat} {fa fs fm : α → α → α} {fi : α → α} {z u b : α} {g : Nat} (C : Fd1 g en fa fs fm fi z) (t3 : α) (gx gy : Nat) (S0 S1 S2 : EC.Tri α) (x y tx ty : α) (bb : Bool) (ck : ∀ w, Mm w [(g, zT pB), (2, dtab)] → Calls Tryz.prog 45 #[.agg (G1 g (.func (.func 73) #[] #[PT gx 0, PT gy 0]) (en u) (en b)).toArray, .agg (zW (en x) (en y) false).toArray] w (Rt w (.bool true))) (cl : ∀ w, Mm w [(g, zT pB), (2, dtab)] → Calls Tryz.prog 74 #[.agg (G1 g (.func (.func 73) #[] #[PT gx 0, PT gy 0]) (en u) (en b)).toArray, .agg (zW (en x) (en y) false).toArray] w (Rt w (V [en S0.1, en S0.2.1, en S0.2.2]))) (cw0 : ∀ w, Mm w [(g, zT pB), (2, dtab)] → Calls Tryz.prog 75 #[.agg (G1 g (.func (.func 73) #[] #[PT gx 0, PT gy 0]) (en u) (en b)).toArray, V [en S0.1, en S0.2.1, en S0.2.2], .int .u64 15132376222941642752] w (Rt w (V [en S1.1, en S1.2.1, en S1.2.2]))) (cw1 : ∀ w, Mm w [(g, zT pB), (2, dtab)] → Calls Tryz.prog 75 #[.agg (G1 g (.func (.func 73) #[] #[PT gx 0, PT gy 0]) (en u) (en b)).toArray, V [en S1.1, en S1.2.1, en S1.2.2], .int .u64 15132376222941642752] w (Rt w (V [en S2.1, en S2.2.1, en S2.2.2]))) (ct : ∀ w, Mm w [(g, zT pB), (2, dtab), (gx, [PT g 0]), (gy, zB (en t3))] → Calls Tryz.prog 73 #[N (en x), N (en y), PT gx 0, PT gy 0] w (Rt w (.tuple #[N (en tx), N (en ty)]))) (ea : ∀ w, (Op.equalIn 10000 24 (N (en S2.1)) (N (en (fm tx S2.2.2)))).run Tryz.prog w = .ok true w) (eb : ∀ w, (Op.equalIn 10000 24 (N (en S2.2.1)) (N (en (fm (fs z ty) S2.2.2)))).run Tryz.prog w = .ok bb w) (w : World) (hm : Mm w [(g, zT pB), (2, dtab), (gx, [PT g 0]), (gy, zB (en t3))]) :
  Calls Tryz.prog 42 #[.agg (G1 g (.func (.func 73) #[] #[PT gx 0, PT gy 0]) (en u) (en b)).toArray, .agg (zW (en x) (en y) false).toArray] w (Rt w (.bool bb)) := by
 have H0 : Hid (_ ∧ _) := ⟨hm, Below.refl w.heap.size w⟩
 clear hm
 have CK : Hid _ := ck
 clear ck
 have CL : Hid _ := cl
 clear cl
 have CW0 : Hid _ := cw0
 clear cw0
 have CW1 : Hid _ := cw1
 clear cw1
 have CT : Hid _ := ct
 clear ct
 have EA : Hid _ := ea
 clear ea
 have EB : Hid _ := eb
 clear eb
 go_enter Tryz.func42, Tryz.ntmps42
 refine wp_seq ?_
 refine zC 3 [.made (G1 g (.func (.func 73) #[] #[PT gx 0, PT gy 0]) (en u) (en b)) 82, .made (zW (en x) (en y) false) 85, .q (.bool false)] (sB H0) ?ho1 ?he1
 case ho1 => exact am (zQ rfl rfl) (am (zQ rfl rfl) (ar trivial))
 intro J w1 l hM hl
 have H1 : Hid (Mm w1 ([(J 0, G1 g (.func (.func 73) #[] #[PT gx 0, PT gy 0]) (en u) (en b)), (J 1, zW (en x) (en y) false)] ++ _) ∧ _) := wB H0 hM hl [0, 1]
 have o1_0 := vB H0 hM hl 0
 have o1_1 := vB H0 hM hl 1
 clear hM hl l
 generalize J 0 = J1_0 at H1 o1_0 ⊢
 generalize J 1 = J1_1 at H1 o1_1 ⊢
 clear J
 refine rN (wp_seq (wp_seq ?_))
 refine zD 8 [.q (PT J1_1 12), .q (.bool false), .q (.bool false), .q (.agg (G1 g (.func (.func 73) #[] #[PT gx 0, PT gy 0]) (en u) (en b)).toArray), .q (.agg (zW (en x) (en y) false).toArray), .call (.bool true), .q (.bool false), .q (.bool false)] H1 ?ho2 ?he2
 case ho2 => exact ag (bC 1 Ai4 (ar (bT 0 Ai82 As82 (bT 1 Ai85 As85 (ac (fun w' h => eC call45 (CK.out w' (h.two 2 3 rfl rfl (by decide)))) (ag (ag trivial)))))))
 intro _ w2 H2
 clear H1
 refine rN (wp_cond_false rfl ?_)
 refine wp_skip (zA (wp_seq ?_))
 refine zC 5 [.q (.agg (G1 g (.func (.func 73) #[] #[PT gx 0, PT gy 0]) (en u) (en b)).toArray), .q (.agg (zW (en x) (en y) false).toArray), .call (V [en S0.1, en S0.2.1, en S0.2.2]), .made (cel [0, 0, 0]) 124, .laid 3 (cel [0, 0, 0]) (cel [en S0.1, en S0.2.1, en S0.2.2])] (sB H2) ?ho3 ?he3 (hL := ?hL3)
 case hL3 => exact ⟨⟨_, rfl⟩, trivial⟩
 case ho3 => exact bT 0 Ai82 As82 (bT 1 Ai85 As85 (ac (fun w' h => eC call74 (CL.out w' (h.two 2 3 rfl rfl (by decide)))) (am (ex_madeTN rfl) (ak (fun J => ⟨rfl, rfl, rfl, fun w' h => ex_laidA h rfl As124 rfl rfl rfl⟩) trivial))))
 intro J w3 l hM hl
 have H3 : Hid (Mm w3 ([(J 3, cel [en S0.1, en S0.2.1, en S0.2.2])] ++ _) ∧ _) := wB H2 hM hl [3]
 have o3_3 := vB H2 hM hl 3
 clear hM hl l H2
 generalize J 3 = J3_3 at H3 o3_3 ⊢
 clear J
 refine rN (wp_seq (wp_seq ?_))
 refine zD 3 [.q (PT J1_0 18), .q (.int .i64 2), .q (.int .i64 0)] H3 ?ho4 ?he4
 case ho4 => exact ag (bC 1 Tryz.isAgg3 (ar trivial))
 intro _ w4 H4
 clear H3
 refine rN (wp_block ?_)
 refine wp_loop_rounds 3 ?_
 refine rounds_in (n := 2) ?_
 refine wp_seq ?_
 refine zD 1 [.q (.bool true)] H4 ?ho5 ?he5
 case ho5 => exact ag trivial
 intro _ w5 H5
 clear H4
 refine rN (wp_seq ?_)
 refine wp_cond_true rfl (wp_skip ?_)
 refine zA (wp_seq (wp_block ?_))
 refine zD 3 [.q (.agg (G1 g (.func (.func 73) #[] #[PT gx 0, PT gy 0]) (en u) (en b)).toArray), .q (V [en S0.1, en S0.2.1, en S0.2.2]), .call (V [en S1.1, en S1.2.1, en S1.2.2])] H5 ?ho6 ?he6
 case ho6 => exact bT 1 Ai82 As82 (bA 0 3 0 Ai124 As124 (ac (fun w' h => eC call75 (CW0.out w' (h.two 3 4 rfl rfl (by decide)))) trivial))
 intro _ w6 H6
 clear H5
 refine zH (l := [3]) rfl ?_
 refine sF 0 [en S1.1, en S1.2.1, en S1.2.2] [_, _, _, _, _, _, _] H6 o3_3 As124 fun w7 H7 => ?_
 clear H6
 refine zE (zY (zA ?_))
 refine zD 1 [.q (.int .i64 1)] H7 ?ho7 ?he7
 case ho7 => exact av trivial
 intro _ w8 H8
 clear H7
 refine zH (l := [1]) rfl ?_
 refine zF (d := 24) rfl rfl rfl rfl ?_
 simp only [Act.put, sa, sz, ss]
 refine zE (zA ?_)
 refine rounds_in (n := 1) ?_
 refine wp_seq ?_
 refine zD 1 [.q (.bool true)] H8 ?ho8 ?he8
 case ho8 => exact ag trivial
 intro _ w9 H9
 clear H8
 refine rN (wp_seq ?_)
 refine wp_cond_true rfl (wp_skip ?_)
 refine zA (wp_seq (wp_block ?_))
 refine zD 3 [.q (.agg (G1 g (.func (.func 73) #[] #[PT gx 0, PT gy 0]) (en u) (en b)).toArray), .q (V [en S1.1, en S1.2.1, en S1.2.2]), .call (V [en S2.1, en S2.2.1, en S2.2.2])] H9 ?ho9 ?he9
 case ho9 => exact bT 1 Ai82 As82 (bA 0 3 0 Ai124 As124 (ac (fun w' h => eC call75 (CW1.out w' (h.two 3 4 rfl rfl (by decide)))) trivial))
 intro _ w10 H10
 clear H9
 refine zH (l := [3]) rfl ?_
 refine sF 0 [en S2.1, en S2.2.1, en S2.2.2] [_, _, _, _, _, _, _] H10 o3_3 As124 fun w11 H11 => ?_
 clear H10
 refine zE (zY (zA ?_))
 refine zD 1 [.q (.int .i64 2)] H11 ?ho10 ?he10
 case ho10 => exact av trivial
 intro _ w12 H12
 clear H11
 refine zH (l := [1]) rfl ?_
 refine zF (d := 24) rfl rfl rfl rfl ?_
 simp only [Act.put, sa, sz, ss]
 refine zE (zA ?_)
 refine rounds_in (n := 0) ?_
 refine wp_seq ?_
 refine zD 1 [.q (.bool false)] H12 ?ho11 ?he11
 case ho11 => exact ag trivial
 intro _ w13 H13
 clear H12
 refine rN (wp_seq (wp_cond_false rfl ?_))
 refine wp_exit ?_
 repeat refine then_exit ?_
 refine block_exit ?_
 refine zA (wp_seq ?_)
 refine zC 14 [.q (PT J1_0 17), .q (.func (.func 73) #[] #[PT gx 0, PT gy 0]), .q (PT J1_1 0), .q (N (en x)), .q (PT J1_1 6), .q (N (en y)), .call (.tuple #[N (en tx), N (en ty)]), .q (.tuple #[N (en tx), N (en ty)]), .q (N (en tx)), .q (N (en ty)), .made zero6 24, .made zero6 24, .laid 10 zero6 (zB (en tx)), .laid 11 zero6 (zB (en ty))] (sB H13) ?ho12 ?he12 (hL := ?hL12)
 case hL12 => exact ⟨⟨_, rfl⟩, ⟨_, rfl⟩, trivial⟩
 case ho12 => exact ag (bC 1 Tryz.isAgg80 (ag (bN 2 (ag (bN 2 (ac (fun w' h => ⟨73, #[N (en x), N (en y), PT gx 0, PT gy 0], zM rfl call73 rfl (mpn rfl) rfl, CT.out w' (h.pick [3, 4, 5, 6] rfl (by decide))⟩) (ar (ag (ag (am (zG rfl) (am (zG rfl) (ak (fun J => ⟨rfl, rfl, rfl, fun w' h => zK h rfl rfl rfl⟩) (ak (fun J => ⟨rfl, rfl, rfl, fun w' h => zK h rfl rfl rfl⟩) trivial)))))))))))))
 intro J w14 l hM hl
 have H14 : Hid (Mm w14 ([(J 10, zB (en tx)), (J 11, zB (en ty))] ++ _) ∧ _) := wB H13 hM hl [10, 11]
 have o12_10 := vB H13 hM hl 10
 have o12_11 := vB H13 hM hl 11
 clear hM hl l H13
 generalize J 10 = J12_10 at H14 o12_10 ⊢
 generalize J 11 = J12_11 at H14 o12_11 ⊢
 clear J
 refine rN (wp_seq ?_)
 refine zS 25 [.q (PT J3_3 0), .q (N (en S2.1)), .q (PT J1_0 0), .q (PT J1_0 2), .q (.func (.func 70) #[PT g 0] #[]), .q (N (en tx)), .q (PT J3_3 12), .q (N (en S2.2.2)), .call (N (en (fm tx S2.2.2))), .q (.bool true), .q (.bool true), .q (PT J3_3 6), .q (N (en S2.2.1)), .q (PT J1_0 0), .q (PT J1_0 2), .q (.func (.func 70) #[PT g 0] #[]), .q (.agg (G1 g (.func (.func 73) #[] #[PT gx 0, PT gy 0]) (en u) (en b)).toArray), .q (N (en ty)), .call (N (en (fs z ty))), .q (PT J3_3 12), .q (N (en S2.2.2)), .call (N (en (fm (fs z ty) S2.2.2))), .q (.bool bb), .q (.bool bb), .q (.bool bb)] H14 ?ho13 ?he13 (hL := ?hL13)
 case hL13 => exact trivial
 case ho13 => exact ag (aq (fun w' h => zO (i := 0) h 2 rfl rfl rfl rfl) (ag (ag (bC 3 Ai76 (bN 0 (ag (aq (fun w' h => zO (i := 2) h 2 rfl rfl rfl rfl) (ac (fun w' h => ⟨70, #[PT g 0, N (en tx), N (en S2.2.2)], zM rfl call70 rfl (mpn rfl) rfl, C.cm _ _ w' (h.two 5 6 rfl rfl (by decide))⟩) (ak (fun J => ⟨rfl, fun w' _ => exec_eq6 EA.out rfl rfl rfl⟩) (ar (ag (aq (fun w' h => zO (i := 1) h 2 rfl rfl rfl rfl) (ag (ag (bC 3 Ai76 (bT 3 Ai82 As82 (bN 1 (ac (fun w' h => eC call76 (minus_1 C _ w' (h.two 5 6 rfl rfl (by decide)))) (ag (aq (fun w' h => zO (i := 2) h 2 rfl rfl rfl rfl) (ac (fun w' h => ⟨70, #[PT g 0, N (en (fs z ty)), N (en S2.2.2)], zM rfl call70 rfl (mpn rfl) rfl, C.cm _ _ w' (h.two 5 6 rfl rfl (by decide))⟩) (ak (fun J => ⟨rfl, fun w' _ => exec_eq6 EB.out rfl rfl rfl⟩) (ag (ar trivial))))))))))))))))))))))))
 intro _ w15 H15
 clear H14
 refine rN (wp_ret ?_)
 repeat (first | refine zJ ?_ | refine zI ?_)
 refine bodyPost_ret (v := .bool bb) (by simp [results, Tryz.results42, go_sem, *]) rfl ?_
 exact ⟨rfl, H15.out.2⟩
theorem Mm.join {w w' : World} {L N' : List (Nat × List Value)} (h : Mm w L) (hb : Below w.heap.size w w') (hM : Mm w' N') (hN : ∀ q ∈ N', w.heap.size ≤ q.1) : Mm w' (N' ++ L) := by
 have h' := h.below hb
 refine ⟨fun p hp => ?_, List.pairwise_append.2 ⟨hM.nd, h'.nd, fun a ha b hb2 => ?_⟩⟩
 ·rcases List.mem_append.1 hp with q | q
  ·exact hM.blk p q
  ·exact h'.blk p q
 ·have h1 := hN a ha
  have h2 := (h.blk b hb2).1
  omega
set_option maxHeartbeats 2000000 in
theorem In_1 (one four qtr x y : Nat) (zb bz : Bool) (cf : ∀ w, Calls Tryz.prog 41 #[] w fun e w' => Below w.heap.size w w' ∧ ∃ g x y, e = .returned (.agg (G1 g (.func (.func 73) #[] #[PT x 0, PT y 0]) one four).toArray) ∧ (∀ q ∈ [(g, zT pB), (x, [PT g 0]), (y, zB qtr)], w.heap.size ≤ q.1) ∧ Mm w' [(g, zT pB), (x, [PT g 0]), (y, zB qtr)]) (ci : ∀ g bx cy w, Mm w [(g, zT pB), (2, dtab), (bx, [PT g 0]), (cy, zB qtr)] → Calls Tryz.prog 42 #[.agg (G1 g (.func (.func 73) #[] #[PT bx 0, PT cy 0]) one four).toArray, .agg (zW x y zb).toArray] w (Rt w (.bool bz))) (w : World) (hm : Mm w [(2, dtab)]) :
  Calls Tryz.prog 15 #[.agg (zW x y zb).toArray] w (Rt w (.bool bz)) := by
 have H0 : Hid (_ ∧ _) := ⟨hm, Below.refl w.heap.size w⟩
 clear hm
 have CF : Hid _ := cf
 clear cf
 have CI : Hid _ := ci
 clear ci
 go_enter Tryz.func15, Tryz.ntmps15
 refine wp_seq ?_
 refine zC 2 [.made (zW x y zb) 27, .q (.bool false)] (sB H0) ?ho1 ?he1
 case ho1 => exact am (zQ rfl rfl) (ar trivial)
 intro J w1 l hM hl
 have H1 : Hid (Mm w1 ([(J 0, zW x y zb)] ++ _) ∧ _) := wB H0 hM hl [0]
 have o1_0 := vB H0 hM hl 0
 clear hM hl l
 generalize J 0 = J1_0 at H1 o1_0 ⊢
 clear J
 refine rN (wp_seq ?_)
 refine region_open (o0 := ?oz2) (by kernel_rfl) 2 [.q (.agg (zW x y zb).toArray)] ?pre2 ?F2 (fun v w' => ∃ (g x y : Nat), v = .agg (G1 g (.func (.func 73) #[] #[PT x 0, PT y 0]) one four).toArray ∧ (∀ q ∈ [(g, zT pB), (x, [PT g 0]), (y, zB qtr)], w1.heap.size ≤ q.1) ∧ Mm w' [(g, zT pB), (x, [PT g 0]), (y, zB qtr)]) ?hpre2 (fun v J => ?hF2) (fun v => ?hor2) ?hz2 ?hw2 ?hx2 ?hq2 ?he2
 case hpre2 => simp only [tk, tz]; rfl
 case hF2 => simp only [zZ, Kind.val, Act.put, sa, sz, ss]; rfl
 case hor2 => kernel_rfl
 case hz2 => exact rfl
 case hw2 => exact rfl
 case hx2 =>
  intro w' hb
  refine eC call41 (Calls.mono (CF.out w') (fun e w2 hh => ?_))
  obtain ⟨hB, g, x, y, he, hg, hM⟩ := hh
  exact ⟨_, he, hB, g, x, y, rfl, fun q hq => Nat.le_trans hb.size (hg q hq), hM⟩
 case hq2 =>
  intro v w' hb i o hi ho
  rcases i with _ | i
  ·first | omega | (obtain rfl := Option.some.inj ho; exact ⟨_, rfl, rfl, by omega⟩)
  rcases i with _ | i
  ·obtain rfl := Option.some.inj ho
   exact ⟨_, rfl, rfl, ex_loadT (H1.out.1.below hb) 0 rfl rfl rfl Ai27 As27 rfl rfl⟩
  ·exact absurd ho (by simp)
 intro _ w2 hb hR
 obtain ⟨J2_g, J2_x, J2_y, rfl, hN, hM⟩ := hR
 have H2 : Hid (Mm w2 [(J2_g, zT pB), (J2_x, [PT J2_g 0]), (J2_y, zB qtr), (J1_0, zW x y zb), (2, dtab)] ∧ Below w.heap.size w w2) := ⟨H1.out.1.join hb hM hN, H1.out.2.trans (hb.mono H1.out.2.size)⟩
 clear hb hM hN H1
 refine zH (l := [2, 3]) rfl ?_
 refine rest_enter (d := 5) (R := fun vv w' => vv = .bool bz ∧ Below w2.heap.size w2 w') rfl rfl rfl (exec_call (args := #[.agg (G1 J2_g (.func (.func 73) #[] #[PT J2_x 0, PT J2_y 0]) one four).toArray, .agg (zW x y zb).toArray]) rfl call42 rfl (mpn rfl)) (Calls.mono (CI.out J2_g J2_x J2_y w2 (H2.out.1.pick [0, 4, 1, 2] rfl (by decide))) (fun e w2 hh => ⟨_, hh.1, rfl, hh.2⟩)) ?_
 rintro _ w3 ⟨rfl, hb⟩
 have H3 : Hid (_ ∧ _) := ⟨H2.out.1.below hb, H2.out.2.trans (hb.mono H2.out.2.size)⟩
 clear hb H2
 simp only [Act.put, sa, sz, ss]
 refine zF (d := 2) rfl rfl rfl rfl ?_
 simp only [Act.put, sa, sz, ss]
 refine zE (zA (wp_ret ?_))
 repeat (first | refine zJ ?_ | refine zI ?_)
 refine bodyPost_ret (v := .bool bz) (by simp [results, Tryz.results15, go_sem, *]) rfl ?_
 exact ⟨rfl, H3.out.2⟩
end Rg
end Go.Proofs.YtmanelnacifgcaaGreatDoor
end
section
namespace Go.Proofs.YtmanelnacifgcaaGreatDoor
namespace EC
/-- The bits of a word, from the highest; what stands ahead of them. -/
def wbit (s k : Nat) : Nat := s * 2 ^ k % 18446744073709551616 / 9223372036854775808
section
variable {α : Type} (C : Crv α)
end
section
variable {α : Type} [DecidableEq α] (C : Crv α)
def Crv.bw (s : Nat) (T : Tri α) : Nat → Tri α
 | 0 => C.lift none
 | k + 1 => if wbit s k = 1 then C.tog (C.twice (Crv.bw s T k)) T else C.twice (Crv.bw s T k)
/-- Whether a point is of the group, as the program tells it: n words in a row multiply it, and it is held against the turned one. -/
def Crv.ws (s : Nat) (T : Tri α) : Nat → Tri α
 | 0 => T
 | n + 1 => C.bw s (Crv.ws s T n) 64
end
end EC
end Go.Proofs.YtmanelnacifgcaaGreatDoor
end
section
namespace Go.Proofs.YtmanelnacifgcaaGreatDoor
open Go.RowKit
namespace Rg
/-- The number by whose words points are multiplied. -/
def sdP : Nat := 15132376222941642752
def wofS (k : Nat) : Int := ((sdP * 2 ^ k % 18446744073709551616 : Nat) : Int)
theorem wofS_0 : wofS 0 = 15132376222941642752 := rfl
theorem wofS_d (k : Nat) : wofS k / 2 ^ 63 = ((EC.wbit sdP k : Nat) : Int) := by
 unfold wofS EC.wbit
 rw [show (2 : Int) ^ 63 = ((9223372036854775808 : Nat) : Int) by decide, ← Int.natCast_ediv]
theorem wofS_w (k : Nat) : IntKind.u64.wrap (wofS k * 2 ^ 1) = wofS (k + 1) := by
 unfold wofS
 rw [IntKind.wrap_u64, Nat.pow_succ, ← Nat.mul_assoc, show (2 : Int) ^ 1 = ((2 : Nat) : Int) by decide, ← Int.natCast_mul, show (18446744073709551616 : Int) = ((18446744073709551616 : Nat) : Int) from rfl, ← Int.natCast_emod, Nat.mod_mul_mod]
def t3p : Fp := ⟨tr, by decide +kernel⟩
theorem byWordE_1 {I : Fp → Fp} (hI : Inv1 I) {g : Nat} {tn : Value} (T : EC.Tri Fp) (w : World) (hm : Mm w [(g, zT pB), (2, dtab)]) : Calls Tryz.prog 75 #[(GV1 g tn), V (t1 T), .int .u64 15132376222941642752] w (Rt w (V (t1 ((K1 hI).bw sdP T 64)))) := by
 have h := byWord_1 (u := (K1 hI).R.one) (b := (K1 hI).b) (tn := tn) (fd1 hI g) (K1 hI).twice (fun A => (K1 hI).tog A T) T (fun k => (K1 hI).bw sdP T k) wofS (EC.wbit sdP) (fun w hm => zeroE_1 hI w hm) (fun A w hm => twiceE_1 hI A w hm) (fun A w hm => togE_1 hI A T w hm) wofS_d wofS_w (fun k hk => ?_) (fun k hk => ?_) w hm
 ·rw [wofS_0] at h
  exact h
 ·show (K1 hI).twice ((K1 hI).bw sdP T k) = (K1 hI).bw sdP T (k + 1)
  rw [EC.Crv.bw, if_neg hk]
 ·show (K1 hI).tog ((K1 hI).twice ((K1 hI).bw sdP T k)) T = (K1 hI).bw sdP T (k + 1)
  rw [EC.Crv.bw, if_pos hk]
/-- Whether a point of the curve is of the group, as the program tells it. -/
def tst1 {I : Fp → Fp} (hI : Inv1 I) (x y : Fp) (S : EC.Tri Fp) : Bool := decide (S.1 = (K1 hI).R.mul ((K1 hI).R.mul x t3p) S.2.2) && decide (S.2.1 = (K1 hI).R.mul (EC.osub (EC.rops (K1 hI).R) (K1 hI).R.zero (y)) S.2.2)
def in1 {I : Fp → Fp} (hI : Inv1 I) : Option (Fp × Fp) → Bool
 | none => true
 | some (x, y) => tst1 hI x y ((K1 hI).ws sdP ((K1 hI).lift (some (x, y))) 2)
def inB1 {I : Fp → Fp} (hI : Inv1 I) (x y : Nat) (z : Bool) : Bool := match rd1 x y z with | none => false | some P => in1 hI P
set_option maxHeartbeats 2000000 in
theorem insE_1 {I : Fp → Fp} (hI : Inv1 I) {g : Nat} {gx gy : Nat} {x y : Fp} (hP : (K1 hI).on (some (x, y))) (w : World) (hm : Mm w [(g, zT pB), (2, dtab), (gx, [PT g 0]), (gy, zB tr)]) : Calls Tryz.prog 42 #[(GV1 g (.func (.func 73) #[] #[PT gx 0, PT gy 0])), enc1 (some (x, y))] w (Rt w (.bool (in1 hI (some (x, y))))) := by
 show Calls Tryz.prog 42 #[(GV1 g (.func (.func 73) #[] #[PT gx 0, PT gy 0])), enc1 (some (x, y))] w (Rt w (.bool (tst1 hI x y ((K1 hI).bw sdP ((K1 hI).bw sdP ((K1 hI).lift (some (x, y))) 64) 64))))
 by_cases h1 : ((K1 hI).bw sdP ((K1 hI).bw sdP ((K1 hI).lift (some (x, y))) 64) 64).1 = (K1 hI).R.mul ((K1 hI).R.mul x t3p) ((K1 hI).bw sdP ((K1 hI).bw sdP ((K1 hI).lift (some (x, y))) 64) 64).2.2
 ·have e : tst1 hI x y ((K1 hI).bw sdP ((K1 hI).bw sdP ((K1 hI).lift (some (x, y))) 64) 64) = decide (((K1 hI).bw sdP ((K1 hI).bw sdP ((K1 hI).lift (some (x, y))) 64) 64).2.1 = (K1 hI).R.mul (EC.osub (EC.rops (K1 hI).R) (K1 hI).R.zero (y)) ((K1 hI).bw sdP ((K1 hI).bw sdP ((K1 hI).lift (some (x, y))) 64) 64).2.2) := by
   unfold tst1
   rw [decide_eq_true h1, Bool.true_and]
  rw [e]
  exact inT_1 (u := (K1 hI).R.one) (b := (K1 hI).b) (fd1 hI g) t3p gx gy ((K1 hI).lift (some (x, y))) ((K1 hI).bw sdP ((K1 hI).lift (some (x, y))) 64) ((K1 hI).bw sdP ((K1 hI).bw sdP ((K1 hI).lift (some (x, y))) 64) 64) x y ((K1 hI).R.mul x t3p) (y) _ (fun w hm => ckE_1 hI hP w hm) (fun w hm => liftE_1 hI (some (x, y)) w hm) (fun w hm => byWordE_1 hI ((K1 hI).lift (some (x, y))) w hm) (fun w hm => byWordE_1 hI ((K1 hI).bw sdP ((K1 hI).lift (some (x, y))) 64) w hm) (fun w hm => turn_1 (fd1 hI g) x t3p (p0 y) gx gy w hm) (eqe_1 _ _ (decide_eq_true h1)) (eqe_1 _ _ rfl) w hm
 ·have e : tst1 hI x y ((K1 hI).bw sdP ((K1 hI).bw sdP ((K1 hI).lift (some (x, y))) 64) 64) = false := by
   unfold tst1
   rw [decide_eq_false h1, Bool.false_and]
  rw [e]
  exact inF_1 (u := (K1 hI).R.one) (b := (K1 hI).b) (fd1 hI g) t3p gx gy ((K1 hI).lift (some (x, y))) ((K1 hI).bw sdP ((K1 hI).lift (some (x, y))) 64) ((K1 hI).bw sdP ((K1 hI).bw sdP ((K1 hI).lift (some (x, y))) 64) 64) x y ((K1 hI).R.mul x t3p) (y) (fun w hm => ckE_1 hI hP w hm) (fun w hm => liftE_1 hI (some (x, y)) w hm) (fun w hm => byWordE_1 hI ((K1 hI).lift (some (x, y))) w hm) (fun w hm => byWordE_1 hI ((K1 hI).bw sdP ((K1 hI).lift (some (x, y))) 64) w hm) (fun w hm => turn_1 (fd1 hI g) x t3p (p0 y) gx gy w hm) (eqe_1 _ _ (decide_eq_false h1)) w hm
theorem inE_1 {I : Fp → Fp} (hI : Inv1 I) {g : Nat} {gx gy : Nat} (x y : Nat) (z : Bool) (hx : x < big) (hy : y < big) (w : World) (hm : Mm w [(g, zT pB), (2, dtab), (gx, [PT g 0]), (gy, zB tr)]) : Calls Tryz.prog 42 #[(GV1 g (.func (.func 73) #[] #[PT gx 0, PT gy 0])), pv1 x y z] w (Rt w (.bool (inB1 hI x y z))) := by
 have hc := fun w hm => checkE_1 hI (g := g) (tn := .func (.func 73) #[] #[PT gx 0, PT gy 0]) x y z hx hy w hm
 cases hr : rd1 x y z with
 | none =>
  have e : inB1 hI x y z = false := by unfold inB1; rw [hr]
  rw [hr] at hc
  rw [e]
  cases z with
  | true => exact inZ_1 (u := (K1 hI).R.one) (b := (K1 hI).b) (fd1 hI g) t3p gx gy x y false hc w hm
  | false => exact inN_1 (u := (K1 hI).R.one) (b := (K1 hI).b) (fd1 hI g) t3p gx gy x y hc w hm
 | some P =>
  obtain ⟨he, ho⟩ := rd1_enc hI hr
  have e : inB1 hI x y z = in1 hI P := by unfold inB1; rw [hr]
  rw [hr] at hc
  rw [e]
  rcases P with _ | ⟨x, y⟩
  ·have hz : z = true := by
    unfold rd1 at hr
    cases z with
    | true => rfl
    | false =>
     rw [if_neg (by decide)] at hr
     split at hr
     ·split at hr
      ·cases hr
      ·cases hr
     ·cases hr
   subst hz
   exact inZ_1 (u := (K1 hI).R.one) (b := (K1 hI).b) (fd1 hI g) t3p gx gy x y true hc w hm
  ·rw [he]
   exact insE_1 hI ho w hm
theorem first3E (w : World) : Calls Tryz.prog 41 #[] w fun e w' => Below w.heap.size w w' ∧ ∃ g x y, e = .returned (.agg (G1 g (.func (.func 73) #[] #[PT x 0, PT y 0]) 1 4).toArray) ∧ (∀ q ∈ [(g, zT pB), (x, [PT g 0]), (y, zB tr)], w.heap.size ≤ q.1) ∧ Mm w' [(g, zT pB), (x, [PT g 0]), (y, zB tr)] := first3_gen pB 1 4 tr numb_tr (fun w => of_any 1 (by decide) w) (fun w => of_any 4 (by decide) w) base_pB (fun w => new_ok pB_ok w) w
theorem In1E {I : Fp → Fp} (hI : Inv1 I) (x y : Nat) (z : Bool) (hx : x < big) (hy : y < big) (w : World) (hm : Mm w [(2, dtab)]) : Calls Tryz.prog 15 #[pv1 x y z] w (Rt w (.bool (inB1 hI x y z))) :=
 In_1 1 4 tr x y z (inB1 hI x y z) first3E (fun g bx cy w hm => inE_1 hI (g := g) (gx := bx) (gy := cy) x y z hx hy w hm) w hm
end Rg
end Go.Proofs.YtmanelnacifgcaaGreatDoor
end
section
namespace Go.Proofs.YtmanelnacifgcaaGreatDoor
namespace EC
section
variable {α : Type} (R : Rng α)
def pl2 (l : α) : α := R.mul l l
def pl3 (l : α) : α := R.mul l (R.mul l l)
end
section
variable {α : Type} (C : Crv α)
open Ex in
end
/-- A map of the field. -/
structure Hm {α : Type} (R : Rng α) (h : α → α) : Prop where
 add : ∀ a b, h (R.add a b) = R.add (h a) (h b)
 mul : ∀ a b, h (R.mul a b) = R.mul (h a) (h b)
 neg : ∀ a, h (R.neg a) = R.neg (h a)
 one : h R.one = R.one
 zero : h R.zero = R.zero
 inj : ∀ a, h a = R.zero → a = R.zero
section
variable {α : Type} (C : Crv α) (h : α → α) (l : α)
def Crv.mp : Option (α × α) → Option (α × α)
 | none => none
 | some (x, y) => some (C.R.mul (pl2 C.R l) (h x), C.R.mul (pl3 C.R l) (h y))
variable {h l}
open Ex in
theorem Crv.neg_neg (P : Option (α × α)) : C.neg (C.neg P) = P := by
 rcases P with _ | ⟨x, y⟩
 ·rfl
 ·show some (x, C.R.neg (C.R.neg y)) = some (x, y)
  rw [C.R.neg_neg]
end
section
variable {α : Type} [DecidableEq α] (C : Crv α) {h : α → α} {l : α}
end
/-! What a group says. -/
section
variable {α : Type} [DecidableEq α] (C : Crv α)
end
end EC
end Go.Proofs.YtmanelnacifgcaaGreatDoor
end
section
namespace Go.Proofs.YtmanelnacifgcaaGreatDoor
open Go.RowKit
namespace Rg
open NT
/-! The generators, by the kernel. -/
theorem in1_Q1 {I : Fp → Fp} (hI : Inv1 I) : in1 hI Q1 = true := by kernel_rfl
end Rg
end Go.Proofs.YtmanelnacifgcaaGreatDoor
end
section
namespace Go.Proofs.YtmanelnacifgcaaGreatDoor
open Go.RowKit
namespace Rg
open NT
theorem neg_or (p r y : Nat) (hr : r < p) (hy : y < p) (h0 : 0 < y) (h : (p : Int) ∣ ((r : Int) - y) ∨ (p : Int) ∣ ((r : Int) + y)) : r = y ∨ r = p - y := by
 rcases h with ⟨k, hk⟩ | ⟨k, hk⟩
 ·left
  have : k = 0 := by
   rcases Int.lt_trichotomy k 0 with h1 | h1 | h1
   ·have : (p : Int) * k ≤ (p : Int) * (-1) := Int.mul_le_mul_of_nonneg_left (by omega) (by omega)
    omega
   ·exact h1
   ·have : (p : Int) * 1 ≤ (p : Int) * k := Int.mul_le_mul_of_nonneg_left (by omega) (by omega)
    omega
  rw [this, Int.mul_zero] at hk
  omega
 ·right
  have : k = 1 := by
   rcases Int.lt_trichotomy k 1 with h1 | h1 | h1
   ·have : (p : Int) * k ≤ (p : Int) * 0 := Int.mul_le_mul_of_nonneg_left (by omega) (by omega)
    omega
   ·exact h1
   ·have : (p : Int) * 2 ≤ (p : Int) * k := Int.mul_le_mul_of_nonneg_left (by omega) (by omega)
    omega
  rw [this, Int.mul_one] at hk
  omega
theorem less_root (p r y : Nat) (hp : p % 2 = 1) (hr : r < p) (hy : y < p) (h0 : 0 < y) (h : r = y ∨ r = p - y) : (if subm p 0 r < r then subm p 0 r else r) = if decide (p / 2 < y) = true then p - y else y := by
 have e : subm p 0 r = p - r := by
  unfold subm
  rw [Nat.mod_eq_of_lt hr, Nat.zero_add]
  exact Nat.mod_eq_of_lt (by omega)
 rw [e]
 by_cases h1 : p / 2 < y
 ·have e2 : (if decide (p / 2 < y) = true then p - y else y) = p - y := if_pos (decide_eq_true h1)
  rw [e2]
  split <;> omega
 ·have e2 : (if decide (p / 2 < y) = true then p - y else y) = y := if_neg (fun k => h1 (of_decide_eq_true k))
  rw [e2]
  split <;> omega
/-- Of a square the lesser root is told. -/
theorem root_sq {y : Nat} (hy : y < pB) (h0 : 0 < y) : rte pB (y * y % pB) = 0 ∧ rtv pB (y * y % pB) = if gr y = true then pB - y else y := by
 have e : pz (((y * y : Nat)) : Int) = y * y % pB := pz_nat _
 have hs : Sq (((y * y : Nat)) : Int) := sq_of (m := (y : Int)) (by rw [Int.natCast_mul, Int.sub_self]; exact dv_zero)
 have hc := (rt_cond (((y * y : Nat)) : Int)).2 hs
 have hr : rtc pB (pz (((y * y : Nat)) : Int)) < pB := by rw [rtc_rr]; exact rr_lt _
 have hq : rtc pB (pz (((y * y : Nat)) : Int)) = y ∨ rtc pB (pz (((y * y : Nat)) : Int)) = pB - y := by
  have hd : Dv ((rr (((y * y : Nat)) : Int) : Int) * (rr (((y * y : Nat)) : Int) : Int) - (((y * y : Nat)) : Int)) := hs
  rw [rtc_rr] at hr ⊢
  generalize rr (((y * y : Nat)) : Int) = r at hd hr ⊢
  have hd2 : Dv (((r : Int) - y) * ((r : Int) + y)) := hd.of (by rw [Int.natCast_mul]; grind)
  exact neg_or pB r y hr hy h0 hd2.prime
 unfold rte rtv
 rw [e] at hc hr hq
 rw [if_neg pB_mod4, if_pos hc, if_neg pB_mod4, if_pos hc]
 exact ⟨rfl, less_root pB _ y pB_odd hr hy h0 hq⟩
theorem gy_pos : 0 < gy := by decide +kernel
theorem gr_gy : gr gy = false := by decide +kernel
theorem s_gy : (gx * (gx * gx % pB) % pB + 4) % pB = gy * gy % pB := by decide +kernel
theorem root_g : rte pB ((gx * (gx * gx % pB) % pB + 4) % pB) = 0 ∧ rtv pB ((gx * (gx * gx % pB) % pB + 4) % pB) = gy := by
 have h := root_sq gy_lt gy_pos
 rw [gr_gy, if_neg (by decide)] at h
 rw [s_gy]
 exact h
def gf : Nat → Int := ro1 ⟨gx, gx_lt⟩ ⟨gy, gy_lt⟩
def gf2 : Nat → Int := upd gf 0 (bits .andNot .u8 (gf 0) 224)
theorem gf_0 : gf 0 = 151 := by decide +kernel
theorem gf_1 : gf 1 = 241 := by decide +kernel
theorem gf_128 : ¬ bits .and .u8 (gf 0) 128 = 0 := by decide +kernel
theorem gf_64 : bits .and .u8 (bits .and .u8 (gf 0) 224) 64 = 0 := by decide +kernel
theorem gf_32 : bits .and .u8 (bits .and .u8 (gf 0) 224) 32 = 0 := by decide +kernel
theorem gf2_byte : ∀ j, j < 48 → 0 ≤ gf2 j ∧ gf2 j < 256 := by decide +kernel
theorem gf2_gx : rdv gf2 48 48 = gx := by decide +kernel
theorem takeX (g c : Nat) (w : World) (hm : Mm w [(g, by8 gf 48)]) : Calls Tryz.prog 91 #[.slice (some ⟨g, 0, none⟩) 48 c, .int .i64 48] w fun e w' => Below w.heap.size w w' ∧ ∃ g x, ∃ _ : Nat, e = .returned (.tuple #[.slice (some ⟨g, 0, none⟩) 48 x, .int .u8 (bits .and .u8 (gf 0) 224), .bool true]) ∧ w.heap.size ≤ g ∧ g < w'.heap.size ∧ Blk w' g (by8 gf2 48) :=
 (take_ok g 0 48 c gf (by decide) (by decide) w (hm.blk _ (List.mem_cons_self ..)).1 (fun j hj => by rw [Nat.zero_add]; exact hm.cell (List.mem_cons_self ..) (by8_get gf hj)) gf_128 gf_64).mono fun _ _ ⟨hb, g, cap, h⟩ => ⟨hb, g, cap, 0, h⟩
theorem readX (g c : Nat) (w : World) (hm : Mm w [(g, by8 gf2 48)]) : Calls Tryz.prog 124 #[.slice (some ⟨g, 0, none⟩) 48 c] w (Rt w (.tuple #[N gx, .int .i64 0])) := by
 have h := read_any g 48 c gf2 (by decide) gf2_byte w (hm.blk _ (List.mem_cons_self ..)).1 (row8_blk (hm.blk _ (List.mem_cons_self ..)).2)
 rw [gf2_gx] at h
 exact h
theorem gx_big : gx < big := Nat.lt_trans gx_lt pB_lt
theorem numX (g c : Nat) (w : World) (hm : Mm w [(g, by8 gf2 48)]) : Calls Tryz.prog 92 #[.slice (some ⟨g, 0, none⟩) 48 c] w (Rt w (.tuple #[N gx, .bool true])) :=
 number_lt g 48 gx pB gf2 _ (fun w hm => readX g c w hm) base_pB (fun w => by have h := compare_any gx pB gx_big pB_lt w; rw [cmp_lt gx_lt] at h; exact h) w hm
theorem rootX (g : Nat) (w : World) (hm : Mm w [(g, zT pB)]) : Calls Tryz.prog 94 #[PT g 0, N gx] w (Rt w (.tuple #[N gy, .bool true])) :=
 root1_ok g pB gx (gx * gx % pB) (gx * (gx * gx % pB) % pB) 4 ((gx * (gx * gx % pB) % pB + 4) % pB) gy
  (fun w hm => mulm_any pB_ok gx_big gx_big w hm) (fun w hm => mulm_any pB_ok gx_big (okLt pB_ok _) w hm) (fun w hm => addm_any pB_ok (okLt pB_ok _) (small_big 4 (by decide)) w hm)
  (fun w hm => by have h := root_any pB_ok (okLt pB_ok (gx * (gx * gx % pB) % pB + 4)) w hm; rw [root_g.1, root_g.2] at h; exact h) (fun w => of_any 4 (by decide) w) w hm
theorem In1X {I : Fp → Fp} (hI : Inv1 I) (w : World) (hm : Mm w [(2, dtab)]) : Calls Tryz.prog 15 #[enc1 Q1] w (Rt w (.bool true)) := by
 have h := In1E hI (c1x Q1) (c1y Q1) (c1z Q1) (c1x_big _) (c1y_big _) w hm
 have e : inB1 hI (c1x Q1) (c1y Q1) (c1z Q1) = true := by
  unfold inB1
  rw [rd1_of hI (on_Q1 hI)]
  exact in1_Q1 hI
 rw [e] at h
 exact h
theorem awake5E (w : World) (hm : Mm w [(2, dtab)]) : Calls Tryz.prog 24 #[] w (Rt w (.bool true)) := by
 obtain ⟨I, hI⟩ := inv1_ex
 exact awake5_gen gx gy false gf GenE_1 (fun w hm => bytesE_1 hI (on_Q1 hI) w hm)
  (fun g w hm => Read1_ok g 48 gx gy false gf (fun w hm => read1_low g 48 pB gx gy gf gf2 (bits .and .u8 (gf 0) 224) (fun w hm => takeX g 48 w hm) numX (fun w => greatP_gen pB base_pB (fun w => new_ok pB_ok w) w) rootX gf_64 gf_32 w hm) (fun w hm => In1X hI w hm) w hm)
  (refl_P1 gx gy false gx_big (Nat.lt_trans gy_lt pB_lt)) gf_0 gf_1 w hm
end Rg
end Go.Proofs.YtmanelnacifgcaaGreatDoor
end
section
namespace Go.Proofs.YtmanelnacifgcaaGreatDoor
open Go.RowKit
namespace Rg
set_option maxHeartbeats 4000000 in
theorem signs_00 (ma0 ma1 mb0 mb1 mb2 mb3 : Nat) (z1 z2 : Bool) (aw : ∀ w, Mm w [(2, dtab)] → Calls Tryz.prog 24 #[] w (Rt w (.bool true))) (n1 : ∀ w, Mm w [(2, dtab)] → Calls Tryz.prog 19 #[.agg (zW ma0 ma1 z1).toArray] w (Rt w (.tuple #[.agg (zW 0 0 false).toArray, .int .i64 5]))) (n2 : ∀ w, Mm w [(2, dtab)] → Calls Tryz.prog 30 #[.agg (pc2 mb0 mb1 mb2 mb3 z2).toArray] w (Rt w (.tuple #[.agg (pc2 0 0 0 0 false).toArray, .int .i64 5]))) (w : World) (hm : Mm w [(2, dtab)]) :
  Calls Tryz.prog 6 #[.agg (zW ma0 ma1 z1).toArray, .agg (pc2 mb0 mb1 mb2 mb3 z2).toArray] w (Rt w (.bool true)) := by
 have H0 : Hid (_ ∧ _) := ⟨hm, Below.refl w.heap.size w⟩
 clear hm
 have AW : Hid _ := aw
 clear aw
 have N1 : Hid _ := n1
 clear n1
 have N2 : Hid _ := n2
 clear n2
 go_enter Tryz.func6, Tryz.ntmps6
 refine wp_seq ?_
 refine zC 3 [.made (zW ma0 ma1 z1) 27, .made (pc2 mb0 mb1 mb2 mb3 z2) 35, .q (.bool false)] (sB H0) ?ho1 ?he1
 case ho1 => exact am (zQ rfl rfl) (am (zQ rfl rfl) (ar trivial))
 intro J w1 l hM hl
 have H1 : Hid (Mm w1 ([(J 0, zW ma0 ma1 z1), (J 1, pc2 mb0 mb1 mb2 mb3 z2)] ++ _) ∧ _) := wB H0 hM hl [0, 1]
 have o1_0 := vB H0 hM hl 0
 have o1_1 := vB H0 hM hl 1
 clear hM hl l
 generalize J 0 = J1_0 at H1 o1_0 ⊢
 generalize J 1 = J1_1 at H1 o1_1 ⊢
 clear J
 refine rN (wp_seq ?_)
 refine zD 2 [.call (.bool true), .q (.bool true)] H1 ?ho2 ?he2
 case ho2 => exact ac (fun w' h => eC call24 (AW.out w' (h.one 2 rfl))) (ar trivial)
 intro _ w2 H2
 clear H1
 refine rN (wp_seq ?_)
 refine zC 8 [.q (.agg (zW ma0 ma1 z1).toArray), .call (.tuple #[.agg (zW 0 0 false).toArray, .int .i64 5]), .q (.tuple #[.agg (zW 0 0 false).toArray, .int .i64 5]), .q (.agg (zW 0 0 false).toArray), .q (.int .i64 5), .made (zW 0 0 false) 27, .laid 5 (zW 0 0 false) (zW 0 0 false), .q (.int .i64 5)] (sB H2) ?ho3 ?he3 (hL := ?hL3)
 case hL3 => exact ⟨⟨_, rfl⟩, trivial⟩
 case ho3 => exact bT 0 Ai27 As27 (ac (fun w' h => eC call19 (N1.out w' (h.one 2 rfl))) (ar (ag (ag (am (ex_madeP1 rfl) (ak (fun J => ⟨rfl, rfl, rfl, fun w' h => ex_laidT h rfl rfl As27 rfl rfl rfl⟩) (ar trivial)))))))
 intro J w3 l hM hl
 have H3 : Hid (Mm w3 ([(J 5, zW 0 0 false)] ++ _) ∧ _) := wB H2 hM hl [5]
 have o3_5 := vB H2 hM hl 5
 clear hM hl l H2
 generalize J 5 = J3_5 at H3 o3_5 ⊢
 clear J
 refine rN (wp_seq ?_)
 refine zC 8 [.q (.agg (pc2 mb0 mb1 mb2 mb3 z2).toArray), .call (.tuple #[.agg (pc2 0 0 0 0 false).toArray, .int .i64 5]), .q (.tuple #[.agg (pc2 0 0 0 0 false).toArray, .int .i64 5]), .q (.agg (pc2 0 0 0 0 false).toArray), .q (.int .i64 5), .made (pc2 0 0 0 0 false) 35, .laid 5 (pc2 0 0 0 0 false) (pc2 0 0 0 0 false), .q (.int .i64 5)] (sB H3) ?ho4 ?he4 (hL := ?hL4)
 case hL4 => exact ⟨⟨_, rfl⟩, trivial⟩
 case ho4 => exact bT 2 Ai35 As35 (ac (fun w' h => eC call30 (N2.out w' (h.one 3 rfl))) (ar (ag (ag (am (ex_madeP2 rfl) (ak (fun J => ⟨rfl, rfl, rfl, fun w' h => ex_laidT h rfl rfl As35 rfl rfl rfl⟩) (ar trivial)))))))
 intro J w4 l hM hl
 have H4 : Hid (Mm w4 ([(J 5, pc2 0 0 0 0 false)] ++ _) ∧ _) := wB H3 hM hl [5]
 have o4_5 := vB H3 hM hl 5
 clear hM hl l H3
 generalize J 5 = J4_5 at H4 o4_5 ⊢
 clear J
 refine rN (wp_seq (wp_seq ?_))
 refine zD 13 [.q (.int .i64 5), .q (.bool false), .q (.bool false), .gone, .gone, .gone, .q (.bool false), .q (.bool false), .gone, .gone, .gone, .gone, .q (.bool false)] H4 ?ho5 ?he5
 case ho5 => exact ar (ag (ar (ak (fun J => rfl) (ak (fun J => rfl) (ak (fun J => rfl) (ag (ar (ak (fun J => rfl) (ak (fun J => rfl) (ak (fun J => rfl) (ak (fun J => rfl) (ag trivial))))))))))))
 intro _ w5 H5
 clear H4
 refine rN (wp_cond_false rfl ?_)
 refine wp_skip (zA ?_)
 refine wp_seq (wp_seq ?_)
 refine zD 13 [.q (.int .i64 5), .q (.bool false), .q (.bool false), .gone, .gone, .gone, .q (.bool false), .q (.bool false), .gone, .gone, .gone, .gone, .q (.bool false)] H5 ?ho6 ?he6
 case ho6 => exact ar (ag (ar (ak (fun J => rfl) (ak (fun J => rfl) (ak (fun J => rfl) (ag (ar (ak (fun J => rfl) (ak (fun J => rfl) (ak (fun J => rfl) (ak (fun J => rfl) (ag trivial))))))))))))
 intro _ w6 H6
 clear H5
 refine rN (wp_cond_false rfl ?_)
 refine wp_skip (zA (wp_seq ?_))
 refine zD 2 [.q (.bool true), .q (.bool true)] H6 ?ho7 ?he7
 case ho7 => exact ar (ar trivial)
 intro _ w7 H7
 clear H6
 refine rN (wp_ret ?_)
 repeat (first | refine zJ ?_ | refine zI ?_)
 refine bodyPost_ret (v := .bool true) (by simp [results, Tryz.results6, go_sem, *]) rfl ?_
 exact ⟨rfl, H7.out.2⟩
set_option maxHeartbeats 4000000 in
theorem signs_01 (ma0 ma1 mb0 mb1 mb2 mb3 me0 me1 me2 me3 : Nat) (z1 y2 : Bool) (aw : ∀ w, Mm w [(2, dtab)] → Calls Tryz.prog 24 #[] w (Rt w (.bool true))) (n1 : ∀ w, Mm w [(2, dtab)] → Calls Tryz.prog 19 #[.agg (zW ma0 ma1 z1).toArray] w (Rt w (.tuple #[.agg (zW 0 0 false).toArray, .int .i64 5]))) (n2 : ∀ w, Mm w [(2, dtab)] → Calls Tryz.prog 30 #[.agg (pc2 mb0 mb1 mb2 mb3 true).toArray] w (Rt w (.tuple #[.agg (pc2 me0 me1 me2 me3 y2).toArray, .int .i64 0]))) (w : World) (hm : Mm w [(2, dtab)]) :
  Calls Tryz.prog 6 #[.agg (zW ma0 ma1 z1).toArray, .agg (pc2 mb0 mb1 mb2 mb3 true).toArray] w (Rt w (.bool true)) := by
 have H0 : Hid (_ ∧ _) := ⟨hm, Below.refl w.heap.size w⟩
 clear hm
 have AW : Hid _ := aw
 clear aw
 have N1 : Hid _ := n1
 clear n1
 have N2 : Hid _ := n2
 clear n2
 go_enter Tryz.func6, Tryz.ntmps6
 refine wp_seq ?_
 refine zC 3 [.made (zW ma0 ma1 z1) 27, .made (pc2 mb0 mb1 mb2 mb3 true) 35, .q (.bool false)] (sB H0) ?ho1 ?he1
 case ho1 => exact am (zQ rfl rfl) (am (zQ rfl rfl) (ar trivial))
 intro J w1 l hM hl
 have H1 : Hid (Mm w1 ([(J 0, zW ma0 ma1 z1), (J 1, pc2 mb0 mb1 mb2 mb3 true)] ++ _) ∧ _) := wB H0 hM hl [0, 1]
 have o1_0 := vB H0 hM hl 0
 have o1_1 := vB H0 hM hl 1
 clear hM hl l
 generalize J 0 = J1_0 at H1 o1_0 ⊢
 generalize J 1 = J1_1 at H1 o1_1 ⊢
 clear J
 refine rN (wp_seq ?_)
 refine zD 2 [.call (.bool true), .q (.bool true)] H1 ?ho2 ?he2
 case ho2 => exact ac (fun w' h => eC call24 (AW.out w' (h.one 2 rfl))) (ar trivial)
 intro _ w2 H2
 clear H1
 refine rN (wp_seq ?_)
 refine zC 8 [.q (.agg (zW ma0 ma1 z1).toArray), .call (.tuple #[.agg (zW 0 0 false).toArray, .int .i64 5]), .q (.tuple #[.agg (zW 0 0 false).toArray, .int .i64 5]), .q (.agg (zW 0 0 false).toArray), .q (.int .i64 5), .made (zW 0 0 false) 27, .laid 5 (zW 0 0 false) (zW 0 0 false), .q (.int .i64 5)] (sB H2) ?ho3 ?he3 (hL := ?hL3)
 case hL3 => exact ⟨⟨_, rfl⟩, trivial⟩
 case ho3 => exact bT 0 Ai27 As27 (ac (fun w' h => eC call19 (N1.out w' (h.one 2 rfl))) (ar (ag (ag (am (ex_madeP1 rfl) (ak (fun J => ⟨rfl, rfl, rfl, fun w' h => ex_laidT h rfl rfl As27 rfl rfl rfl⟩) (ar trivial)))))))
 intro J w3 l hM hl
 have H3 : Hid (Mm w3 ([(J 5, zW 0 0 false)] ++ _) ∧ _) := wB H2 hM hl [5]
 have o3_5 := vB H2 hM hl 5
 clear hM hl l H2
 generalize J 5 = J3_5 at H3 o3_5 ⊢
 clear J
 refine rN (wp_seq ?_)
 refine zC 8 [.q (.agg (pc2 mb0 mb1 mb2 mb3 true).toArray), .call (.tuple #[.agg (pc2 me0 me1 me2 me3 y2).toArray, .int .i64 0]), .q (.tuple #[.agg (pc2 me0 me1 me2 me3 y2).toArray, .int .i64 0]), .q (.agg (pc2 me0 me1 me2 me3 y2).toArray), .q (.int .i64 0), .made (pc2 0 0 0 0 false) 35, .laid 5 (pc2 0 0 0 0 false) (pc2 me0 me1 me2 me3 y2), .q (.int .i64 0)] (sB H3) ?ho4 ?he4 (hL := ?hL4)
 case hL4 => exact ⟨⟨_, rfl⟩, trivial⟩
 case ho4 => exact bT 2 Ai35 As35 (ac (fun w' h => eC call30 (N2.out w' (h.one 3 rfl))) (ar (ag (ag (am (ex_madeP2 rfl) (ak (fun J => ⟨rfl, rfl, rfl, fun w' h => ex_laidT h rfl rfl As35 rfl rfl rfl⟩) (ar trivial)))))))
 intro J w4 l hM hl
 have H4 : Hid (Mm w4 ([(J 5, pc2 me0 me1 me2 me3 y2)] ++ _) ∧ _) := wB H3 hM hl [5]
 have o4_5 := vB H3 hM hl 5
 clear hM hl l H3
 generalize J 5 = J4_5 at H4 o4_5 ⊢
 clear J
 refine rN (wp_seq (wp_seq ?_))
 refine zD 13 [.q (.int .i64 5), .q (.bool false), .q (.bool false), .gone, .gone, .gone, .q (.bool false), .q (.bool false), .gone, .gone, .gone, .gone, .q (.bool false)] H4 ?ho5 ?he5
 case ho5 => exact ar (ag (ar (ak (fun J => rfl) (ak (fun J => rfl) (ak (fun J => rfl) (ag (ar (ak (fun J => rfl) (ak (fun J => rfl) (ak (fun J => rfl) (ak (fun J => rfl) (ag trivial))))))))))))
 intro _ w5 H5
 clear H4
 refine rN (wp_cond_false rfl ?_)
 refine wp_skip (zA ?_)
 refine wp_seq (wp_seq ?_)
 refine zD 13 [.q (.int .i64 0), .q (.bool true), .q (.bool true), .q (PT J1_1 24), .q (.bool true), .q (.bool false), .q (.bool false), .q (.bool false), .gone, .gone, .gone, .gone, .q (.bool false)] H5 ?ho6 ?he6
 case ho6 => exact ar (ag (ar (ag (bC 3 Ai4 (ag (ag (ar (ak (fun J => rfl) (ak (fun J => rfl) (ak (fun J => rfl) (ak (fun J => rfl) (ag trivial))))))))))))
 intro _ w6 H6
 clear H5
 refine rN (wp_cond_false rfl ?_)
 refine wp_skip (zA (wp_seq ?_))
 refine zD 2 [.q (.bool true), .q (.bool true)] H6 ?ho7 ?he7
 case ho7 => exact ar (ar trivial)
 intro _ w7 H7
 clear H6
 refine rN (wp_ret ?_)
 repeat (first | refine zJ ?_ | refine zI ?_)
 refine bodyPost_ret (v := .bool true) (by simp [results, Tryz.results6, go_sem, *]) rfl ?_
 exact ⟨rfl, H7.out.2⟩
set_option maxHeartbeats 4000000 in
theorem signs_02 (ma0 ma1 mb0 mb1 mb2 mb3 me2 me3 : Nat) (z1 : Bool) (f2 h2 : Nat → Int) (aw : ∀ w, Mm w [(2, dtab)] → Calls Tryz.prog 24 #[] w (Rt w (.bool true))) (n1 : ∀ w, Mm w [(2, dtab)] → Calls Tryz.prog 19 #[.agg (zW ma0 ma1 z1).toArray] w (Rt w (.tuple #[.agg (zW 0 0 false).toArray, .int .i64 5]))) (n2 : ∀ w, Mm w [(2, dtab)] → Calls Tryz.prog 30 #[.agg (pc2 mb0 mb1 mb2 mb3 false).toArray] w (Rt w (.tuple #[.agg (pc2 mb0 mb1 me2 me3 false).toArray, .int .i64 0]))) (p2 : ∀ w, Mm w [(2, dtab)] → Calls Tryz.prog 27 #[.agg (pc2 mb0 mb1 mb2 mb3 false).toArray] w fun e w' => Below w.heap.size w w' ∧ ∃ g x, ∃ _ : Nat, e = .returned (.tuple #[.slice (some ⟨g, 0, none⟩) 96 (96 + x), .int .i64 0]) ∧ w.heap.size ≤ g ∧ g < w'.heap.size ∧ Blk w' g (by8 f2 96)) (q2 : ∀ w, Mm w [(2, dtab)] → Calls Tryz.prog 27 #[.agg (pc2 mb0 mb1 me2 me3 false).toArray] w fun e w' => Below w.heap.size w w' ∧ ∃ g x, ∃ _ : Nat, e = .returned (.tuple #[.slice (some ⟨g, 0, none⟩) 96 (96 + x), .int .i64 0]) ∧ w.heap.size ≤ g ∧ g < w'.heap.size ∧ Blk w' g (by8 h2 96)) (s2 : ∀ g h x y w, Mm w [(g, by8 f2 96)] → Mm w [(h, by8 h2 96)] → Calls Tryz.prog 29 #[.slice (some ⟨g, 1, none⟩) 95 (96 + x - 1), .slice (some ⟨h, 1, none⟩) 95 (96 + y - 1)] w (Rt w (.bool true))) (d2 : bits .xor .u8 (f2 0) (h2 0) = 32) (e2 : ∀ w, (Op.equalIn 10000 33 (V [mb2, mb3]) (V [0, 0])).run Tryz.prog w = .ok false w) (w : World) (hm : Mm w [(2, dtab)]) :
  Calls Tryz.prog 6 #[.agg (zW ma0 ma1 z1).toArray, .agg (pc2 mb0 mb1 mb2 mb3 false).toArray] w (Rt w (.bool true)) := by
 have H0 : Hid (_ ∧ _) := ⟨hm, Below.refl w.heap.size w⟩
 clear hm
 have AW : Hid _ := aw
 clear aw
 have N1 : Hid _ := n1
 clear n1
 have N2 : Hid _ := n2
 clear n2
 have P2 : Hid _ := p2
 clear p2
 have Q2 : Hid _ := q2
 clear q2
 have S2 : Hid _ := s2
 clear s2
 have E2 : Hid _ := e2
 clear e2
 go_enter Tryz.func6, Tryz.ntmps6
 refine wp_seq ?_
 refine zC 3 [.made (zW ma0 ma1 z1) 27, .made (pc2 mb0 mb1 mb2 mb3 false) 35, .q (.bool false)] (sB H0) ?ho1 ?he1
 case ho1 => exact am (zQ rfl rfl) (am (zQ rfl rfl) (ar trivial))
 intro J w1 l hM hl
 have H1 : Hid (Mm w1 ([(J 0, zW ma0 ma1 z1), (J 1, pc2 mb0 mb1 mb2 mb3 false)] ++ _) ∧ _) := wB H0 hM hl [0, 1]
 have o1_0 := vB H0 hM hl 0
 have o1_1 := vB H0 hM hl 1
 clear hM hl l
 generalize J 0 = J1_0 at H1 o1_0 ⊢
 generalize J 1 = J1_1 at H1 o1_1 ⊢
 clear J
 refine rN (wp_seq ?_)
 refine zD 2 [.call (.bool true), .q (.bool true)] H1 ?ho2 ?he2
 case ho2 => exact ac (fun w' h => eC call24 (AW.out w' (h.one 2 rfl))) (ar trivial)
 intro _ w2 H2
 clear H1
 refine rN (wp_seq ?_)
 refine zC 8 [.q (.agg (zW ma0 ma1 z1).toArray), .call (.tuple #[.agg (zW 0 0 false).toArray, .int .i64 5]), .q (.tuple #[.agg (zW 0 0 false).toArray, .int .i64 5]), .q (.agg (zW 0 0 false).toArray), .q (.int .i64 5), .made (zW 0 0 false) 27, .laid 5 (zW 0 0 false) (zW 0 0 false), .q (.int .i64 5)] (sB H2) ?ho3 ?he3 (hL := ?hL3)
 case hL3 => exact ⟨⟨_, rfl⟩, trivial⟩
 case ho3 => exact bT 0 Ai27 As27 (ac (fun w' h => eC call19 (N1.out w' (h.one 2 rfl))) (ar (ag (ag (am (ex_madeP1 rfl) (ak (fun J => ⟨rfl, rfl, rfl, fun w' h => ex_laidT h rfl rfl As27 rfl rfl rfl⟩) (ar trivial)))))))
 intro J w3 l hM hl
 have H3 : Hid (Mm w3 ([(J 5, zW 0 0 false)] ++ _) ∧ _) := wB H2 hM hl [5]
 have o3_5 := vB H2 hM hl 5
 clear hM hl l H2
 generalize J 5 = J3_5 at H3 o3_5 ⊢
 clear J
 refine rN (wp_seq ?_)
 refine zC 8 [.q (.agg (pc2 mb0 mb1 mb2 mb3 false).toArray), .call (.tuple #[.agg (pc2 mb0 mb1 me2 me3 false).toArray, .int .i64 0]), .q (.tuple #[.agg (pc2 mb0 mb1 me2 me3 false).toArray, .int .i64 0]), .q (.agg (pc2 mb0 mb1 me2 me3 false).toArray), .q (.int .i64 0), .made (pc2 0 0 0 0 false) 35, .laid 5 (pc2 0 0 0 0 false) (pc2 mb0 mb1 me2 me3 false), .q (.int .i64 0)] (sB H3) ?ho4 ?he4 (hL := ?hL4)
 case hL4 => exact ⟨⟨_, rfl⟩, trivial⟩
 case ho4 => exact bT 2 Ai35 As35 (ac (fun w' h => eC call30 (N2.out w' (h.one 3 rfl))) (ar (ag (ag (am (ex_madeP2 rfl) (ak (fun J => ⟨rfl, rfl, rfl, fun w' h => ex_laidT h rfl rfl As35 rfl rfl rfl⟩) (ar trivial)))))))
 intro J w4 l hM hl
 have H4 : Hid (Mm w4 ([(J 5, pc2 mb0 mb1 me2 me3 false)] ++ _) ∧ _) := wB H3 hM hl [5]
 have o4_5 := vB H3 hM hl 5
 clear hM hl l H3
 generalize J 5 = J4_5 at H4 o4_5 ⊢
 clear J
 refine rN (wp_seq (wp_seq ?_))
 refine zD 13 [.q (.int .i64 5), .q (.bool false), .q (.bool false), .gone, .gone, .gone, .q (.bool false), .q (.bool false), .gone, .gone, .gone, .gone, .q (.bool false)] H4 ?ho5 ?he5
 case ho5 => exact ar (ag (ar (ak (fun J => rfl) (ak (fun J => rfl) (ak (fun J => rfl) (ag (ar (ak (fun J => rfl) (ak (fun J => rfl) (ak (fun J => rfl) (ak (fun J => rfl) (ag trivial))))))))))))
 intro _ w5 H5
 clear H4
 refine rN (wp_cond_false rfl ?_)
 refine wp_skip (zA ?_)
 refine wp_seq (wp_seq ?_)
 refine zD 13 [.q (.int .i64 0), .q (.bool true), .q (.bool true), .q (PT J1_1 24), .q (.bool false), .q (.bool true), .q (.bool true), .q (.bool true), .q (PT J1_1 12), .q (V [mb2, mb3]), .q (V [0, 0]), .q (.bool true), .q (.bool true)] H5 ?ho6 ?he6
 case ho6 => exact ar (ag (ar (ag (bC 3 Ai4 (ag (ag (ar (ag (bT 3 Ai33 As33 (ak (fun J => ⟨rfl, fun w' _ => ex_buildE2z rfl⟩) (ak (fun J => ⟨rfl, fun w' _ => exec_neqT33 E2.out rfl rfl rfl⟩) (ag trivial))))))))))))
 intro _ w6 H6
 clear H5
 refine rN (wp_cond_true rfl (wp_seq ?_))
 refine zC 2 [.q (.agg (pc2 mb0 mb1 mb2 mb3 false).toArray), .bornX (fun g x y => .tuple #[.slice (some ⟨g, 0, none⟩) 96 (96 + x), .int .i64 0]) (by8 f2 96)] (sB H6) ?ho7 ?he7
 case ho7 => exact bT 3 Ai35 As35 (ak (fun J => ⟨rfl, fun w' h => eC call27 (P2.out w' (h.one 4 rfl))⟩) trivial)
 intro J w7 l hM hl
 have H7 : Hid (Mm w7 ([(J 1, by8 f2 96)] ++ _) ∧ _) := wB H6 hM hl [1]
 have o7_1 := vB H6 hM hl 1
 clear hM hl l H6
 generalize J 1 = J7_1 at H7 o7_1 ⊢
 generalize J 65537 = J7_65537
 clear J
 refine zH (l := [2, 3, 4, 5, 6]) rfl ?_
 refine zF (d := 91) rfl rfl rfl rfl ?_
 simp only [Act.put, sa, sz, ss]
 refine zF (d := 94) (v := .slice (some ⟨J7_1, 0, none⟩) 96 (96 + J7_65537)) (w' := w7) rfl rfl rfl (by go_simp) ?_
 simp only [Act.put, sa, sz, ss]
 refine zF (d := 95) (v := .int .i64 0) (w' := w7) rfl rfl rfl (by go_simp) ?_
 simp only [Act.put, sa, sz, ss]
 refine zF (d := 14) rfl rfl rfl rfl ?_
 simp only [Act.put, sa, sz, ss]
 refine zF (d := 15) rfl rfl rfl rfl ?_
 simp only [Act.put, sa, sz, ss]
 refine zE (zA (wp_seq ?_))
 refine zC 2 [.q (.agg (pc2 mb0 mb1 me2 me3 false).toArray), .bornX (fun g x y => .tuple #[.slice (some ⟨g, 0, none⟩) 96 (96 + x), .int .i64 0]) (by8 h2 96)] (sB H7) ?ho8 ?he8
 case ho8 => exact bT 1 Ai35 As35 (ak (fun J => ⟨rfl, fun w' h => eC call27 (Q2.out w' (h.one 5 rfl))⟩) trivial)
 intro J w8 l hM hl
 have H8 : Hid (Mm w8 ([(J 1, by8 h2 96)] ++ _) ∧ _) := wB H7 hM hl [1]
 have o8_1 := vB H7 hM hl 1
 clear hM hl l H7
 generalize J 1 = J8_1 at H8 o8_1 ⊢
 generalize J 65537 = J8_65537
 clear J
 refine zH (l := [2, 3, 4, 5, 6]) rfl ?_
 refine zF (d := 96) rfl rfl rfl rfl ?_
 simp only [Act.put, sa, sz, ss]
 refine zF (d := 99) (v := .slice (some ⟨J8_1, 0, none⟩) 96 (96 + J8_65537)) (w' := w8) rfl rfl rfl (by go_simp) ?_
 simp only [Act.put, sa, sz, ss]
 refine zF (d := 100) (v := .int .i64 0) (w' := w8) rfl rfl rfl (by go_simp) ?_
 simp only [Act.put, sa, sz, ss]
 refine zF (d := 16) rfl rfl rfl rfl ?_
 simp only [Act.put, sa, sz, ss]
 refine zF (d := 17) rfl rfl rfl rfl ?_
 simp only [Act.put, sa, sz, ss]
 refine zE (zA (wp_seq ?_))
 refine zS 26 [.q (.slice (some ⟨J7_1, 0, none⟩) 96 (96 + J7_65537)), .q (.int .i64 96), .q (.bool false), .q (.bool false), .q (.slice (some ⟨J8_1, 0, none⟩) 96 (96 + J8_65537)), .q (.int .i64 96), .q (.bool false), .q (.bool false), .q (.bool false), .q (.slice (some ⟨J7_1, 0, none⟩) 96 (96 + J7_65537)), .q (PT J7_1 0), .q (.int .u8 (f2 0)), .q (.slice (some ⟨J8_1, 0, none⟩) 96 (96 + J8_65537)), .q (PT J8_1 0), .q (.int .u8 (h2 0)), .q (.int .u8 (bits .xor .u8 (f2 0) (h2 0))), .q (.bool false), .q (.bool false), .q (.bool false), .q (.slice (some ⟨J7_1, 0, none⟩) 96 (96 + J7_65537)), .q (.slice (some ⟨J7_1, 1, none⟩) 95 ((96 + J7_65537) - 1)), .q (.slice (some ⟨J8_1, 0, none⟩) 96 (96 + J8_65537)), .q (.slice (some ⟨J8_1, 1, none⟩) 95 ((96 + J8_65537) - 1)), .call (.bool true), .q (.bool false), .q (.bool false)] H8 ?ho9 ?he9 (hL := ?hL9)
 case hL9 => exact trivial
 case ho9 => exact ar (ag (ag (ar (ar (ag (ag (ag (ar (ar (ag (aq (fun w' h => ex_loadC h 1 rfl rfl rfl Ai5 (by8_get _ (by decide))) (ar (ag (aq (fun w' h => ex_loadC h 0 rfl rfl rfl Ai5 (by8_get _ (by decide))) (ag (ag (ag (ar (ar (ak (by refine fun J => ⟨rfl, fun w' h => ?_⟩; clear h; go_simp <;> omega) (ar (ak (by refine fun J => ⟨rfl, fun w' h => ?_⟩; clear h; go_simp <;> omega) (ac (fun w' h => eC call29 (S2.out J7_1 J8_1 J7_65537 J8_65537 w' (h.one 1 rfl) (h.one 0 rfl))) (ag (ag trivial)))))))))))))))))))))))))
 intro _ w9 H9
 clear H8
 refine rN (wp_cond_false rfl ?_)
 refine wp_skip (zA (wp_seq ?_))
 refine zD 2 [.q (.bool true), .q (.bool true)] H9 ?ho10 ?he10
 case ho10 => exact ar (ar trivial)
 intro _ w10 H10
 clear H9
 refine rN (wp_ret ?_)
 repeat (first | refine zJ ?_ | refine zI ?_)
 refine bodyPost_ret (v := .bool true) (by simp [results, Tryz.results6, go_sem, *]) rfl ?_
 exact ⟨rfl, H10.out.2⟩
set_option maxHeartbeats 4000000 in
theorem signs_10 (ma0 ma1 md0 md1 mb0 mb1 mb2 mb3 : Nat) (y1 z2 : Bool) (aw : ∀ w, Mm w [(2, dtab)] → Calls Tryz.prog 24 #[] w (Rt w (.bool true))) (n1 : ∀ w, Mm w [(2, dtab)] → Calls Tryz.prog 19 #[.agg (zW ma0 ma1 true).toArray] w (Rt w (.tuple #[.agg (zW md0 md1 y1).toArray, .int .i64 0]))) (n2 : ∀ w, Mm w [(2, dtab)] → Calls Tryz.prog 30 #[.agg (pc2 mb0 mb1 mb2 mb3 z2).toArray] w (Rt w (.tuple #[.agg (pc2 0 0 0 0 false).toArray, .int .i64 5]))) (w : World) (hm : Mm w [(2, dtab)]) :
  Calls Tryz.prog 6 #[.agg (zW ma0 ma1 true).toArray, .agg (pc2 mb0 mb1 mb2 mb3 z2).toArray] w (Rt w (.bool true)) := by
 have H0 : Hid (_ ∧ _) := ⟨hm, Below.refl w.heap.size w⟩
 clear hm
 have AW : Hid _ := aw
 clear aw
 have N1 : Hid _ := n1
 clear n1
 have N2 : Hid _ := n2
 clear n2
 go_enter Tryz.func6, Tryz.ntmps6
 refine wp_seq ?_
 refine zC 3 [.made (zW ma0 ma1 true) 27, .made (pc2 mb0 mb1 mb2 mb3 z2) 35, .q (.bool false)] (sB H0) ?ho1 ?he1
 case ho1 => exact am (zQ rfl rfl) (am (zQ rfl rfl) (ar trivial))
 intro J w1 l hM hl
 have H1 : Hid (Mm w1 ([(J 0, zW ma0 ma1 true), (J 1, pc2 mb0 mb1 mb2 mb3 z2)] ++ _) ∧ _) := wB H0 hM hl [0, 1]
 have o1_0 := vB H0 hM hl 0
 have o1_1 := vB H0 hM hl 1
 clear hM hl l
 generalize J 0 = J1_0 at H1 o1_0 ⊢
 generalize J 1 = J1_1 at H1 o1_1 ⊢
 clear J
 refine rN (wp_seq ?_)
 refine zD 2 [.call (.bool true), .q (.bool true)] H1 ?ho2 ?he2
 case ho2 => exact ac (fun w' h => eC call24 (AW.out w' (h.one 2 rfl))) (ar trivial)
 intro _ w2 H2
 clear H1
 refine rN (wp_seq ?_)
 refine zC 8 [.q (.agg (zW ma0 ma1 true).toArray), .call (.tuple #[.agg (zW md0 md1 y1).toArray, .int .i64 0]), .q (.tuple #[.agg (zW md0 md1 y1).toArray, .int .i64 0]), .q (.agg (zW md0 md1 y1).toArray), .q (.int .i64 0), .made (zW 0 0 false) 27, .laid 5 (zW 0 0 false) (zW md0 md1 y1), .q (.int .i64 0)] (sB H2) ?ho3 ?he3 (hL := ?hL3)
 case hL3 => exact ⟨⟨_, rfl⟩, trivial⟩
 case ho3 => exact bT 0 Ai27 As27 (ac (fun w' h => eC call19 (N1.out w' (h.one 2 rfl))) (ar (ag (ag (am (ex_madeP1 rfl) (ak (fun J => ⟨rfl, rfl, rfl, fun w' h => ex_laidT h rfl rfl As27 rfl rfl rfl⟩) (ar trivial)))))))
 intro J w3 l hM hl
 have H3 : Hid (Mm w3 ([(J 5, zW md0 md1 y1)] ++ _) ∧ _) := wB H2 hM hl [5]
 have o3_5 := vB H2 hM hl 5
 clear hM hl l H2
 generalize J 5 = J3_5 at H3 o3_5 ⊢
 clear J
 refine rN (wp_seq ?_)
 refine zC 8 [.q (.agg (pc2 mb0 mb1 mb2 mb3 z2).toArray), .call (.tuple #[.agg (pc2 0 0 0 0 false).toArray, .int .i64 5]), .q (.tuple #[.agg (pc2 0 0 0 0 false).toArray, .int .i64 5]), .q (.agg (pc2 0 0 0 0 false).toArray), .q (.int .i64 5), .made (pc2 0 0 0 0 false) 35, .laid 5 (pc2 0 0 0 0 false) (pc2 0 0 0 0 false), .q (.int .i64 5)] (sB H3) ?ho4 ?he4 (hL := ?hL4)
 case hL4 => exact ⟨⟨_, rfl⟩, trivial⟩
 case ho4 => exact bT 2 Ai35 As35 (ac (fun w' h => eC call30 (N2.out w' (h.one 3 rfl))) (ar (ag (ag (am (ex_madeP2 rfl) (ak (fun J => ⟨rfl, rfl, rfl, fun w' h => ex_laidT h rfl rfl As35 rfl rfl rfl⟩) (ar trivial)))))))
 intro J w4 l hM hl
 have H4 : Hid (Mm w4 ([(J 5, pc2 0 0 0 0 false)] ++ _) ∧ _) := wB H3 hM hl [5]
 have o4_5 := vB H3 hM hl 5
 clear hM hl l H3
 generalize J 5 = J4_5 at H4 o4_5 ⊢
 clear J
 refine rN (wp_seq (wp_seq ?_))
 refine zD 13 [.q (.int .i64 0), .q (.bool true), .q (.bool true), .q (PT J1_0 12), .q (.bool true), .q (.bool false), .q (.bool false), .q (.bool false), .gone, .gone, .gone, .gone, .q (.bool false)] H4 ?ho5 ?he5
 case ho5 => exact ar (ag (ar (ag (bC 2 Ai4 (ag (ag (ar (ak (fun J => rfl) (ak (fun J => rfl) (ak (fun J => rfl) (ak (fun J => rfl) (ag trivial))))))))))))
 intro _ w5 H5
 clear H4
 refine rN (wp_cond_false rfl ?_)
 refine wp_skip (zA ?_)
 refine wp_seq (wp_seq ?_)
 refine zD 13 [.q (.int .i64 5), .q (.bool false), .q (.bool false), .gone, .gone, .gone, .q (.bool false), .q (.bool false), .gone, .gone, .gone, .gone, .q (.bool false)] H5 ?ho6 ?he6
 case ho6 => exact ar (ag (ar (ak (fun J => rfl) (ak (fun J => rfl) (ak (fun J => rfl) (ag (ar (ak (fun J => rfl) (ak (fun J => rfl) (ak (fun J => rfl) (ak (fun J => rfl) (ag trivial))))))))))))
 intro _ w6 H6
 clear H5
 refine rN (wp_cond_false rfl ?_)
 refine wp_skip (zA (wp_seq ?_))
 refine zD 2 [.q (.bool true), .q (.bool true)] H6 ?ho7 ?he7
 case ho7 => exact ar (ar trivial)
 intro _ w7 H7
 clear H6
 refine rN (wp_ret ?_)
 repeat (first | refine zJ ?_ | refine zI ?_)
 refine bodyPost_ret (v := .bool true) (by simp [results, Tryz.results6, go_sem, *]) rfl ?_
 exact ⟨rfl, H7.out.2⟩
set_option maxHeartbeats 4000000 in
theorem signs_11 (ma0 ma1 md0 md1 mb0 mb1 mb2 mb3 me0 me1 me2 me3 : Nat) (y1 y2 : Bool) (aw : ∀ w, Mm w [(2, dtab)] → Calls Tryz.prog 24 #[] w (Rt w (.bool true))) (n1 : ∀ w, Mm w [(2, dtab)] → Calls Tryz.prog 19 #[.agg (zW ma0 ma1 true).toArray] w (Rt w (.tuple #[.agg (zW md0 md1 y1).toArray, .int .i64 0]))) (n2 : ∀ w, Mm w [(2, dtab)] → Calls Tryz.prog 30 #[.agg (pc2 mb0 mb1 mb2 mb3 true).toArray] w (Rt w (.tuple #[.agg (pc2 me0 me1 me2 me3 y2).toArray, .int .i64 0]))) (w : World) (hm : Mm w [(2, dtab)]) :
  Calls Tryz.prog 6 #[.agg (zW ma0 ma1 true).toArray, .agg (pc2 mb0 mb1 mb2 mb3 true).toArray] w (Rt w (.bool true)) := by
 have H0 : Hid (_ ∧ _) := ⟨hm, Below.refl w.heap.size w⟩
 clear hm
 have AW : Hid _ := aw
 clear aw
 have N1 : Hid _ := n1
 clear n1
 have N2 : Hid _ := n2
 clear n2
 go_enter Tryz.func6, Tryz.ntmps6
 refine wp_seq ?_
 refine zC 3 [.made (zW ma0 ma1 true) 27, .made (pc2 mb0 mb1 mb2 mb3 true) 35, .q (.bool false)] (sB H0) ?ho1 ?he1
 case ho1 => exact am (zQ rfl rfl) (am (zQ rfl rfl) (ar trivial))
 intro J w1 l hM hl
 have H1 : Hid (Mm w1 ([(J 0, zW ma0 ma1 true), (J 1, pc2 mb0 mb1 mb2 mb3 true)] ++ _) ∧ _) := wB H0 hM hl [0, 1]
 have o1_0 := vB H0 hM hl 0
 have o1_1 := vB H0 hM hl 1
 clear hM hl l
 generalize J 0 = J1_0 at H1 o1_0 ⊢
 generalize J 1 = J1_1 at H1 o1_1 ⊢
 clear J
 refine rN (wp_seq ?_)
 refine zD 2 [.call (.bool true), .q (.bool true)] H1 ?ho2 ?he2
 case ho2 => exact ac (fun w' h => eC call24 (AW.out w' (h.one 2 rfl))) (ar trivial)
 intro _ w2 H2
 clear H1
 refine rN (wp_seq ?_)
 refine zC 8 [.q (.agg (zW ma0 ma1 true).toArray), .call (.tuple #[.agg (zW md0 md1 y1).toArray, .int .i64 0]), .q (.tuple #[.agg (zW md0 md1 y1).toArray, .int .i64 0]), .q (.agg (zW md0 md1 y1).toArray), .q (.int .i64 0), .made (zW 0 0 false) 27, .laid 5 (zW 0 0 false) (zW md0 md1 y1), .q (.int .i64 0)] (sB H2) ?ho3 ?he3 (hL := ?hL3)
 case hL3 => exact ⟨⟨_, rfl⟩, trivial⟩
 case ho3 => exact bT 0 Ai27 As27 (ac (fun w' h => eC call19 (N1.out w' (h.one 2 rfl))) (ar (ag (ag (am (ex_madeP1 rfl) (ak (fun J => ⟨rfl, rfl, rfl, fun w' h => ex_laidT h rfl rfl As27 rfl rfl rfl⟩) (ar trivial)))))))
 intro J w3 l hM hl
 have H3 : Hid (Mm w3 ([(J 5, zW md0 md1 y1)] ++ _) ∧ _) := wB H2 hM hl [5]
 have o3_5 := vB H2 hM hl 5
 clear hM hl l H2
 generalize J 5 = J3_5 at H3 o3_5 ⊢
 clear J
 refine rN (wp_seq ?_)
 refine zC 8 [.q (.agg (pc2 mb0 mb1 mb2 mb3 true).toArray), .call (.tuple #[.agg (pc2 me0 me1 me2 me3 y2).toArray, .int .i64 0]), .q (.tuple #[.agg (pc2 me0 me1 me2 me3 y2).toArray, .int .i64 0]), .q (.agg (pc2 me0 me1 me2 me3 y2).toArray), .q (.int .i64 0), .made (pc2 0 0 0 0 false) 35, .laid 5 (pc2 0 0 0 0 false) (pc2 me0 me1 me2 me3 y2), .q (.int .i64 0)] (sB H3) ?ho4 ?he4 (hL := ?hL4)
 case hL4 => exact ⟨⟨_, rfl⟩, trivial⟩
 case ho4 => exact bT 2 Ai35 As35 (ac (fun w' h => eC call30 (N2.out w' (h.one 3 rfl))) (ar (ag (ag (am (ex_madeP2 rfl) (ak (fun J => ⟨rfl, rfl, rfl, fun w' h => ex_laidT h rfl rfl As35 rfl rfl rfl⟩) (ar trivial)))))))
 intro J w4 l hM hl
 have H4 : Hid (Mm w4 ([(J 5, pc2 me0 me1 me2 me3 y2)] ++ _) ∧ _) := wB H3 hM hl [5]
 have o4_5 := vB H3 hM hl 5
 clear hM hl l H3
 generalize J 5 = J4_5 at H4 o4_5 ⊢
 clear J
 refine rN (wp_seq (wp_seq ?_))
 refine zD 13 [.q (.int .i64 0), .q (.bool true), .q (.bool true), .q (PT J1_0 12), .q (.bool true), .q (.bool false), .q (.bool false), .q (.bool false), .gone, .gone, .gone, .gone, .q (.bool false)] H4 ?ho5 ?he5
 case ho5 => exact ar (ag (ar (ag (bC 2 Ai4 (ag (ag (ar (ak (fun J => rfl) (ak (fun J => rfl) (ak (fun J => rfl) (ak (fun J => rfl) (ag trivial))))))))))))
 intro _ w5 H5
 clear H4
 refine rN (wp_cond_false rfl ?_)
 refine wp_skip (zA ?_)
 refine wp_seq (wp_seq ?_)
 refine zD 13 [.q (.int .i64 0), .q (.bool true), .q (.bool true), .q (PT J1_1 24), .q (.bool true), .q (.bool false), .q (.bool false), .q (.bool false), .gone, .gone, .gone, .gone, .q (.bool false)] H5 ?ho6 ?he6
 case ho6 => exact ar (ag (ar (ag (bC 3 Ai4 (ag (ag (ar (ak (fun J => rfl) (ak (fun J => rfl) (ak (fun J => rfl) (ak (fun J => rfl) (ag trivial))))))))))))
 intro _ w6 H6
 clear H5
 refine rN (wp_cond_false rfl ?_)
 refine wp_skip (zA (wp_seq ?_))
 refine zD 2 [.q (.bool true), .q (.bool true)] H6 ?ho7 ?he7
 case ho7 => exact ar (ar trivial)
 intro _ w7 H7
 clear H6
 refine rN (wp_ret ?_)
 repeat (first | refine zJ ?_ | refine zI ?_)
 refine bodyPost_ret (v := .bool true) (by simp [results, Tryz.results6, go_sem, *]) rfl ?_
 exact ⟨rfl, H7.out.2⟩
set_option maxHeartbeats 4000000 in
theorem signs_12 (ma0 ma1 md0 md1 mb0 mb1 mb2 mb3 me2 me3 : Nat) (y1 : Bool) (f2 h2 : Nat → Int) (aw : ∀ w, Mm w [(2, dtab)] → Calls Tryz.prog 24 #[] w (Rt w (.bool true))) (n1 : ∀ w, Mm w [(2, dtab)] → Calls Tryz.prog 19 #[.agg (zW ma0 ma1 true).toArray] w (Rt w (.tuple #[.agg (zW md0 md1 y1).toArray, .int .i64 0]))) (n2 : ∀ w, Mm w [(2, dtab)] → Calls Tryz.prog 30 #[.agg (pc2 mb0 mb1 mb2 mb3 false).toArray] w (Rt w (.tuple #[.agg (pc2 mb0 mb1 me2 me3 false).toArray, .int .i64 0]))) (p2 : ∀ w, Mm w [(2, dtab)] → Calls Tryz.prog 27 #[.agg (pc2 mb0 mb1 mb2 mb3 false).toArray] w fun e w' => Below w.heap.size w w' ∧ ∃ g x, ∃ _ : Nat, e = .returned (.tuple #[.slice (some ⟨g, 0, none⟩) 96 (96 + x), .int .i64 0]) ∧ w.heap.size ≤ g ∧ g < w'.heap.size ∧ Blk w' g (by8 f2 96)) (q2 : ∀ w, Mm w [(2, dtab)] → Calls Tryz.prog 27 #[.agg (pc2 mb0 mb1 me2 me3 false).toArray] w fun e w' => Below w.heap.size w w' ∧ ∃ g x, ∃ _ : Nat, e = .returned (.tuple #[.slice (some ⟨g, 0, none⟩) 96 (96 + x), .int .i64 0]) ∧ w.heap.size ≤ g ∧ g < w'.heap.size ∧ Blk w' g (by8 h2 96)) (s2 : ∀ g h x y w, Mm w [(g, by8 f2 96)] → Mm w [(h, by8 h2 96)] → Calls Tryz.prog 29 #[.slice (some ⟨g, 1, none⟩) 95 (96 + x - 1), .slice (some ⟨h, 1, none⟩) 95 (96 + y - 1)] w (Rt w (.bool true))) (d2 : bits .xor .u8 (f2 0) (h2 0) = 32) (e2 : ∀ w, (Op.equalIn 10000 33 (V [mb2, mb3]) (V [0, 0])).run Tryz.prog w = .ok false w) (w : World) (hm : Mm w [(2, dtab)]) :
  Calls Tryz.prog 6 #[.agg (zW ma0 ma1 true).toArray, .agg (pc2 mb0 mb1 mb2 mb3 false).toArray] w (Rt w (.bool true)) := by
 have H0 : Hid (_ ∧ _) := ⟨hm, Below.refl w.heap.size w⟩
 clear hm
 have AW : Hid _ := aw
 clear aw
 have N1 : Hid _ := n1
 clear n1
 have N2 : Hid _ := n2
 clear n2
 have P2 : Hid _ := p2
 clear p2
 have Q2 : Hid _ := q2
 clear q2
 have S2 : Hid _ := s2
 clear s2
 have E2 : Hid _ := e2
 clear e2
 go_enter Tryz.func6, Tryz.ntmps6
 refine wp_seq ?_
 refine zC 3 [.made (zW ma0 ma1 true) 27, .made (pc2 mb0 mb1 mb2 mb3 false) 35, .q (.bool false)] (sB H0) ?ho1 ?he1
 case ho1 => exact am (zQ rfl rfl) (am (zQ rfl rfl) (ar trivial))
 intro J w1 l hM hl
 have H1 : Hid (Mm w1 ([(J 0, zW ma0 ma1 true), (J 1, pc2 mb0 mb1 mb2 mb3 false)] ++ _) ∧ _) := wB H0 hM hl [0, 1]
 have o1_0 := vB H0 hM hl 0
 have o1_1 := vB H0 hM hl 1
 clear hM hl l
 generalize J 0 = J1_0 at H1 o1_0 ⊢
 generalize J 1 = J1_1 at H1 o1_1 ⊢
 clear J
 refine rN (wp_seq ?_)
 refine zD 2 [.call (.bool true), .q (.bool true)] H1 ?ho2 ?he2
 case ho2 => exact ac (fun w' h => eC call24 (AW.out w' (h.one 2 rfl))) (ar trivial)
 intro _ w2 H2
 clear H1
 refine rN (wp_seq ?_)
 refine zC 8 [.q (.agg (zW ma0 ma1 true).toArray), .call (.tuple #[.agg (zW md0 md1 y1).toArray, .int .i64 0]), .q (.tuple #[.agg (zW md0 md1 y1).toArray, .int .i64 0]), .q (.agg (zW md0 md1 y1).toArray), .q (.int .i64 0), .made (zW 0 0 false) 27, .laid 5 (zW 0 0 false) (zW md0 md1 y1), .q (.int .i64 0)] (sB H2) ?ho3 ?he3 (hL := ?hL3)
 case hL3 => exact ⟨⟨_, rfl⟩, trivial⟩
 case ho3 => exact bT 0 Ai27 As27 (ac (fun w' h => eC call19 (N1.out w' (h.one 2 rfl))) (ar (ag (ag (am (ex_madeP1 rfl) (ak (fun J => ⟨rfl, rfl, rfl, fun w' h => ex_laidT h rfl rfl As27 rfl rfl rfl⟩) (ar trivial)))))))
 intro J w3 l hM hl
 have H3 : Hid (Mm w3 ([(J 5, zW md0 md1 y1)] ++ _) ∧ _) := wB H2 hM hl [5]
 have o3_5 := vB H2 hM hl 5
 clear hM hl l H2
 generalize J 5 = J3_5 at H3 o3_5 ⊢
 clear J
 refine rN (wp_seq ?_)
 refine zC 8 [.q (.agg (pc2 mb0 mb1 mb2 mb3 false).toArray), .call (.tuple #[.agg (pc2 mb0 mb1 me2 me3 false).toArray, .int .i64 0]), .q (.tuple #[.agg (pc2 mb0 mb1 me2 me3 false).toArray, .int .i64 0]), .q (.agg (pc2 mb0 mb1 me2 me3 false).toArray), .q (.int .i64 0), .made (pc2 0 0 0 0 false) 35, .laid 5 (pc2 0 0 0 0 false) (pc2 mb0 mb1 me2 me3 false), .q (.int .i64 0)] (sB H3) ?ho4 ?he4 (hL := ?hL4)
 case hL4 => exact ⟨⟨_, rfl⟩, trivial⟩
 case ho4 => exact bT 2 Ai35 As35 (ac (fun w' h => eC call30 (N2.out w' (h.one 3 rfl))) (ar (ag (ag (am (ex_madeP2 rfl) (ak (fun J => ⟨rfl, rfl, rfl, fun w' h => ex_laidT h rfl rfl As35 rfl rfl rfl⟩) (ar trivial)))))))
 intro J w4 l hM hl
 have H4 : Hid (Mm w4 ([(J 5, pc2 mb0 mb1 me2 me3 false)] ++ _) ∧ _) := wB H3 hM hl [5]
 have o4_5 := vB H3 hM hl 5
 clear hM hl l H3
 generalize J 5 = J4_5 at H4 o4_5 ⊢
 clear J
 refine rN (wp_seq (wp_seq ?_))
 refine zD 13 [.q (.int .i64 0), .q (.bool true), .q (.bool true), .q (PT J1_0 12), .q (.bool true), .q (.bool false), .q (.bool false), .q (.bool false), .gone, .gone, .gone, .gone, .q (.bool false)] H4 ?ho5 ?he5
 case ho5 => exact ar (ag (ar (ag (bC 2 Ai4 (ag (ag (ar (ak (fun J => rfl) (ak (fun J => rfl) (ak (fun J => rfl) (ak (fun J => rfl) (ag trivial))))))))))))
 intro _ w5 H5
 clear H4
 refine rN (wp_cond_false rfl ?_)
 refine wp_skip (zA ?_)
 refine wp_seq (wp_seq ?_)
 refine zD 13 [.q (.int .i64 0), .q (.bool true), .q (.bool true), .q (PT J1_1 24), .q (.bool false), .q (.bool true), .q (.bool true), .q (.bool true), .q (PT J1_1 12), .q (V [mb2, mb3]), .q (V [0, 0]), .q (.bool true), .q (.bool true)] H5 ?ho6 ?he6
 case ho6 => exact ar (ag (ar (ag (bC 3 Ai4 (ag (ag (ar (ag (bT 3 Ai33 As33 (ak (fun J => ⟨rfl, fun w' _ => ex_buildE2z rfl⟩) (ak (fun J => ⟨rfl, fun w' _ => exec_neqT33 E2.out rfl rfl rfl⟩) (ag trivial))))))))))))
 intro _ w6 H6
 clear H5
 refine rN (wp_cond_true rfl (wp_seq ?_))
 refine zC 2 [.q (.agg (pc2 mb0 mb1 mb2 mb3 false).toArray), .bornX (fun g x y => .tuple #[.slice (some ⟨g, 0, none⟩) 96 (96 + x), .int .i64 0]) (by8 f2 96)] (sB H6) ?ho7 ?he7
 case ho7 => exact bT 3 Ai35 As35 (ak (fun J => ⟨rfl, fun w' h => eC call27 (P2.out w' (h.one 4 rfl))⟩) trivial)
 intro J w7 l hM hl
 have H7 : Hid (Mm w7 ([(J 1, by8 f2 96)] ++ _) ∧ _) := wB H6 hM hl [1]
 have o7_1 := vB H6 hM hl 1
 clear hM hl l H6
 generalize J 1 = J7_1 at H7 o7_1 ⊢
 generalize J 65537 = J7_65537
 clear J
 refine zH (l := [2, 3, 4, 5, 6]) rfl ?_
 refine zF (d := 91) rfl rfl rfl rfl ?_
 simp only [Act.put, sa, sz, ss]
 refine zF (d := 94) (v := .slice (some ⟨J7_1, 0, none⟩) 96 (96 + J7_65537)) (w' := w7) rfl rfl rfl (by go_simp) ?_
 simp only [Act.put, sa, sz, ss]
 refine zF (d := 95) (v := .int .i64 0) (w' := w7) rfl rfl rfl (by go_simp) ?_
 simp only [Act.put, sa, sz, ss]
 refine zF (d := 14) rfl rfl rfl rfl ?_
 simp only [Act.put, sa, sz, ss]
 refine zF (d := 15) rfl rfl rfl rfl ?_
 simp only [Act.put, sa, sz, ss]
 refine zE (zA (wp_seq ?_))
 refine zC 2 [.q (.agg (pc2 mb0 mb1 me2 me3 false).toArray), .bornX (fun g x y => .tuple #[.slice (some ⟨g, 0, none⟩) 96 (96 + x), .int .i64 0]) (by8 h2 96)] (sB H7) ?ho8 ?he8
 case ho8 => exact bT 1 Ai35 As35 (ak (fun J => ⟨rfl, fun w' h => eC call27 (Q2.out w' (h.one 5 rfl))⟩) trivial)
 intro J w8 l hM hl
 have H8 : Hid (Mm w8 ([(J 1, by8 h2 96)] ++ _) ∧ _) := wB H7 hM hl [1]
 have o8_1 := vB H7 hM hl 1
 clear hM hl l H7
 generalize J 1 = J8_1 at H8 o8_1 ⊢
 generalize J 65537 = J8_65537
 clear J
 refine zH (l := [2, 3, 4, 5, 6]) rfl ?_
 refine zF (d := 96) rfl rfl rfl rfl ?_
 simp only [Act.put, sa, sz, ss]
 refine zF (d := 99) (v := .slice (some ⟨J8_1, 0, none⟩) 96 (96 + J8_65537)) (w' := w8) rfl rfl rfl (by go_simp) ?_
 simp only [Act.put, sa, sz, ss]
 refine zF (d := 100) (v := .int .i64 0) (w' := w8) rfl rfl rfl (by go_simp) ?_
 simp only [Act.put, sa, sz, ss]
 refine zF (d := 16) rfl rfl rfl rfl ?_
 simp only [Act.put, sa, sz, ss]
 refine zF (d := 17) rfl rfl rfl rfl ?_
 simp only [Act.put, sa, sz, ss]
 refine zE (zA (wp_seq ?_))
 refine zS 26 [.q (.slice (some ⟨J7_1, 0, none⟩) 96 (96 + J7_65537)), .q (.int .i64 96), .q (.bool false), .q (.bool false), .q (.slice (some ⟨J8_1, 0, none⟩) 96 (96 + J8_65537)), .q (.int .i64 96), .q (.bool false), .q (.bool false), .q (.bool false), .q (.slice (some ⟨J7_1, 0, none⟩) 96 (96 + J7_65537)), .q (PT J7_1 0), .q (.int .u8 (f2 0)), .q (.slice (some ⟨J8_1, 0, none⟩) 96 (96 + J8_65537)), .q (PT J8_1 0), .q (.int .u8 (h2 0)), .q (.int .u8 (bits .xor .u8 (f2 0) (h2 0))), .q (.bool false), .q (.bool false), .q (.bool false), .q (.slice (some ⟨J7_1, 0, none⟩) 96 (96 + J7_65537)), .q (.slice (some ⟨J7_1, 1, none⟩) 95 ((96 + J7_65537) - 1)), .q (.slice (some ⟨J8_1, 0, none⟩) 96 (96 + J8_65537)), .q (.slice (some ⟨J8_1, 1, none⟩) 95 ((96 + J8_65537) - 1)), .call (.bool true), .q (.bool false), .q (.bool false)] H8 ?ho9 ?he9 (hL := ?hL9)
 case hL9 => exact trivial
 case ho9 => exact ar (ag (ag (ar (ar (ag (ag (ag (ar (ar (ag (aq (fun w' h => ex_loadC h 1 rfl rfl rfl Ai5 (by8_get _ (by decide))) (ar (ag (aq (fun w' h => ex_loadC h 0 rfl rfl rfl Ai5 (by8_get _ (by decide))) (ag (ag (ag (ar (ar (ak (by refine fun J => ⟨rfl, fun w' h => ?_⟩; clear h; go_simp <;> omega) (ar (ak (by refine fun J => ⟨rfl, fun w' h => ?_⟩; clear h; go_simp <;> omega) (ac (fun w' h => eC call29 (S2.out J7_1 J8_1 J7_65537 J8_65537 w' (h.one 1 rfl) (h.one 0 rfl))) (ag (ag trivial)))))))))))))))))))))))))
 intro _ w9 H9
 clear H8
 refine rN (wp_cond_false rfl ?_)
 refine wp_skip (zA (wp_seq ?_))
 refine zD 2 [.q (.bool true), .q (.bool true)] H9 ?ho10 ?he10
 case ho10 => exact ar (ar trivial)
 intro _ w10 H10
 clear H9
 refine rN (wp_ret ?_)
 repeat (first | refine zJ ?_ | refine zI ?_)
 refine bodyPost_ret (v := .bool true) (by simp [results, Tryz.results6, go_sem, *]) rfl ?_
 exact ⟨rfl, H10.out.2⟩
end Rg
end Go.Proofs.YtmanelnacifgcaaGreatDoor
end
