/- Texts of the proof, joined. -/
import Derived.Test.YtgdlhgbdigpfhaaGreatDoorP9
import Derived.ProofKit
import Derived.OpenShut
import Derived.Test.YtgdlhgbdigpfhaaGreatDoorRows
import Derived.LaidMore
import Derived.Stop.Joined
import Derived.Test.YtgdlhgbdigpfhaaGreatDoorTie
section
namespace Go.Proofs.YtgdlhgbdigpfhaaGreatDoor
open Go.RowKit
namespace Rg
/-! The inverse of twelve parts. -/
def nE (a : Nat → Int) : Z2 := nn3 (pt (mul12 a (cj12 a)) 0) (pt (mul12 a (cj12 a)) 2) (pt (mul12 a (cj12 a)) 4)
def tT (a : Nat → Int) : Nat → Int := mul12 (tw (fc 2) (mul12 a (cj12 a))) (tw (fc 4) (mul12 a (cj12 a)))
theorem tT_ad (a : Nat → Int) : O12 (fun j => tT a j - ad12 (mul12 a (cj12 a)) j) :=
 (mul_cong (tw_ev3 z22 _ (cj_ev a)) (tw_ev3 z44 _ (cj_ev a))).trans (ev3_prod _ om om_q)
theorem nT (a : Nat → Int) : O12 (fun j => mul12 (mul12 a (cj12 a)) (tT a) j - nv (nE a) j) := by
 have h := mul_cong (o12_refl (mul12 a (cj12 a))) (tT_ad a)
 rw [ad12_eq _ (cj_ev a)] at h
 exact h
def iN (a : Nat → Int) : Z2 := ((nE a).1 * (iv (cn (nE a)) : Int), -(nE a).2 * (iv (cn (nE a)) : Int))
def inv12 (a : Nat → Int) : Nat → Int := mul12 (mul12 (cj12 a) (tT a)) (nv (iN a))
theorem nv_mul (x y : Z2) : mul12 (nv x) (nv y) = nv (cm x y) := funext fun j => by
 match j with
 | 0 => simp only [mul12, m0, m1, nv, cm, Nat.reduceMul, Nat.reduceAdd]; grind
 | 1 => simp only [mul12, m0, m1, nv, cm, Nat.reduceMul, Nat.reduceAdd]; grind
 | 2 => simp only [mul12, m0, m1, nv, Nat.reduceMul, Nat.reduceAdd]; grind
 | 3 => simp only [mul12, m0, m1, nv, Nat.reduceMul, Nat.reduceAdd]; grind
 | 4 => simp only [mul12, m0, m1, nv, Nat.reduceMul, Nat.reduceAdd]; grind
 | 5 => simp only [mul12, m0, m1, nv, Nat.reduceMul, Nat.reduceAdd]; grind
 | 6 => simp only [mul12, m0, m1, nv, Nat.reduceMul, Nat.reduceAdd]; grind
 | 7 => simp only [mul12, m0, m1, nv, Nat.reduceMul, Nat.reduceAdd]; grind
 | 8 => simp only [mul12, m0, m1, nv, Nat.reduceMul, Nat.reduceAdd]; grind
 | 9 => simp only [mul12, m0, m1, nv, Nat.reduceMul, Nat.reduceAdd]; grind
 | 10 => simp only [mul12, m0, nv, Nat.reduceMul, Nat.reduceAdd]; grind
 | 11 => simp only [mul12, m1, nv, Nat.reduceMul, Nat.reduceAdd]; grind
 | _ + 12 => rfl
theorem inv12_mul (a : Nat → Int) (h : ¬ O2 (nE a)) : O12 (fun j => mul12 (inv12 a) a j - one12 j) := by
 have hn : ¬ Dv (cn (nE a)) := fun k => h (cn0 k)
 have e : mul12 (inv12 a) a = mul12 (mul12 (mul12 a (cj12 a)) (tT a)) (nv (iN a)) := by
  unfold inv12
  rw [comm12 _ a, ← assoc12, ← assoc12]
 have h1 := mul_cong (nT a) (o12_refl (nv (iN a)))
 rw [nv_mul] at h1
 rw [e]
 refine h1.trans fun j => ?_
 have hi := iv_dv hn
 match j with
 | 0 =>
  refine hi.of ?_
  show _ = (cm (nE a) (iN a)).1 - 1
  unfold iN cm cn
  grind
 | 1 =>
  refine dv_zero.of ?_
  show 0 = (cm (nE a) (iN a)).2 - 0
  unfold iN cm cn
  grind
 | _ + 2 => exact dv_zero.of (by show 0 = (0 : Int) - 0; rfl)
theorem cm_comm (a b : Z2) : cm a b = cm b a := by
 unfold cm
 exact Prod.ext (by dsimp only; grind) (by dsimp only; grind)
theorem O2.mulr {a : Z2} (h : O2 a) (b : Z2) : O2 (cm a b) := by rw [cm_comm]; exact h.mul b
def tr12 (a : Nat → Int) (j : Nat) : Int := if j < 12 then a j else 0
theorem tr_mul (a b : Nat → Int) : mul12 (tr12 a) b = mul12 a b := funext fun j => by
 match j with
 | 0 => rfl
 | 1 => rfl
 | 2 => rfl
 | 3 => rfl
 | 4 => rfl
 | 5 => rfl
 | 6 => rfl
 | 7 => rfl
 | 8 => rfl
 | 9 => rfl
 | 10 => rfl
 | 11 => rfl
 | _ + 12 => rfl
theorem nE_zero {a : Nat → Int} (h : ∀ j, j < 12 → Dv (a j)) : O2 (nE a) := by
 have ht : O12 (tr12 a) := fun j => by
  unfold tr12
  split
  ·exact h j (by assumption)
  ·exact dv_zero
 have he := ht.mul (cj12 a)
 rw [tr_mul] at he
 have k0 : O2 (pt (mul12 a (cj12 a)) 0) := ⟨he 0, he 1⟩
 have k2 : O2 (pt (mul12 a (cj12 a)) 2) := ⟨he 4, he 5⟩
 have k4 : O2 (pt (mul12 a (cj12 a)) 4) := ⟨he 8, he 9⟩
 exact (k0.mulr _).add (((k2.mulr _).add (k4.mulr _)).mul xi)
theorem lz_nv (x : Z2) : lz (nv x) = [pz x.1, pz x.2, 0, 0, 0, 0, 0, 0, 0, 0, 0, 0] := by
 simp only [lz, nv, pz_zero]
theorem inv12_good (a : Nat → Nat) (ha : ∀ j, j < 12 → a j < big) (h : ¬ O2 (nE (zn a))) (w : World) (hm : Mm w [(0, dtab)]) : Calls Tryz.prog 36 #[V (tl a)] w (Rt w (.tuple #[V (lz (inv12 (zn a))), .int .i64 0])) := by
 have hn : ¬ Dv (cn (nE (zn a))) := fun k => h (cn0 k)
 have cq := fun g w hm => mulP_any (g := g) (mul12 (zn a) (cj12 (zn a))) (tT (zn a)) w hm
 rw [lz_dv fun j _ => nT (zn a) j] at cq
 have cr := fun g w hm => mulP_any (g := g) (mul12 (cj12 (zn a)) (tT (zn a))) (nv (iN (zn a))) w hm
 rw [lz_nv] at cr
 exact inv12_ok a (fun j => pz (zn a j)) (fun j => pz (cj12 (zn a) j)) (fun j => pz (mul12 (zn a) (cj12 (zn a)) j)) (fun j => pz (tw (fc 2) (mul12 (zn a) (cj12 (zn a))) j)) (fun j => pz (tw (fc 4) (mul12 (zn a) (cj12 (zn a))) j)) (fun j => pz (tT (zn a) j)) (fun j => pz (nv (nE (zn a)) j)) (fun j => pz (mul12 (cj12 (zn a)) (tT (zn a)) j)) (fun j => pz (inv12 (zn a) j)) pB (pz (iN (zn a)).1) (pz (iN (zn a)).2)
  great_any (fun w => leftAll_any a ha w) (fun w => conjP12_any (zn a) w) (fun g w hm => mulP_any (g := g) (zn a) (cj12 (zn a)) w hm) (fun g w hm => turnE_any 2 (by decide) (by decide) _ w hm) (fun g w hm => turnE_any 4 (by decide) (by decide) _ w hm) (fun g w hm => mulP_any (g := g) _ _ w hm) cq (fun g w hm => inv2F_ok (nE (zn a)).1 (nE (zn a)).2 hn w hm) (fun g w hm => mulP_any (g := g) _ _ w hm) cr w hm
theorem inv12_bad (a : Nat → Nat) (ha : ∀ j, j < 12 → a j < big) (h : O2 (nE (zn a))) (w : World) (hm : Mm w [(0, dtab)]) : Calls Tryz.prog 36 #[V (tl a)] w (Rt w (.tuple #[V [0, 0, 0, 0, 0, 0, 0, 0, 0, 0, 0, 0], .int .i64 6])) := by
 have hn : Dv (cn (nE (zn a))) := h.cn
 have cq := fun g w hm => mulP_any (g := g) (mul12 (zn a) (cj12 (zn a))) (tT (zn a)) w hm
 rw [lz_dv fun j _ => nT (zn a) j] at cq
 exact inv12_no a (fun j => pz (zn a j)) (fun j => pz (cj12 (zn a) j)) (fun j => pz (mul12 (zn a) (cj12 (zn a)) j)) (fun j => pz (tw (fc 2) (mul12 (zn a) (cj12 (zn a))) j)) (fun j => pz (tw (fc 4) (mul12 (zn a) (cj12 (zn a))) j)) (fun j => pz (tT (zn a) j)) (fun j => pz (nv (nE (zn a)) j)) pB
  great_any (fun w => leftAll_any a ha w) (fun w => conjP12_any (zn a) w) (fun g w hm => mulP_any (g := g) (zn a) (cj12 (zn a)) w hm) (fun g w hm => turnE_any 2 (by decide) (by decide) _ w hm) (fun g w hm => turnE_any 4 (by decide) (by decide) _ w hm) (fun g w hm => mulP_any (g := g) _ _ w hm) cq (fun g w hm => inv2F_no (nE (zn a)).1 (nE (zn a)).2 hn w hm) w hm
set_option maxHeartbeats 8000000 in
set_option maxRecDepth 100000 in
theorem field12_ok (x y z ab m bc su d ac sb ra ix : Nat → Nat) (k1 : Nat)
  (e_ab : ∀ w, (Op.equalIn 10000 36 (V (tl ab)) (V (tl ab))).run Tryz.prog w = .ok true w) (e_m : ∀ w, (Op.equalIn 10000 36 (V (tl m)) (V (tl m))).run Tryz.prog w = .ok true w) (e_d : ∀ w, (Op.equalIn 10000 36 (V (tl d)) (V (tl d))).run Tryz.prog w = .ok true w) (e_ra : ∀ w, (Op.equalIn 10000 36 (V (tl ra)) (V (tl ra))).run Tryz.prog w = .ok true w) (e_k : ∀ w, (Op.equalIn 10000 36 (V [k1, 0, 0, 0, 0, 0, 0, 0, 0, 0, 0, 0]) (V [k1, 0, 0, 0, 0, 0, 0, 0, 0, 0, 0, 0])).run Tryz.prog w = .ok true w) (e_n : ∀ w, (Op.equalIn 10000 36 (V (tl ra)) (V [0, 0, 0, 0, 0, 0, 0, 0, 0, 0, 0, 0])).run Tryz.prog w = .ok false w)
  (c0 : ∀ w, Mm w [(0, dtab)] → Calls Tryz.prog 40 #[] w (Rt w (.bool true)))
  (c1 : ∀ w, Calls Tryz.prog 28 #[V (tl x), V (tl y)] w (Rt w (V (tl ab))))
  (c2 : ∀ w, Calls Tryz.prog 28 #[V (tl y), V (tl x)] w (Rt w (V (tl ab))))
  (c3 : ∀ w, Calls Tryz.prog 28 #[V (tl ab), V (tl z)] w (Rt w (V (tl m))))
  (c4 : ∀ w, Calls Tryz.prog 28 #[V (tl y), V (tl z)] w (Rt w (V (tl bc))))
  (c5 : ∀ w, Calls Tryz.prog 28 #[V (tl x), V (tl bc)] w (Rt w (V (tl m))))
  (c6 : ∀ w, Calls Tryz.prog 24 #[V (tl x), V (tl y)] w (Rt w (V (tl su))))
  (c7 : ∀ w, Calls Tryz.prog 28 #[V (tl su), V (tl z)] w (Rt w (V (tl d))))
  (c8 : ∀ w, Calls Tryz.prog 28 #[V (tl x), V (tl z)] w (Rt w (V (tl ac))))
  (c9 : ∀ w, Calls Tryz.prog 24 #[V (tl ac), V (tl bc)] w (Rt w (V (tl d))))
  (c10 : ∀ w, Calls Tryz.prog 26 #[V (tl x), V (tl y)] w (Rt w (V (tl sb))))
  (c11 : ∀ w, Calls Tryz.prog 24 #[V (tl sb), V (tl y)] w (Rt w (V (tl ra))))
  (c12 : ∀ w, Calls Tryz.prog 22 #[] w (Rt w (V [k1, 0, 0, 0, 0, 0, 0, 0, 0, 0, 0, 0])))
  (c13 : ∀ w, Calls Tryz.prog 28 #[V (tl x), V [k1, 0, 0, 0, 0, 0, 0, 0, 0, 0, 0, 0]] w (Rt w (V (tl ra))))
  (c14 : ∀ w, Calls Tryz.prog 34 #[V (tl ab)] w (Rt w (.bool true)))
  (c15 : ∀ w, Mm w [(0, dtab)] → Calls Tryz.prog 36 #[V (tl x)] w (Rt w (.tuple #[V (tl ix), .int .i64 0])))
  (c16 : ∀ w, Calls Tryz.prog 28 #[V (tl ix), V (tl x)] w (Rt w (V [k1, 0, 0, 0, 0, 0, 0, 0, 0, 0, 0, 0]))) (w : World) (hm : Mm w [(0, dtab)]) :
  Calls Tryz.prog 5 #[V (tl x), V (tl y), V (tl z)] w (Rt w (.bool true)) := by
 have H0 : Hid (_ ∧ _) := ⟨hm, Below.refl w.heap.size w⟩
 clear hm
 have C0 : Hid _ := c0
 have C1 : Hid _ := c1
 have C2 : Hid _ := c2
 have C3 : Hid _ := c3
 have C4 : Hid _ := c4
 have C5 : Hid _ := c5
 have C6 : Hid _ := c6
 have C7 : Hid _ := c7
 have C8 : Hid _ := c8
 have C9 : Hid _ := c9
 have C10 : Hid _ := c10
 have C11 : Hid _ := c11
 have C12 : Hid _ := c12
 have C13 : Hid _ := c13
 have C14 : Hid _ := c14
 have C15 : Hid _ := c15
 have C16 : Hid _ := c16
 clear c0 c1 c2 c3 c4 c5 c6 c7 c8 c9 c10 c11 c12 c13 c14 c15 c16
 go_enter Tryz.func5, Tryz.ntmps5
 refine wp_seq ?_
 refine walk_seqA 4 [.made (cel (tl x)) 36, .made (cel (tl y)) 36, .made (cel (tl z)) 36, .quiet (.bool false)] (sB H0) ?ho1 ?he1
 case ho1 => exact ak (fun γ => ⟨rfl, fun w' => ex_boxA rfl rfl⟩) (ak (fun γ => ⟨rfl, fun w' => ex_boxA rfl rfl⟩) (ak (fun γ => ⟨rfl, fun w' => ex_boxA rfl rfl⟩) (ak (fun _ => ⟨rfl, fun _ _ => rfl⟩) trivial)))
 intro γ w1 l hM hl
 have H1 : Hid (Mm w1 [(γ 0, cel (tl x)), (γ 1, cel (tl y)), (γ 2, cel (tl z)), (0, dtab)] ∧ _) := growB H0 hM (Nat.le_refl _) hl [0, 1, 2] rfl (by decide)
 have o1_0 := ownB H0 hM (Nat.le_refl _) hl (i := 0) rfl
 have o1_1 := ownB H0 hM (Nat.le_refl _) hl (i := 1) rfl
 have o1_2 := ownB H0 hM (Nat.le_refl _) hl (i := 2) rfl
 clear hM hl l
 generalize γ 0 = γ1_0 at H1 o1_0 ⊢
 generalize γ 1 = γ1_1 at H1 o1_1 ⊢
 generalize γ 2 = γ1_2 at H1 o1_2 ⊢
 clear γ
 refine rest0 rfl (then_normal (wp_seq ?_))
 refine walk_seqB 2 [.call (.bool true), .quiet (.bool true)] H1 ?ho2 ?he2
 case ho2 => exact ak (fun γ => ⟨rfl, fun w' h => ⟨40, #[], exec_call rfl call40 rfl (mpn rfl), C0.out w' (h.one 3 rfl)⟩⟩) (ak (fun _ => ⟨rfl, fun _ _ => rfl⟩) trivial)
 intro _ w2 H2
 clear H1
 refine rest0 rfl (then_normal (wp_seq ?_))
 refine walk_seqA 5 [.quiet (V (tl x)), .quiet (V (tl y)), .call (V (tl ab)), .made (cel [0, 0, 0, 0, 0, 0, 0, 0, 0, 0, 0, 0]) 36, .laid 3 (cel [0, 0, 0, 0, 0, 0, 0, 0, 0, 0, 0, 0]) (cel (tl ab))] (sB H2) ?ho3 ?he3 (hL := ?hL3)
 case hL3 => exact ⟨⟨_, rfl⟩, trivial⟩
 case ho3 => exact ak (fun γ => ⟨rfl, fun w' h => ex_loadA (i := 0) (k := 12) h 0 rfl rfl rfl Tryz.isAgg36 Tryz.sizeOf36 rfl rfl⟩) (ak (fun γ => ⟨rfl, fun w' h => ex_loadA (i := 0) (k := 12) h 1 rfl rfl rfl Tryz.isAgg36 Tryz.sizeOf36 rfl rfl⟩) (ak (fun γ => ⟨rfl, fun w' h => ⟨28, #[V (tl x), V (tl y)], exec_call rfl call28 rfl (mpn rfl), C1.out w'⟩⟩) (ak (fun γ => ⟨rfl, fun w' => ex_madeE12 rfl⟩) (ak (fun γ => ⟨rfl, rfl, rfl, fun w' h => ex_laidA h rfl Tryz.sizeOf36 rfl rfl rfl⟩) trivial))))
 intro γ w3 l hM hl
 have H3 : Hid (Mm w3 [(γ 3, cel (tl ab)), (γ1_0, cel (tl x)), (γ1_1, cel (tl y)), (γ1_2, cel (tl z)), (0, dtab)] ∧ _) := growB H2 hM (Nat.le_refl _) hl [3] rfl (by decide)
 have o3_3 := ownB H2 hM (Nat.le_refl _) hl (i := 3) rfl
 clear hM hl l H2
 generalize γ 3 = γ3_3 at H3 o3_3 ⊢
 clear γ
 refine rest0 rfl (then_normal (wp_seq (wp_seq ?_)))
 refine walk_anyB 42 [.quiet (V (tl ab)), .quiet (V (tl y)), .quiet (V (tl x)), .call (V (tl ab)), .quiet (.bool false), .quiet (.bool false), .quiet (V (tl ab)), .quiet (V (tl z)), .call (V (tl m)), .quiet (V (tl x)), .quiet (V (tl y)), .quiet (V (tl z)), .call (V (tl bc)), .call (V (tl m)), .quiet (.bool false), .quiet (.bool false), .quiet (.bool false), .quiet (V (tl x)), .quiet (V (tl y)), .call (V (tl su)), .quiet (V (tl z)), .call (V (tl d)), .quiet (V (tl x)), .quiet (V (tl z)), .call (V (tl ac)), .quiet (V (tl y)), .quiet (V (tl z)), .call (V (tl bc)), .call (V (tl d)), .quiet (.bool false), .quiet (.bool false), .quiet (.bool false), .quiet (V (tl x)), .quiet (V (tl y)), .call (V (tl sb)), .quiet (V (tl y)), .call (V (tl ra)), .quiet (V (tl x)), .call (V [k1, 0, 0, 0, 0, 0, 0, 0, 0, 0, 0, 0]), .call (V (tl ra)), .quiet (.bool false), .quiet (.bool false)] H3 ?ho4 ?he4 (hL := ?hL4)
 case hL4 => exact trivial
 case ho4 => exact ak (fun γ => ⟨rfl, fun w' h => ex_loadA (i := 0) (k := 12) h 0 rfl rfl rfl Tryz.isAgg36 Tryz.sizeOf36 rfl rfl⟩) (ak (fun γ => ⟨rfl, fun w' h => ex_loadA (i := 0) (k := 12) h 2 rfl rfl rfl Tryz.isAgg36 Tryz.sizeOf36 rfl rfl⟩) (ak (fun γ => ⟨rfl, fun w' h => ex_loadA (i := 0) (k := 12) h 1 rfl rfl rfl Tryz.isAgg36 Tryz.sizeOf36 rfl rfl⟩) (ak (fun γ => ⟨rfl, fun w' h => ⟨28, #[V (tl y), V (tl x)], exec_call rfl call28 rfl (mpn rfl), C2.out w'⟩⟩) (ak (fun γ => ⟨rfl, fun w' _ => exec_neqE12 e_ab rfl rfl rfl⟩) (ak (fun _ => ⟨rfl, fun _ _ => rfl⟩) (ak (fun γ => ⟨rfl, fun w' h => ex_loadA (i := 0) (k := 12) h 0 rfl rfl rfl Tryz.isAgg36 Tryz.sizeOf36 rfl rfl⟩) (ak (fun γ => ⟨rfl, fun w' h => ex_loadA (i := 0) (k := 12) h 3 rfl rfl rfl Tryz.isAgg36 Tryz.sizeOf36 rfl rfl⟩) (ak (fun γ => ⟨rfl, fun w' h => ⟨28, #[V (tl ab), V (tl z)], exec_call rfl call28 rfl (mpn rfl), C3.out w'⟩⟩) (ak (fun γ => ⟨rfl, fun w' h => ex_loadA (i := 0) (k := 12) h 1 rfl rfl rfl Tryz.isAgg36 Tryz.sizeOf36 rfl rfl⟩) (ak (fun γ => ⟨rfl, fun w' h => ex_loadA (i := 0) (k := 12) h 2 rfl rfl rfl Tryz.isAgg36 Tryz.sizeOf36 rfl rfl⟩) (ak (fun γ => ⟨rfl, fun w' h => ex_loadA (i := 0) (k := 12) h 3 rfl rfl rfl Tryz.isAgg36 Tryz.sizeOf36 rfl rfl⟩) (ak (fun γ => ⟨rfl, fun w' h => ⟨28, #[V (tl y), V (tl z)], exec_call rfl call28 rfl (mpn rfl), C4.out w'⟩⟩) (ak (fun γ => ⟨rfl, fun w' h => ⟨28, #[V (tl x), V (tl bc)], exec_call rfl call28 rfl (mpn rfl), C5.out w'⟩⟩) (ak (fun γ => ⟨rfl, fun w' _ => exec_neqE12 e_m rfl rfl rfl⟩) (ak (by refine fun γ => ⟨rfl, fun w' h => ?_⟩; clear h; go_simp) (ak (fun _ => ⟨rfl, fun _ _ => rfl⟩) (ak (fun γ => ⟨rfl, fun w' h => ex_loadA (i := 0) (k := 12) h 1 rfl rfl rfl Tryz.isAgg36 Tryz.sizeOf36 rfl rfl⟩) (ak (fun γ => ⟨rfl, fun w' h => ex_loadA (i := 0) (k := 12) h 2 rfl rfl rfl Tryz.isAgg36 Tryz.sizeOf36 rfl rfl⟩) (ak (fun γ => ⟨rfl, fun w' h => ⟨24, #[V (tl x), V (tl y)], exec_call rfl call24 rfl (mpn rfl), C6.out w'⟩⟩) (ak (fun γ => ⟨rfl, fun w' h => ex_loadA (i := 0) (k := 12) h 3 rfl rfl rfl Tryz.isAgg36 Tryz.sizeOf36 rfl rfl⟩) (ak (fun γ => ⟨rfl, fun w' h => ⟨28, #[V (tl su), V (tl z)], exec_call rfl call28 rfl (mpn rfl), C7.out w'⟩⟩) (ak (fun γ => ⟨rfl, fun w' h => ex_loadA (i := 0) (k := 12) h 1 rfl rfl rfl Tryz.isAgg36 Tryz.sizeOf36 rfl rfl⟩) (ak (fun γ => ⟨rfl, fun w' h => ex_loadA (i := 0) (k := 12) h 3 rfl rfl rfl Tryz.isAgg36 Tryz.sizeOf36 rfl rfl⟩) (ak (fun γ => ⟨rfl, fun w' h => ⟨28, #[V (tl x), V (tl z)], exec_call rfl call28 rfl (mpn rfl), C8.out w'⟩⟩) (ak (fun γ => ⟨rfl, fun w' h => ex_loadA (i := 0) (k := 12) h 2 rfl rfl rfl Tryz.isAgg36 Tryz.sizeOf36 rfl rfl⟩) (ak (fun γ => ⟨rfl, fun w' h => ex_loadA (i := 0) (k := 12) h 3 rfl rfl rfl Tryz.isAgg36 Tryz.sizeOf36 rfl rfl⟩) (ak (fun γ => ⟨rfl, fun w' h => ⟨28, #[V (tl y), V (tl z)], exec_call rfl call28 rfl (mpn rfl), C4.out w'⟩⟩) (ak (fun γ => ⟨rfl, fun w' h => ⟨24, #[V (tl ac), V (tl bc)], exec_call rfl call24 rfl (mpn rfl), C9.out w'⟩⟩) (ak (fun γ => ⟨rfl, fun w' _ => exec_neqE12 e_d rfl rfl rfl⟩) (ak (by refine fun γ => ⟨rfl, fun w' h => ?_⟩; clear h; go_simp) (ak (fun _ => ⟨rfl, fun _ _ => rfl⟩) (ak (fun γ => ⟨rfl, fun w' h => ex_loadA (i := 0) (k := 12) h 1 rfl rfl rfl Tryz.isAgg36 Tryz.sizeOf36 rfl rfl⟩) (ak (fun γ => ⟨rfl, fun w' h => ex_loadA (i := 0) (k := 12) h 2 rfl rfl rfl Tryz.isAgg36 Tryz.sizeOf36 rfl rfl⟩) (ak (fun γ => ⟨rfl, fun w' h => ⟨26, #[V (tl x), V (tl y)], exec_call rfl call26 rfl (mpn rfl), C10.out w'⟩⟩) (ak (fun γ => ⟨rfl, fun w' h => ex_loadA (i := 0) (k := 12) h 2 rfl rfl rfl Tryz.isAgg36 Tryz.sizeOf36 rfl rfl⟩) (ak (fun γ => ⟨rfl, fun w' h => ⟨24, #[V (tl sb), V (tl y)], exec_call rfl call24 rfl (mpn rfl), C11.out w'⟩⟩) (ak (fun γ => ⟨rfl, fun w' h => ex_loadA (i := 0) (k := 12) h 1 rfl rfl rfl Tryz.isAgg36 Tryz.sizeOf36 rfl rfl⟩) (ak (fun γ => ⟨rfl, fun w' h => ⟨22, #[], exec_call rfl call22 rfl (mpn rfl), C12.out w'⟩⟩) (ak (fun γ => ⟨rfl, fun w' h => ⟨28, #[V (tl x), V [k1, 0, 0, 0, 0, 0, 0, 0, 0, 0, 0, 0]], exec_call rfl call28 rfl (mpn rfl), C13.out w'⟩⟩) (ak (fun γ => ⟨rfl, fun w' _ => exec_neqE12 e_ra rfl rfl rfl⟩) (ak (by refine fun γ => ⟨rfl, fun w' h => ?_⟩; clear h; go_simp) trivial)))))))))))))))))))))))))))))))))))))))))
 intro _ w4 H4
 clear H3
 refine rest0 rfl (then_normal (wp_cond_false rfl ?_))
 refine wp_skip (then_normal (wp_seq ?_))
 refine walk_seqA 8 [.quiet (V (tl x)), .call (.tuple #[V (tl ix), .int .i64 0]), .quiet (.tuple #[V (tl ix), .int .i64 0]), .quiet (V (tl ix)), .quiet (.int .i64 0), .made (cel [0, 0, 0, 0, 0, 0, 0, 0, 0, 0, 0, 0]) 36, .laid 5 (cel [0, 0, 0, 0, 0, 0, 0, 0, 0, 0, 0, 0]) (cel (tl ix)), .quiet (.int .i64 0)] (sB H4) ?ho5 ?he5 (hL := ?hL5)
 case hL5 => exact ⟨⟨_, rfl⟩, trivial⟩
 case ho5 => exact ak (fun γ => ⟨rfl, fun w' h => ex_loadA (i := 0) (k := 12) h 1 rfl rfl rfl Tryz.isAgg36 Tryz.sizeOf36 rfl rfl⟩) (ak (fun γ => ⟨rfl, fun w' h => ⟨36, #[V (tl x)], exec_call rfl call36 rfl (mpn rfl), C15.out w' (h.one 4 rfl)⟩⟩) (ak (fun _ => ⟨rfl, fun _ _ => rfl⟩) (ak (by refine fun γ => ⟨rfl, fun w' h => ?_⟩; clear h; go_simp) (ak (by refine fun γ => ⟨rfl, fun w' h => ?_⟩; clear h; go_simp) (ak (fun γ => ⟨rfl, fun w' => ex_madeE12 rfl⟩) (ak (fun γ => ⟨rfl, rfl, rfl, fun w' h => ex_laidA h rfl Tryz.sizeOf36 rfl rfl rfl⟩) (ak (fun _ => ⟨rfl, fun _ _ => rfl⟩) trivial)))))))
 intro γ w5 l hM hl
 have H5 : Hid (Mm w5 [(γ 5, cel (tl ix)), (γ3_3, cel (tl ab)), (γ1_0, cel (tl x)), (γ1_1, cel (tl y)), (γ1_2, cel (tl z)), (0, dtab)] ∧ _) := growB H4 hM (Nat.le_refl _) hl [5] rfl (by decide)
 have o5_5 := ownB H4 hM (Nat.le_refl _) hl (i := 5) rfl
 clear hM hl l H4
 generalize γ 5 = γ5_5 at H5 o5_5 ⊢
 clear γ
 refine rest0 rfl (then_normal (wp_seq ?_))
 refine walk_anyB 6 [.quiet (V (tl x)), .call (V [k1, 0, 0, 0, 0, 0, 0, 0, 0, 0, 0, 0]), .call (V (tl ra)), .quiet (V [0, 0, 0, 0, 0, 0, 0, 0, 0, 0, 0, 0]), .quiet (.bool false), .quiet (.bool false)] H5 ?ho6 ?he6
 case ho6 => exact ak (fun γ => ⟨rfl, fun w' h => ex_loadA (i := 0) (k := 12) h 2 rfl rfl rfl Tryz.isAgg36 Tryz.sizeOf36 rfl rfl⟩) (ak (fun γ => ⟨rfl, fun w' h => ⟨22, #[], exec_call rfl call22 rfl (mpn rfl), C12.out w'⟩⟩) (ak (fun γ => ⟨rfl, fun w' h => ⟨28, #[V (tl x), V [k1, 0, 0, 0, 0, 0, 0, 0, 0, 0, 0, 0]], exec_call rfl call28 rfl (mpn rfl), C13.out w'⟩⟩) (ak (fun γ => ⟨rfl, fun w' _ => ex_buildE12z rfl⟩) (ak (fun γ => ⟨rfl, fun w' _ => exec_eqE12 e_n rfl rfl rfl⟩) (ak (fun _ => ⟨rfl, fun _ _ => rfl⟩) trivial)))))
 intro _ w6 H6
 clear H5
 refine rest0 rfl (then_normal (wp_seq ?_))
 refine walk_seqB 23 [.quiet (.bool true), .quiet (.bool true), .quiet (V (tl ab)), .call (.bool true), .quiet (.bool true), .quiet (.bool true), .quiet (.int .i64 0), .quiet (.bool false), .quiet (.bool false), .quiet (.bool true), .quiet (.bool true), .quiet (.bool true), .quiet (.int .i64 0), .quiet (.bool false), .quiet (.bool false), .quiet (V (tl ix)), .quiet (V (tl x)), .call (V [k1, 0, 0, 0, 0, 0, 0, 0, 0, 0, 0, 0]), .call (V [k1, 0, 0, 0, 0, 0, 0, 0, 0, 0, 0, 0]), .quiet (.bool true), .quiet (.bool true), .quiet (.bool true), .quiet (.bool true)] H6 ?ho7 ?he7
 case ho7 => exact ak (fun _ => ⟨rfl, fun _ _ => rfl⟩) (ak (fun _ => ⟨rfl, fun _ _ => rfl⟩) (ak (fun γ => ⟨rfl, fun w' h => ex_loadA (i := 0) (k := 12) h 1 rfl rfl rfl Tryz.isAgg36 Tryz.sizeOf36 rfl rfl⟩) (ak (fun γ => ⟨rfl, fun w' h => ⟨34, #[V (tl ab)], exec_call rfl call34 rfl (mpn rfl), C14.out w'⟩⟩) (ak (by refine fun γ => ⟨rfl, fun w' h => ?_⟩; clear h; go_simp) (ak (fun _ => ⟨rfl, fun _ _ => rfl⟩) (ak (fun _ => ⟨rfl, fun _ _ => rfl⟩) (ak (by refine fun γ => ⟨rfl, fun w' h => ?_⟩; clear h; go_simp) (ak (fun _ => ⟨rfl, fun _ _ => rfl⟩) (ak (by refine fun γ => ⟨rfl, fun w' h => ?_⟩; clear h; go_simp) (ak (by refine fun γ => ⟨rfl, fun w' h => ?_⟩; clear h; go_simp) (ak (fun _ => ⟨rfl, fun _ _ => rfl⟩) (ak (fun _ => ⟨rfl, fun _ _ => rfl⟩) (ak (by refine fun γ => ⟨rfl, fun w' h => ?_⟩; clear h; go_simp) (ak (fun _ => ⟨rfl, fun _ _ => rfl⟩) (ak (fun γ => ⟨rfl, fun w' h => ex_loadA (i := 0) (k := 12) h 0 rfl rfl rfl Tryz.isAgg36 Tryz.sizeOf36 rfl rfl⟩) (ak (fun γ => ⟨rfl, fun w' h => ex_loadA (i := 0) (k := 12) h 2 rfl rfl rfl Tryz.isAgg36 Tryz.sizeOf36 rfl rfl⟩) (ak (fun γ => ⟨rfl, fun w' h => ⟨28, #[V (tl ix), V (tl x)], exec_call rfl call28 rfl (mpn rfl), C16.out w'⟩⟩) (ak (fun γ => ⟨rfl, fun w' h => ⟨22, #[], exec_call rfl call22 rfl (mpn rfl), C12.out w'⟩⟩) (ak (fun γ => ⟨rfl, fun w' _ => exec_eqE12 e_k rfl rfl rfl⟩) (ak (by refine fun γ => ⟨rfl, fun w' h => ?_⟩; clear h; go_simp) (ak (by refine fun γ => ⟨rfl, fun w' h => ?_⟩; clear h; go_simp) (ak (fun _ => ⟨rfl, fun _ _ => rfl⟩) trivial))))))))))))))))))))))
 intro _ w7 H7
 clear H6
 refine rest0 rfl (then_normal (wp_ret ?_))
 repeat (first | refine then_ret ?_ | refine block_ret ?_)
 refine bodyPost_ret (v := .bool true) (by simp [results, Tryz.results5, go_sem, *]) rfl ?_
 exact ⟨rfl, H7.out.2⟩
set_option maxHeartbeats 8000000 in
set_option maxRecDepth 100000 in
theorem field12_no (x y z ab m bc su d ac sb : Nat → Nat) (k1 : Nat)
  (e_ab : ∀ w, (Op.equalIn 10000 36 (V (tl ab)) (V (tl ab))).run Tryz.prog w = .ok true w) (e_m : ∀ w, (Op.equalIn 10000 36 (V (tl m)) (V (tl m))).run Tryz.prog w = .ok true w) (e_d : ∀ w, (Op.equalIn 10000 36 (V (tl d)) (V (tl d))).run Tryz.prog w = .ok true w) (e_z : ∀ w, (Op.equalIn 10000 36 (V [0, 0, 0, 0, 0, 0, 0, 0, 0, 0, 0, 0]) (V [0, 0, 0, 0, 0, 0, 0, 0, 0, 0, 0, 0])).run Tryz.prog w = .ok true w)
  (c0 : ∀ w, Mm w [(0, dtab)] → Calls Tryz.prog 40 #[] w (Rt w (.bool true)))
  (c1 : ∀ w, Calls Tryz.prog 28 #[V (tl x), V (tl y)] w (Rt w (V (tl ab))))
  (c2 : ∀ w, Calls Tryz.prog 28 #[V (tl y), V (tl x)] w (Rt w (V (tl ab))))
  (c3 : ∀ w, Calls Tryz.prog 28 #[V (tl ab), V (tl z)] w (Rt w (V (tl m))))
  (c4 : ∀ w, Calls Tryz.prog 28 #[V (tl y), V (tl z)] w (Rt w (V (tl bc))))
  (c5 : ∀ w, Calls Tryz.prog 28 #[V (tl x), V (tl bc)] w (Rt w (V (tl m))))
  (c6 : ∀ w, Calls Tryz.prog 24 #[V (tl x), V (tl y)] w (Rt w (V (tl su))))
  (c7 : ∀ w, Calls Tryz.prog 28 #[V (tl su), V (tl z)] w (Rt w (V (tl d))))
  (c8 : ∀ w, Calls Tryz.prog 28 #[V (tl x), V (tl z)] w (Rt w (V (tl ac))))
  (c9 : ∀ w, Calls Tryz.prog 24 #[V (tl ac), V (tl bc)] w (Rt w (V (tl d))))
  (c10 : ∀ w, Calls Tryz.prog 26 #[V (tl x), V (tl y)] w (Rt w (V (tl sb))))
  (c11 : ∀ w, Calls Tryz.prog 24 #[V (tl sb), V (tl y)] w (Rt w (V [0, 0, 0, 0, 0, 0, 0, 0, 0, 0, 0, 0])))
  (c12 : ∀ w, Calls Tryz.prog 22 #[] w (Rt w (V [k1, 0, 0, 0, 0, 0, 0, 0, 0, 0, 0, 0])))
  (c13 : ∀ w, Calls Tryz.prog 28 #[V (tl x), V [k1, 0, 0, 0, 0, 0, 0, 0, 0, 0, 0, 0]] w (Rt w (V [0, 0, 0, 0, 0, 0, 0, 0, 0, 0, 0, 0])))
  (c14 : ∀ w, Calls Tryz.prog 34 #[V (tl ab)] w (Rt w (.bool true)))
  (c15 : ∀ w, Mm w [(0, dtab)] → Calls Tryz.prog 36 #[V (tl x)] w (Rt w (.tuple #[V [0, 0, 0, 0, 0, 0, 0, 0, 0, 0, 0, 0], .int .i64 6]))) (w : World) (hm : Mm w [(0, dtab)]) :
  Calls Tryz.prog 5 #[V (tl x), V (tl y), V (tl z)] w (Rt w (.bool true)) := by
 have H0 : Hid (_ ∧ _) := ⟨hm, Below.refl w.heap.size w⟩
 clear hm
 have C0 : Hid _ := c0
 have C1 : Hid _ := c1
 have C2 : Hid _ := c2
 have C3 : Hid _ := c3
 have C4 : Hid _ := c4
 have C5 : Hid _ := c5
 have C6 : Hid _ := c6
 have C7 : Hid _ := c7
 have C8 : Hid _ := c8
 have C9 : Hid _ := c9
 have C10 : Hid _ := c10
 have C11 : Hid _ := c11
 have C12 : Hid _ := c12
 have C13 : Hid _ := c13
 have C14 : Hid _ := c14
 have C15 : Hid _ := c15
 clear c0 c1 c2 c3 c4 c5 c6 c7 c8 c9 c10 c11 c12 c13 c14 c15
 go_enter Tryz.func5, Tryz.ntmps5
 refine wp_seq ?_
 refine walk_seqA 4 [.made (cel (tl x)) 36, .made (cel (tl y)) 36, .made (cel (tl z)) 36, .quiet (.bool false)] (sB H0) ?ho1 ?he1
 case ho1 => exact ak (fun γ => ⟨rfl, fun w' => ex_boxA rfl rfl⟩) (ak (fun γ => ⟨rfl, fun w' => ex_boxA rfl rfl⟩) (ak (fun γ => ⟨rfl, fun w' => ex_boxA rfl rfl⟩) (ak (fun _ => ⟨rfl, fun _ _ => rfl⟩) trivial)))
 intro γ w1 l hM hl
 have H1 : Hid (Mm w1 [(γ 0, cel (tl x)), (γ 1, cel (tl y)), (γ 2, cel (tl z)), (0, dtab)] ∧ _) := growB H0 hM (Nat.le_refl _) hl [0, 1, 2] rfl (by decide)
 have o1_0 := ownB H0 hM (Nat.le_refl _) hl (i := 0) rfl
 have o1_1 := ownB H0 hM (Nat.le_refl _) hl (i := 1) rfl
 have o1_2 := ownB H0 hM (Nat.le_refl _) hl (i := 2) rfl
 clear hM hl l
 generalize γ 0 = γ1_0 at H1 o1_0 ⊢
 generalize γ 1 = γ1_1 at H1 o1_1 ⊢
 generalize γ 2 = γ1_2 at H1 o1_2 ⊢
 clear γ
 refine rest0 rfl (then_normal (wp_seq ?_))
 refine walk_seqB 2 [.call (.bool true), .quiet (.bool true)] H1 ?ho2 ?he2
 case ho2 => exact ak (fun γ => ⟨rfl, fun w' h => ⟨40, #[], exec_call rfl call40 rfl (mpn rfl), C0.out w' (h.one 3 rfl)⟩⟩) (ak (fun _ => ⟨rfl, fun _ _ => rfl⟩) trivial)
 intro _ w2 H2
 clear H1
 refine rest0 rfl (then_normal (wp_seq ?_))
 refine walk_seqA 5 [.quiet (V (tl x)), .quiet (V (tl y)), .call (V (tl ab)), .made (cel [0, 0, 0, 0, 0, 0, 0, 0, 0, 0, 0, 0]) 36, .laid 3 (cel [0, 0, 0, 0, 0, 0, 0, 0, 0, 0, 0, 0]) (cel (tl ab))] (sB H2) ?ho3 ?he3 (hL := ?hL3)
 case hL3 => exact ⟨⟨_, rfl⟩, trivial⟩
 case ho3 => exact ak (fun γ => ⟨rfl, fun w' h => ex_loadA (i := 0) (k := 12) h 0 rfl rfl rfl Tryz.isAgg36 Tryz.sizeOf36 rfl rfl⟩) (ak (fun γ => ⟨rfl, fun w' h => ex_loadA (i := 0) (k := 12) h 1 rfl rfl rfl Tryz.isAgg36 Tryz.sizeOf36 rfl rfl⟩) (ak (fun γ => ⟨rfl, fun w' h => ⟨28, #[V (tl x), V (tl y)], exec_call rfl call28 rfl (mpn rfl), C1.out w'⟩⟩) (ak (fun γ => ⟨rfl, fun w' => ex_madeE12 rfl⟩) (ak (fun γ => ⟨rfl, rfl, rfl, fun w' h => ex_laidA h rfl Tryz.sizeOf36 rfl rfl rfl⟩) trivial))))
 intro γ w3 l hM hl
 have H3 : Hid (Mm w3 [(γ 3, cel (tl ab)), (γ1_0, cel (tl x)), (γ1_1, cel (tl y)), (γ1_2, cel (tl z)), (0, dtab)] ∧ _) := growB H2 hM (Nat.le_refl _) hl [3] rfl (by decide)
 have o3_3 := ownB H2 hM (Nat.le_refl _) hl (i := 3) rfl
 clear hM hl l H2
 generalize γ 3 = γ3_3 at H3 o3_3 ⊢
 clear γ
 refine rest0 rfl (then_normal (wp_seq (wp_seq ?_)))
 refine walk_anyB 42 [.quiet (V (tl ab)), .quiet (V (tl y)), .quiet (V (tl x)), .call (V (tl ab)), .quiet (.bool false), .quiet (.bool false), .quiet (V (tl ab)), .quiet (V (tl z)), .call (V (tl m)), .quiet (V (tl x)), .quiet (V (tl y)), .quiet (V (tl z)), .call (V (tl bc)), .call (V (tl m)), .quiet (.bool false), .quiet (.bool false), .quiet (.bool false), .quiet (V (tl x)), .quiet (V (tl y)), .call (V (tl su)), .quiet (V (tl z)), .call (V (tl d)), .quiet (V (tl x)), .quiet (V (tl z)), .call (V (tl ac)), .quiet (V (tl y)), .quiet (V (tl z)), .call (V (tl bc)), .call (V (tl d)), .quiet (.bool false), .quiet (.bool false), .quiet (.bool false), .quiet (V (tl x)), .quiet (V (tl y)), .call (V (tl sb)), .quiet (V (tl y)), .call (V [0, 0, 0, 0, 0, 0, 0, 0, 0, 0, 0, 0]), .quiet (V (tl x)), .call (V [k1, 0, 0, 0, 0, 0, 0, 0, 0, 0, 0, 0]), .call (V [0, 0, 0, 0, 0, 0, 0, 0, 0, 0, 0, 0]), .quiet (.bool false), .quiet (.bool false)] H3 ?ho4 ?he4 (hL := ?hL4)
 case hL4 => exact trivial
 case ho4 => exact ak (fun γ => ⟨rfl, fun w' h => ex_loadA (i := 0) (k := 12) h 0 rfl rfl rfl Tryz.isAgg36 Tryz.sizeOf36 rfl rfl⟩) (ak (fun γ => ⟨rfl, fun w' h => ex_loadA (i := 0) (k := 12) h 2 rfl rfl rfl Tryz.isAgg36 Tryz.sizeOf36 rfl rfl⟩) (ak (fun γ => ⟨rfl, fun w' h => ex_loadA (i := 0) (k := 12) h 1 rfl rfl rfl Tryz.isAgg36 Tryz.sizeOf36 rfl rfl⟩) (ak (fun γ => ⟨rfl, fun w' h => ⟨28, #[V (tl y), V (tl x)], exec_call rfl call28 rfl (mpn rfl), C2.out w'⟩⟩) (ak (fun γ => ⟨rfl, fun w' _ => exec_neqE12 e_ab rfl rfl rfl⟩) (ak (fun _ => ⟨rfl, fun _ _ => rfl⟩) (ak (fun γ => ⟨rfl, fun w' h => ex_loadA (i := 0) (k := 12) h 0 rfl rfl rfl Tryz.isAgg36 Tryz.sizeOf36 rfl rfl⟩) (ak (fun γ => ⟨rfl, fun w' h => ex_loadA (i := 0) (k := 12) h 3 rfl rfl rfl Tryz.isAgg36 Tryz.sizeOf36 rfl rfl⟩) (ak (fun γ => ⟨rfl, fun w' h => ⟨28, #[V (tl ab), V (tl z)], exec_call rfl call28 rfl (mpn rfl), C3.out w'⟩⟩) (ak (fun γ => ⟨rfl, fun w' h => ex_loadA (i := 0) (k := 12) h 1 rfl rfl rfl Tryz.isAgg36 Tryz.sizeOf36 rfl rfl⟩) (ak (fun γ => ⟨rfl, fun w' h => ex_loadA (i := 0) (k := 12) h 2 rfl rfl rfl Tryz.isAgg36 Tryz.sizeOf36 rfl rfl⟩) (ak (fun γ => ⟨rfl, fun w' h => ex_loadA (i := 0) (k := 12) h 3 rfl rfl rfl Tryz.isAgg36 Tryz.sizeOf36 rfl rfl⟩) (ak (fun γ => ⟨rfl, fun w' h => ⟨28, #[V (tl y), V (tl z)], exec_call rfl call28 rfl (mpn rfl), C4.out w'⟩⟩) (ak (fun γ => ⟨rfl, fun w' h => ⟨28, #[V (tl x), V (tl bc)], exec_call rfl call28 rfl (mpn rfl), C5.out w'⟩⟩) (ak (fun γ => ⟨rfl, fun w' _ => exec_neqE12 e_m rfl rfl rfl⟩) (ak (by refine fun γ => ⟨rfl, fun w' h => ?_⟩; clear h; go_simp) (ak (fun _ => ⟨rfl, fun _ _ => rfl⟩) (ak (fun γ => ⟨rfl, fun w' h => ex_loadA (i := 0) (k := 12) h 1 rfl rfl rfl Tryz.isAgg36 Tryz.sizeOf36 rfl rfl⟩) (ak (fun γ => ⟨rfl, fun w' h => ex_loadA (i := 0) (k := 12) h 2 rfl rfl rfl Tryz.isAgg36 Tryz.sizeOf36 rfl rfl⟩) (ak (fun γ => ⟨rfl, fun w' h => ⟨24, #[V (tl x), V (tl y)], exec_call rfl call24 rfl (mpn rfl), C6.out w'⟩⟩) (ak (fun γ => ⟨rfl, fun w' h => ex_loadA (i := 0) (k := 12) h 3 rfl rfl rfl Tryz.isAgg36 Tryz.sizeOf36 rfl rfl⟩) (ak (fun γ => ⟨rfl, fun w' h => ⟨28, #[V (tl su), V (tl z)], exec_call rfl call28 rfl (mpn rfl), C7.out w'⟩⟩) (ak (fun γ => ⟨rfl, fun w' h => ex_loadA (i := 0) (k := 12) h 1 rfl rfl rfl Tryz.isAgg36 Tryz.sizeOf36 rfl rfl⟩) (ak (fun γ => ⟨rfl, fun w' h => ex_loadA (i := 0) (k := 12) h 3 rfl rfl rfl Tryz.isAgg36 Tryz.sizeOf36 rfl rfl⟩) (ak (fun γ => ⟨rfl, fun w' h => ⟨28, #[V (tl x), V (tl z)], exec_call rfl call28 rfl (mpn rfl), C8.out w'⟩⟩) (ak (fun γ => ⟨rfl, fun w' h => ex_loadA (i := 0) (k := 12) h 2 rfl rfl rfl Tryz.isAgg36 Tryz.sizeOf36 rfl rfl⟩) (ak (fun γ => ⟨rfl, fun w' h => ex_loadA (i := 0) (k := 12) h 3 rfl rfl rfl Tryz.isAgg36 Tryz.sizeOf36 rfl rfl⟩) (ak (fun γ => ⟨rfl, fun w' h => ⟨28, #[V (tl y), V (tl z)], exec_call rfl call28 rfl (mpn rfl), C4.out w'⟩⟩) (ak (fun γ => ⟨rfl, fun w' h => ⟨24, #[V (tl ac), V (tl bc)], exec_call rfl call24 rfl (mpn rfl), C9.out w'⟩⟩) (ak (fun γ => ⟨rfl, fun w' _ => exec_neqE12 e_d rfl rfl rfl⟩) (ak (by refine fun γ => ⟨rfl, fun w' h => ?_⟩; clear h; go_simp) (ak (fun _ => ⟨rfl, fun _ _ => rfl⟩) (ak (fun γ => ⟨rfl, fun w' h => ex_loadA (i := 0) (k := 12) h 1 rfl rfl rfl Tryz.isAgg36 Tryz.sizeOf36 rfl rfl⟩) (ak (fun γ => ⟨rfl, fun w' h => ex_loadA (i := 0) (k := 12) h 2 rfl rfl rfl Tryz.isAgg36 Tryz.sizeOf36 rfl rfl⟩) (ak (fun γ => ⟨rfl, fun w' h => ⟨26, #[V (tl x), V (tl y)], exec_call rfl call26 rfl (mpn rfl), C10.out w'⟩⟩) (ak (fun γ => ⟨rfl, fun w' h => ex_loadA (i := 0) (k := 12) h 2 rfl rfl rfl Tryz.isAgg36 Tryz.sizeOf36 rfl rfl⟩) (ak (fun γ => ⟨rfl, fun w' h => ⟨24, #[V (tl sb), V (tl y)], exec_call rfl call24 rfl (mpn rfl), C11.out w'⟩⟩) (ak (fun γ => ⟨rfl, fun w' h => ex_loadA (i := 0) (k := 12) h 1 rfl rfl rfl Tryz.isAgg36 Tryz.sizeOf36 rfl rfl⟩) (ak (fun γ => ⟨rfl, fun w' h => ⟨22, #[], exec_call rfl call22 rfl (mpn rfl), C12.out w'⟩⟩) (ak (fun γ => ⟨rfl, fun w' h => ⟨28, #[V (tl x), V [k1, 0, 0, 0, 0, 0, 0, 0, 0, 0, 0, 0]], exec_call rfl call28 rfl (mpn rfl), C13.out w'⟩⟩) (ak (fun γ => ⟨rfl, fun w' _ => exec_neqE12 e_z rfl rfl rfl⟩) (ak (by refine fun γ => ⟨rfl, fun w' h => ?_⟩; clear h; go_simp) trivial)))))))))))))))))))))))))))))))))))))))))
 intro _ w4 H4
 clear H3
 refine rest0 rfl (then_normal (wp_cond_false rfl ?_))
 refine wp_skip (then_normal (wp_seq ?_))
 refine walk_seqA 8 [.quiet (V (tl x)), .call (.tuple #[V [0, 0, 0, 0, 0, 0, 0, 0, 0, 0, 0, 0], .int .i64 6]), .quiet (.tuple #[V [0, 0, 0, 0, 0, 0, 0, 0, 0, 0, 0, 0], .int .i64 6]), .quiet (V [0, 0, 0, 0, 0, 0, 0, 0, 0, 0, 0, 0]), .quiet (.int .i64 6), .made (cel [0, 0, 0, 0, 0, 0, 0, 0, 0, 0, 0, 0]) 36, .laid 5 (cel [0, 0, 0, 0, 0, 0, 0, 0, 0, 0, 0, 0]) (cel [0, 0, 0, 0, 0, 0, 0, 0, 0, 0, 0, 0]), .quiet (.int .i64 6)] (sB H4) ?ho5 ?he5 (hL := ?hL5)
 case hL5 => exact ⟨⟨_, rfl⟩, trivial⟩
 case ho5 => exact ak (fun γ => ⟨rfl, fun w' h => ex_loadA (i := 0) (k := 12) h 1 rfl rfl rfl Tryz.isAgg36 Tryz.sizeOf36 rfl rfl⟩) (ak (fun γ => ⟨rfl, fun w' h => ⟨36, #[V (tl x)], exec_call rfl call36 rfl (mpn rfl), C15.out w' (h.one 4 rfl)⟩⟩) (ak (fun _ => ⟨rfl, fun _ _ => rfl⟩) (ak (by refine fun γ => ⟨rfl, fun w' h => ?_⟩; clear h; go_simp) (ak (by refine fun γ => ⟨rfl, fun w' h => ?_⟩; clear h; go_simp) (ak (fun γ => ⟨rfl, fun w' => ex_madeE12 rfl⟩) (ak (fun γ => ⟨rfl, rfl, rfl, fun w' h => ex_laidA h rfl Tryz.sizeOf36 rfl rfl rfl⟩) (ak (fun _ => ⟨rfl, fun _ _ => rfl⟩) trivial)))))))
 intro γ w5 l hM hl
 have H5 : Hid (Mm w5 [(γ 5, cel [0, 0, 0, 0, 0, 0, 0, 0, 0, 0, 0, 0]), (γ3_3, cel (tl ab)), (γ1_0, cel (tl x)), (γ1_1, cel (tl y)), (γ1_2, cel (tl z)), (0, dtab)] ∧ _) := growB H4 hM (Nat.le_refl _) hl [5] rfl (by decide)
 have o5_5 := ownB H4 hM (Nat.le_refl _) hl (i := 5) rfl
 clear hM hl l H4
 generalize γ 5 = γ5_5 at H5 o5_5 ⊢
 clear γ
 refine rest0 rfl (then_normal (wp_seq ?_))
 refine walk_anyB 6 [.quiet (V (tl x)), .call (V [k1, 0, 0, 0, 0, 0, 0, 0, 0, 0, 0, 0]), .call (V [0, 0, 0, 0, 0, 0, 0, 0, 0, 0, 0, 0]), .quiet (V [0, 0, 0, 0, 0, 0, 0, 0, 0, 0, 0, 0]), .quiet (.bool true), .quiet (.bool true)] H5 ?ho6 ?he6
 case ho6 => exact ak (fun γ => ⟨rfl, fun w' h => ex_loadA (i := 0) (k := 12) h 2 rfl rfl rfl Tryz.isAgg36 Tryz.sizeOf36 rfl rfl⟩) (ak (fun γ => ⟨rfl, fun w' h => ⟨22, #[], exec_call rfl call22 rfl (mpn rfl), C12.out w'⟩⟩) (ak (fun γ => ⟨rfl, fun w' h => ⟨28, #[V (tl x), V [k1, 0, 0, 0, 0, 0, 0, 0, 0, 0, 0, 0]], exec_call rfl call28 rfl (mpn rfl), C13.out w'⟩⟩) (ak (fun γ => ⟨rfl, fun w' _ => ex_buildE12z rfl⟩) (ak (fun γ => ⟨rfl, fun w' _ => exec_eqE12 e_z rfl rfl rfl⟩) (ak (fun _ => ⟨rfl, fun _ _ => rfl⟩) trivial)))))
 intro _ w6 H6
 clear H5
 refine rest0 rfl (then_normal (wp_seq ?_))
 refine walk_seqB 23 [.quiet (.bool true), .quiet (.bool true), .quiet (V (tl ab)), .call (.bool true), .quiet (.bool true), .quiet (.bool true), .quiet (.int .i64 6), .quiet (.bool true), .quiet (.bool true), .quiet (.bool true), .quiet (.bool true), .quiet (.bool true), .quiet (.int .i64 6), .quiet (.bool true), .quiet (.bool true), .gone, .gone, .gone, .gone, .gone, .quiet (.bool true), .quiet (.bool true), .quiet (.bool true)] H6 ?ho7 ?he7
 case ho7 => exact ak (fun _ => ⟨rfl, fun _ _ => rfl⟩) (ak (fun _ => ⟨rfl, fun _ _ => rfl⟩) (ak (fun γ => ⟨rfl, fun w' h => ex_loadA (i := 0) (k := 12) h 1 rfl rfl rfl Tryz.isAgg36 Tryz.sizeOf36 rfl rfl⟩) (ak (fun γ => ⟨rfl, fun w' h => ⟨34, #[V (tl ab)], exec_call rfl call34 rfl (mpn rfl), C14.out w'⟩⟩) (ak (by refine fun γ => ⟨rfl, fun w' h => ?_⟩; clear h; go_simp) (ak (fun _ => ⟨rfl, fun _ _ => rfl⟩) (ak (fun _ => ⟨rfl, fun _ _ => rfl⟩) (ak (by refine fun γ => ⟨rfl, fun w' h => ?_⟩; clear h; go_simp) (ak (fun _ => ⟨rfl, fun _ _ => rfl⟩) (ak (by refine fun γ => ⟨rfl, fun w' h => ?_⟩; clear h; go_simp) (ak (by refine fun γ => ⟨rfl, fun w' h => ?_⟩; clear h; go_simp) (ak (fun _ => ⟨rfl, fun _ _ => rfl⟩) (ak (fun _ => ⟨rfl, fun _ _ => rfl⟩) (ak (by refine fun γ => ⟨rfl, fun w' h => ?_⟩; clear h; go_simp) (ak (fun _ => ⟨rfl, fun _ _ => rfl⟩) (ak (fun γ => rfl) (ak (fun γ => rfl) (ak (fun γ => rfl) (ak (fun γ => rfl) (ak (fun γ => rfl) (ak (by refine fun γ => ⟨rfl, fun w' h => ?_⟩; clear h; go_simp) (ak (by refine fun γ => ⟨rfl, fun w' h => ?_⟩; clear h; go_simp) (ak (fun _ => ⟨rfl, fun _ _ => rfl⟩) trivial))))))))))))))))))))))
 intro _ w7 H7
 clear H6
 refine rest0 rfl (then_normal (wp_ret ?_))
 repeat (first | refine then_ret ?_ | refine block_ret ?_)
 refine bodyPost_ret (v := .bool true) (by simp [results, Tryz.results5, go_sem, *]) rfl ?_
 exact ⟨rfl, H7.out.2⟩
theorem eq_reflE12 (a : Nat → Int) (w : World) : (Op.equalIn 10000 36 (V (lz a)) (V (lz a))).run Tryz.prog w = .ok true w := by
 have h := run_eqE12 (fun j => pz (a j)) (fun j => pz (a j)) (pz_12 _) (pz_12 _) w
 rw [decide_eq_true rfl] at h
 exact h
theorem eq_listE12 {l : List Nat} {a : Nat → Int} (e : lz a = l) (w : World) : (Op.equalIn 10000 36 (V l) (V l)).run Tryz.prog w = .ok true w := by
 subst e
 exact eq_reflE12 a w
def oneN : Nat → Nat
 | 0 => 1
 | _ => 0
theorem zn_one : zn oneN = one12 := funext fun j => by
 match j with
 | 0 => rfl
 | _ + 1 => rfl
theorem oneN_big : ∀ j, j < 12 → oneN j < big := fun j _ => by
 unfold oneN
 split
 ·exact small_big 1 (by decide)
 ·exact big_pos
theorem lz_mul_one (a : Nat → Int) : lz (mul12 a one12) = lz a := lz_congr2 fun j hj => by
 match j, hj with
 | 0, _ => rw [one12_0]
 | 1, _ => rw [one12_1]
 | 2, _ => rw [one12_2]
 | 3, _ => rw [one12_3]
 | 4, _ => rw [one12_4]
 | 5, _ => rw [one12_5]
 | 6, _ => rw [one12_6]
 | 7, _ => rw [one12_7]
 | 8, _ => rw [one12_8]
 | 9, _ => rw [one12_9]
 | 10, _ => rw [one12_10]
 | 11, _ => rw [one12_11]
theorem ne_zero12 {a : Nat → Int} (h : ¬ ∀ j, j < 12 → Dv (a j)) (w : World) : (Op.equalIn 10000 36 (V (lz a)) (V [0, 0, 0, 0, 0, 0, 0, 0, 0, 0, 0, 0])).run Tryz.prog w = .ok false w := by
 have hq := run_eqE12 (fun j => pz (a j)) zf (pz_12 _) (fun _ _ => big_pos) w
 rw [decide_eq_false (fun e => h fun j hj => by
  rw [← pz_zero_iff]
  simp only [tl, List.cons.injEq] at e
  obtain ⟨e0, e1, e2, e3, e4, e5, e6, e7, e8, e9, e10, e11, _⟩ := e
  match j, hj with
  | 0, _ => exact e0
  | 1, _ => exact e1
  | 2, _ => exact e2
  | 3, _ => exact e3
  | 4, _ => exact e4
  | 5, _ => exact e5
  | 6, _ => exact e6
  | 7, _ => exact e7
  | 8, _ => exact e8
  | 9, _ => exact e9
  | 10, _ => exact e10
  | 11, _ => exact e11)] at hq
 exact hq
set_option maxRecDepth 100000 in
set_option maxHeartbeats 4000000 in
theorem field12_any (x y z : Nat → Nat) (hx : ∀ j, j < 12 → x j < big) (hy : ∀ j, j < 12 → y j < big) (hz : ∀ j, j < 12 → z j < big) (w : World) (hm : Mm w [(0, dtab)]) : Calls Tryz.prog 5 #[V (tl x), V (tl y), V (tl z)] w (Rt w (.bool true)) := by
 have c1 := fun w => mulT12_any x y hx hy w
 have c2 := fun w => mulT12_any y x hy hx w
 rw [comm12 (zn y)] at c2
 have c3 := fun w => mulT12_any (fun j => pz ((mul12 (zn x) (zn y)) j)) z (pz_12 _) hz w
 rw [lz_congr (mul12_pzl (mul12 (zn x) (zn y)) (zn z))] at c3
 have c4 := fun w => mulT12_any y z hy hz w
 have c5 := fun w => mulT12_any x (fun j => pz ((mul12 (zn y) (zn z)) j)) hx (pz_12 _) w
 rw [lz_congr (mul12_pzr (zn x) (mul12 (zn y) (zn z))), ← assoc12] at c5
 have c6 := fun w => addT12_any x y hx hy w
 have c7 := fun w => mulT12_any (fun j => pz (((fun j => zn x j + zn y j)) j)) z (pz_12 _) hz w
 rw [lz_congr (mul12_pzl (fun j => zn x j + zn y j) (zn z))] at c7
 have c8 := fun w => mulT12_any x z hx hz w
 have c9 := fun w => addT12_any (fun j => pz ((mul12 (zn x) (zn z)) j)) (fun j => pz ((mul12 (zn y) (zn z)) j)) (pz_12 _) (pz_12 _) w
 have e9 : (lz fun j => zn (fun j => pz ((mul12 (zn x) (zn z)) j)) j + zn (fun j => pz ((mul12 (zn y) (zn z)) j)) j) = lz (mul12 (fun j => zn x j + zn y j) (zn z)) := lz_congr fun j => by
  rw [add12]
  exact pz_add _ _
 rw [e9] at c9
 have c10 := fun w => subT12_any x y hx hy w
 have c11 := fun w => addT12_any (fun j => pz (((fun j => zn x j - zn y j)) j)) y (pz_12 _) hy w
 have e11 : (lz fun j => zn (fun j => pz (((fun j => zn x j - zn y j)) j)) j + zn y j) = lz (zn x) := lz_dv fun j _ => (dv_pz (zn x j - zn y j)).of (by unfold zn; dsimp only; omega)
 rw [e11] at c11
 have c12 := one_any
 have c13 := fun w => mulT12_any x oneN hx oneN_big w
 rw [zn_one, lz_mul_one] at c13
 have c14 := fun w => whole_any (mul12 (zn x) (zn y)) w
 by_cases h : O2 (nE (zn x))
 ·have h0 := twelve0 h
  have ez : lz (zn x) = [0, 0, 0, 0, 0, 0, 0, 0, 0, 0, 0, 0] := by simp only [lz, (pz_zero_iff _).2 (h0 0 (by decide)), (pz_zero_iff _).2 (h0 1 (by decide)), (pz_zero_iff _).2 (h0 2 (by decide)), (pz_zero_iff _).2 (h0 3 (by decide)), (pz_zero_iff _).2 (h0 4 (by decide)), (pz_zero_iff _).2 (h0 5 (by decide)), (pz_zero_iff _).2 (h0 6 (by decide)), (pz_zero_iff _).2 (h0 7 (by decide)), (pz_zero_iff _).2 (h0 8 (by decide)), (pz_zero_iff _).2 (h0 9 (by decide)), (pz_zero_iff _).2 (h0 10 (by decide)), (pz_zero_iff _).2 (h0 11 (by decide))]
  have er : ∀ w, (Op.equalIn 10000 36 (V [0, 0, 0, 0, 0, 0, 0, 0, 0, 0, 0, 0]) (V [0, 0, 0, 0, 0, 0, 0, 0, 0, 0, 0, 0])).run Tryz.prog w = .ok true w := fun w => eq_listE12 ez w
  rw [ez] at c11 c13
  exact field12_no x y z (fun j => pz ((mul12 (zn x) (zn y)) j)) (fun j => pz ((mul12 (mul12 (zn x) (zn y)) (zn z)) j)) (fun j => pz ((mul12 (zn y) (zn z)) j)) (fun j => pz (((fun j => zn x j + zn y j)) j)) (fun j => pz ((mul12 (fun j => zn x j + zn y j) (zn z)) j)) (fun j => pz ((mul12 (zn x) (zn z)) j)) (fun j => pz (((fun j => zn x j - zn y j)) j)) 1 (eq_reflE12 _) (eq_reflE12 _) (eq_reflE12 _) er awake_any c1 c2 c3 c4 c5 c6 c7 c8 c9 c10 c11 c12 c13 c14 (fun w hm => inv12_bad x hx h w hm) w hm
 ·have hne : ¬ ∀ j, j < 12 → Dv (zn x j) := fun k => h (nE_zero k)
  have c16 := fun w => mulT12_any (fun j => pz ((inv12 (zn x)) j)) x (pz_12 _) hx w
  rw [lz_congr (mul12_pzl (inv12 (zn x)) (zn x)), lz_dv fun j _ => inv12_mul (zn x) h j, ← one_lz] at c16
  exact field12_ok x y z (fun j => pz ((mul12 (zn x) (zn y)) j)) (fun j => pz ((mul12 (mul12 (zn x) (zn y)) (zn z)) j)) (fun j => pz ((mul12 (zn y) (zn z)) j)) (fun j => pz (((fun j => zn x j + zn y j)) j)) (fun j => pz ((mul12 (fun j => zn x j + zn y j) (zn z)) j)) (fun j => pz ((mul12 (zn x) (zn z)) j)) (fun j => pz (((fun j => zn x j - zn y j)) j)) (fun j => pz (zn x j)) (fun j => pz ((inv12 (zn x)) j)) 1 (eq_reflE12 _) (eq_reflE12 _) (eq_reflE12 _) (eq_reflE12 _) (eq_listE12 one_lz.symm) (ne_zero12 hne) awake_any c1 c2 c3 c4 c5 c6 c7 c8 c9 c10 c11 c12 c13 c14 (fun w hm => inv12_good x hx h w hm) c16 w hm
end Rg
end Go.Proofs.YtgdlhgbdigpfhaaGreatDoor
end
section
namespace Go.Proofs.YtgdlhgbdigpfhaaGreatDoor
open Go.ChangeShapes Go.WideShapes Go.ChangeAt Go.RowKit
set_option maxRecDepth 100000
theorem Tryz.own : ownKnob Tryz.prog.godebug = none := by kernel_rfl
theorem Tryz.laidOut : laidOutB Tryz.prog = true := by kernel_rfl
theorem wd_cons_zero (x r : Nat) (hx : x < 18446744073709551616) : wd (x + 18446744073709551616 * r) 0 = x := by
 unfold wd; rw [Nat.mul_zero, Nat.pow_zero, Nat.div_one]; omega
theorem wd_cons_succ (x r i : Nat) (hx : x < 18446744073709551616) : wd (x + 18446744073709551616 * r) (i + 1) = wd r i := by
 unfold wd
 rw [pow_step, Nat.mul_comm (2 ^ (64 * i)), ← Nat.div_div_eq_div_mul, show (x + 18446744073709551616 * r) / 18446744073709551616 = r by omega]
theorem lt_cons (x r k : Nat) (hx : x < 18446744073709551616) (hr : r < 2 ^ (64 * k)) : x + 18446744073709551616 * r < 2 ^ (64 * (k + 1)) := by
 rw [pow_step]; omega
theorem num_of_words (x : Nat → Nat) (hx : ∀ i, x i < 18446744073709551616) (n : Nat) : ∃ a, a < 2 ^ (64 * n) ∧ ∀ i, i < n → wd a i = x i := by
 induction n generalizing x with
 | zero => exact ⟨0, Nat.two_pow_pos _, fun i h => absurd h (Nat.not_lt_zero _)⟩
 | succ n ih =>
  obtain ⟨r, hr, hw⟩ := ih (fun i => x (i + 1)) (fun i => hx _)
  refine ⟨x 0 + 18446744073709551616 * r, lt_cons _ _ _ (hx 0) hr, fun i hi => ?_⟩
  cases i with
  | zero => exact wd_cons_zero _ _ (hx 0)
  | succ i => rw [wd_cons_succ _ _ _ (hx 0)]; exact hw i (by omega)
end Go.Proofs.YtgdlhgbdigpfhaaGreatDoor
end
section
namespace Go.Proofs.YtgdlhgbdigpfhaaGreatDoor
open Go.ChangeShapes Go.WideShapes Go.ChangeAt Go.RowKit
set_option maxRecDepth 100000
section
variable {H : Type} {enc : TypeId × Value → H} {w : World} {base : Nat} {sp : Nat → Bool} {held : Bool}
theorem cells_num {fuel : Nat} {cs : List Value} {x : DataW H × List MemPlace} (h : DataW.trod enc Tryz.prog w base sp held fuel 24 cs = some x) : ∃ a, a < big ∧ cs = cells6 a ∧ x.2 = [] := by
 obtain ⟨xs, m, -, hx, hl, hn, hel⟩ := DataW.trod_array Tryz.underlying24 h
 have hc : Tryz.prog.cellsOf 22 = 1 := by kernel_rfl
 have hc6 : Tryz.prog.cellsOf 24 = 6 := by kernel_rfl
 rw [hc6] at hl
 have key : ∀ i, i < 6 → ∃ n : Nat, n < 18446744073709551616 ∧ cs[i]? = some (.int .u64 n) ∧ ∃ z, xs[i]? = some z ∧ z.2 = [] := by
  intro i hi
  have h := hel i hi
  rw [hc] at h
  have hlt : i < xs.length := by rw [hn]; exact hi
  obtain ⟨z, hz⟩ : ∃ z, xs[i]? = some z := ⟨xs[i], List.getElem?_eq_getElem hlt⟩
  rw [hz] at h
  obtain ⟨n, e1, e2, e3⟩ := DataW.trod_int Tryz.underlying22 h
  have hb := bounds_u64 e3
  have e6 : ((cs.drop (i * 1)).take 1)[0]? = some (.int .u64 n) := by rw [e1]; rfl
  rw [Nat.mul_one, List.getElem?_take] at e6
  have e5 : (cs.drop i)[0]? = some (.int .u64 n) := by simpa using e6
  rw [List.getElem?_drop] at e5
  refine ⟨n.toNat, by omega, ?_, z, hz, by rw [e2]⟩
  rw [Int.toNat_of_nonneg hb.1]
  simpa using e5
 obtain ⟨n0, l0, c0, z0, y0, q0⟩ := key 0 (by omega)
 obtain ⟨n1, l1, c1, z1, y1, q1⟩ := key 1 (by omega)
 obtain ⟨n2, l2, c2, z2, y2, q2⟩ := key 2 (by omega)
 obtain ⟨n3, l3, c3, z3, y3, q3⟩ := key 3 (by omega)
 obtain ⟨n4, l4, c4, z4, y4, q4⟩ := key 4 (by omega)
 obtain ⟨n5, l5, c5, z5, y5, q5⟩ := key 5 (by omega)
 have hps : x.2 = [] := by
  have hx2 : x.2 = xs.flatMap (·.2) := congrArg Prod.snd hx
  rw [hx2, List.flatMap_eq_nil_iff]
  intro z hz
  obtain ⟨i, hi⟩ := List.mem_iff_getElem?.1 hz
  have hi6 : i < 6 := by
   have := (List.getElem?_eq_some_iff.1 hi).1
   omega
  obtain ⟨n, _, _, z', y, q⟩ := key i hi6
  rw [hi] at y; injection y with y; rw [y]; exact q
 obtain ⟨a, ha, hw⟩ := num_of_words (fun i => [n0, n1, n2, n3, n4, n5].getD i 0) (by
  intro i
  match i with
  | 0 => exact l0
  | 1 => exact l1
  | 2 => exact l2
  | 3 => exact l3
  | 4 => exact l4
  | 5 => exact l5
  | (i + 6) => simp) 6
 refine ⟨a, by rw [big]; exact ha, ?_, hps⟩
 have w0 : wd a 0 = n0 := hw 0 (by omega)
 have w1 : wd a 1 = n1 := hw 1 (by omega)
 have w2 : wd a 2 = n2 := hw 2 (by omega)
 have w3 : wd a 3 = n3 := hw 3 (by omega)
 have w4 : wd a 4 = n4 := hw 4 (by omega)
 have w5 : wd a 5 = n5 := hw 5 (by omega)
 unfold cells6
 rw [w0, w1, w2, w3, w4, w5]
 apply List.ext_getElem?
 intro i
 match i with
 | 0 => exact c0
 | 1 => exact c1
 | 2 => exact c2
 | 3 => exact c3
 | 4 => exact c4
 | 5 => exact c5
 | i + 6 => rw [List.getElem?_eq_none (by omega)]; rfl
/-- An array of n parts of c cells each, whose parts open. -/
theorem cells_parts {t e : TypeId} {n c : Nat} {P : List Value → Prop} {fuel : Nat} {cs : List Value} {x : DataW H × List MemPlace} (ht : Tryz.prog.underlying t = some (.array n e)) (hce : Tryz.prog.cellsOf e = c) (hct : Tryz.prog.cellsOf t = n * c)
  (hop : ∀ {fuel : Nat} {cs : List Value} {x : DataW H × List MemPlace}, DataW.trod enc Tryz.prog w base sp held fuel e cs = some x → P cs ∧ x.2 = []) (h : DataW.trod enc Tryz.prog w base sp held fuel t cs = some x) :
  cs.length = n * c ∧ (∀ i, i < n → P ((cs.drop (i * c)).take c)) ∧ x.2 = [] := by
 obtain ⟨xs, m, -, hx, hl, hn, hel⟩ := DataW.trod_array ht h
 rw [hct] at hl
 rw [hce] at hel
 have key : ∀ i, i < n → P ((cs.drop (i * c)).take c) ∧ ∃ z, xs[i]? = some z ∧ z.2 = [] := fun i hi => by
  have h := hel i hi
  have hlt : i < xs.length := by rw [hn]; exact hi
  obtain ⟨z, hz⟩ : ∃ z, xs[i]? = some z := ⟨xs[i], List.getElem?_eq_getElem hlt⟩
  rw [hz] at h
  exact ⟨(hop h).1, z, hz, (hop h).2⟩
 refine ⟨hl, fun i hi => (key i hi).1, ?_⟩
 have hx2 : x.2 = xs.flatMap (·.2) := congrArg Prod.snd hx
 rw [hx2, List.flatMap_eq_nil_iff]
 intro z hz
 obtain ⟨i, hi⟩ := List.mem_iff_getElem?.1 hz
 have hin : i < n := by
  have := (List.getElem?_eq_some_iff.1 hi).1
  omega
 obtain ⟨_, z', y, q⟩ := key i hin
 rw [hi] at y; injection y with y; rw [y]; exact q
theorem cells_E2 {fuel : Nat} {cs : List Value} {x : DataW H × List MemPlace} (h : DataW.trod enc Tryz.prog w base sp held fuel 26 cs = some x) : (∃ a b, a < big ∧ b < big ∧ cs = Rg.cel [a, b]) ∧ x.2 = [] := by
 obtain ⟨hl, hp, hx⟩ := cells_parts (P := fun l => ∃ a, a < big ∧ l = cells6 a) (n := 2) (c := 6) Tryz.underlying26 (by kernel_rfl) (by kernel_rfl) (fun h => by obtain ⟨a, h1, h2, h3⟩ := cells_num h; exact ⟨⟨a, h1, h2⟩, h3⟩) h
 obtain ⟨a, ha, ea⟩ := hp 0 (by decide)
 obtain ⟨b, hb, eb⟩ := hp 1 (by decide)
 refine ⟨⟨a, b, ha, hb, ?_⟩, hx⟩
 rw [Nat.zero_mul, List.drop_zero] at ea
 rw [List.take_of_length_le (by rw [List.length_drop]; omega)] at eb
 have e := List.take_append_drop 6 cs
 rw [ea, show (6 : Nat) = 1 * 6 from rfl, eb] at e
 rw [← e]
 rfl
theorem cells_E12 {fuel : Nat} {cs : List Value} {x : DataW H × List MemPlace} (h : DataW.trod enc Tryz.prog w base sp held fuel 36 cs = some x) : (∃ a : Nat → Nat, (∀ j, j < 12 → a j < big) ∧ cs = Rg.cel [a 0, a 1, a 2, a 3, a 4, a 5, a 6, a 7, a 8, a 9, a 10, a 11]) ∧ x.2 = [] := by
 obtain ⟨hl, hp, hx⟩ := cells_parts (P := fun l => ∃ a b, a < big ∧ b < big ∧ l = Rg.cel [a, b]) (n := 6) (c := 12) Tryz.underlying36 (by kernel_rfl) (by kernel_rfl) (fun h => cells_E2 h) h
 obtain ⟨a0, a1, h0, h1, e0⟩ := hp 0 (by decide)
 obtain ⟨a2, a3, h2, h3, e1⟩ := hp 1 (by decide)
 obtain ⟨a4, a5, h4, h5, e2⟩ := hp 2 (by decide)
 obtain ⟨a6, a7, h6, h7, e3⟩ := hp 3 (by decide)
 obtain ⟨a8, a9, h8, h9, e4⟩ := hp 4 (by decide)
 obtain ⟨a10, a11, h10, h11, e5⟩ := hp 5 (by decide)
 refine ⟨⟨fun j => [a0, a1, a2, a3, a4, a5, a6, a7, a8, a9, a10, a11].getD j 0, fun j hj => ?_, ?_⟩, hx⟩
 ·match j, hj with
  | 0, _ => exact h0
  | 1, _ => exact h1
  | 2, _ => exact h2
  | 3, _ => exact h3
  | 4, _ => exact h4
  | 5, _ => exact h5
  | 6, _ => exact h6
  | 7, _ => exact h7
  | 8, _ => exact h8
  | 9, _ => exact h9
  | 10, _ => exact h10
  | 11, _ => exact h11
 ·show cs = Rg.cel [a0, a1, a2, a3, a4, a5, a6, a7, a8, a9, a10, a11]
  rw [show [a0, a1, a2, a3, a4, a5, a6, a7, a8, a9, a10, a11] = [a0, a1] ++ ([a2, a3] ++ ([a4, a5] ++ ([a6, a7] ++ ([a8, a9] ++ [a10, a11])))) from rfl]
  simp only [Rg.cel_app]
  rw [← e0, ← e1, ← e2, ← e3, ← e4, ← e5]
  have step : ∀ i, cs.drop (i * 12) = (cs.drop (i * 12)).take 12 ++ cs.drop ((i + 1) * 12) := fun i => by
   have h1 := List.take_append_drop 12 (cs.drop (i * 12))
   rw [List.drop_drop] at h1
   rw [show (i + 1) * 12 = i * 12 + 12 by omega]
   exact h1.symm
  have last : (cs.drop (5 * 12)).take 12 = cs.drop (5 * 12) := List.take_of_length_le (by rw [List.length_drop]; omega)
  rw [last, ← step 4, ← step 3, ← step 2, ← step 1, ← step 0, Nat.zero_mul, List.drop_zero]
end
section
variable {H : Type} {enc : TypeId × Value → H} {w : World} {base : Nat} {sp : Nat → Bool} {held : Bool} {r : Reach} {b0 : Nat} {v : Value} {d : DataW H} {ps : List MemPlace}
theorem open_E12 (hval : Value.okWide Tryz.prog w r b0 36 v) (hd : DataW.Trod enc Tryz.prog w base sp held 36 v d ps) : ∃ a : Nat → Nat, (∀ j, j < 12 → a j < big) ∧ v = Rg.V [a 0, a 1, a 2, a 3, a 4, a 5, a 6, a 7, a 8, a 9, a 10, a 11] ∧ ps = [] := by
 unfold Value.okWide at hval
 rw [Tryz.underlying36] at hval
 obtain ⟨cs, rfl, hsz, _⟩ := hval
 obtain ⟨fuel, hf⟩ := hd
 obtain ⟨⟨a, ha, e⟩, hx⟩ := cells_E12 hf
 refine ⟨a, ha, ?_, hx⟩
 have e2 : cs.toList = Rg.cel [a 0, a 1, a 2, a 3, a 4, a 5, a 6, a 7, a 8, a 9, a 10, a 11] := e
 show Value.agg cs = Value.agg (Rg.cel [a 0, a 1, a 2, a 3, a 4, a 5, a 6, a 7, a 8, a 9, a 10, a 11]).toArray
 rw [← e2, Array.toArray_toList]
end
theorem e12_stays {H : Type} {enc : TypeId × Value → H} {W W' : World} {v : Value} {d : DataW H}
  (h : DataW.Trod enc Tryz.prog W 0 (fun _ => true) true 36 v d []) (hb : Below W.heap.size W W') :
  DataW.Trod enc Tryz.prog W' 0 (fun b => decide (b < W.heap.size)) true 36 v d [] :=
 Below.trod Tryz.laidOut (by kernel_rfl) (by decide +kernel) h hb (fun _ hx => by cases hx)
end Go.Proofs.YtgdlhgbdigpfhaaGreatDoor
end
section
namespace Go.Proofs.YtgdlhgbdigpfhaaGreatDoor
open Go.ChangeShapes Go.WideShapes Go.ChangeAt Go.RowKit
namespace Rg
set_option maxRecDepth 100000
abbrev laidL : List (String × DataW Unit) := Rows.towerField12Row.laid
abbrev tabName : String := match laidL with
 | (n, _) :: _ => n
 | [] => Tryz.f3.name
theorem gTab : Tryz.prog.globalNamed tabName = some 0 := by kernel_rfl
theorem tTab : (Tryz.prog.globals[0]?).map (·.type) = some 127 := by kernel_rfl
theorem datTab : (Rows.laid_math_bits_deBruijn64tab : DataW Unit) = .agg (Lib.deBruijn64tab.map fun k => .lit (.int .u8 ((k : Nat) : Int))) := by kernel_rfl
theorem tab_of_laid {W : World} (h : laidMetH Tryz.prog laidL W) : Mm W [(0, dtab)] := by
 rw [MakeChecks.laidMetH_plain _ _ _ (by kernel_rfl)] at h
 obtain ⟨ps, ⟨g, t, cs, fuel, p, q, hg, ht, hv, hd, hq, hps⟩, hnd, hc⟩ := h
 obtain rfl := Option.some.inj (gTab.symm.trans hg)
 obtain rfl := Option.some.inj (tTab.symm.trans ht)
 obtain ⟨xs, m, -, hx, hlen, hn, hel⟩ := DataW.trod_array Tryz.underlying127 hd
 rw [datTab] at hx
 simp only [Prod.mk.injEq, DataW.agg.injEq] at hx
 have hc5 : Tryz.prog.cellsOf 5 = 1 := by kernel_rfl
 have hc81 : Tryz.prog.cellsOf 127 = 64 := by kernel_rfl
 rw [hc81] at hlen
 have hsz : cs.size = 64 := by simpa using hlen
 have hpl : ∀ i, i < 64 → MemPlace.cell 0 i ∈ ps := fun i hi => by
  rw [hps]
  refine List.mem_append_left _ (List.mem_append_left _ ?_)
  unfold MemPlace.row
  simp [hsz]
  omega
 obtain ⟨⟨c0, t0, hheap⟩, _⟩ := hc 0 0 (hpl 0 (by decide))
 have h0 : 0 < W.heap.size := by
  rcases Nat.lt_or_ge 0 W.heap.size with h' | h'
  ·exact h'
  ·rw [Array.getElem?_eq_none (by omega)] at hheap; cases hheap
 refine ⟨fun pq hpq => ?_, List.pairwise_singleton _ _⟩
 rw [List.mem_singleton.1 hpq]
 refine ⟨h0, fun j v hj => ?_⟩
 have hj64 : j < 64 := by
  have := (List.getElem?_eq_some_iff.1 hj).1
  exact this
 refine ⟨?_, ?_⟩
 ·rw [World.var?_cell hg hv j]
  have h1 := hel j hj64
  rw [hc5, Nat.mul_one] at h1
  have hlt : j < xs.length := by omega
  rw [List.getElem?_eq_getElem hlt] at h1
  obtain ⟨n, e1, e2, _⟩ := DataW.trod_int Tryz.underlying5 h1
  have e3 : cs[j]? = some (.int .u8 n) := by
   have e4 : ((cs.toList.drop j).take 1)[0]? = some (.int .u8 n) := by rw [e1]; rfl
   rw [List.getElem?_take, if_pos (by decide), List.getElem?_drop] at e4
   simpa using e4
  have e5 : (xs.map (·.1))[j]? = (Lib.deBruijn64tab.map fun k => DataW.lit (.int .u8 ((k : Nat) : Int)))[j]? := by rw [hx.1]
  rw [List.getElem?_map, List.getElem?_eq_getElem hlt, e2, List.getElem?_map] at e5
  unfold dtab at hj
  rw [List.getElem?_map] at hj
  cases hk : Lib.deBruijn64tab[j]? with
  | none => rw [hk] at hj; cases hj
  | some k =>
   rw [hk] at hj e5
   simp only [Option.map_some, Option.some.injEq, DataW.lit.injEq] at hj e5
   rw [e3, ← hj]
   simp only [Option.some.injEq]
   injection e5 with _ e6
   rw [e6]
 ·unfold World.frozen?
  rw [hheap]
  simp
theorem door_met (os : Os) (args : Array Value) : laidMetH Tryz.prog laidL ((World.doorLaid Tryz.prog 400 os).forCall (fun _ _ => 0) ⟨#[], args, []⟩).memory :=
 laidMetH_of_parts3 (fuel := 8) (laidMet_of_run' 8 (by kernel_rfl) (by kernel_rfl)) (by kernel_rfl) (by kernel_rfl)
end Rg
end Go.Proofs.YtgdlhgbdigpfhaaGreatDoor
end
