/- Texts of the proof, joined. -/
import Derived.Test.YtaomlijondiaoaaGreatDoorP6
set_option maxRecDepth 100000
section
namespace Go.Proofs.YtaomlijondiaoaaGreatDoor
open Go.RowKit
namespace Rg
theorem checkZ_1 {α : Type} {en : α → Nat} {fa fs fm : α → α → α} {fi : α → α} {z u b : α} {g : Nat} {tn : Value} (_C : Fd1 g en fa fs fm fi z) (x y : Nat) (be : Bool) (he : ∀ w, (Op.equalIn 10000 84 (.agg (zU x y true).toArray) (.agg (zU 0 0 true).toArray)).run Tryz.prog w = .ok be w) (w : World) (hm : Mm w [(g, yB pB), (0, dtab)]) :
  Calls Tryz.prog 48 #[.agg (G1 g tn (en u) (en b)).toArray, .agg (zU x y true).toArray] w (Rt w (.bool be)) := by
 have H0 : Hid (_ ∧ _) := ⟨hm, Below.refl w.heap.size w⟩
 clear hm
 have HE : Hid _ := he
 clear he
 go_enter Tryz.func48, Tryz.ntmps48
 refine wp_seq ?_
 refine zC 3 [.made (G1 g tn (en u) (en b)) 81, .made (zU x y true) 84, .quiet (.bool false)] (sB H0) ?ho1 ?he1
 case ho1 => exact am (zW rfl rfl) (am (zW rfl rfl) (ar trivial))
 intro γ w1 l hM hl
 have H1 : Hid (Mm w1 ([(γ 0, G1 g tn (en u) (en b)), (γ 1, zU x y true)] ++ _) ∧ _) := wB H0 hM hl [0, 1]
 have o1_0 := vB H0 hM hl 0
 have o1_1 := vB H0 hM hl 1
 clear hM hl l
 generalize γ 0 = γ1_0 at H1 o1_0 ⊢
 generalize γ 1 = γ1_1 at H1 o1_1 ⊢
 clear γ
 refine rN (wp_seq (wp_seq ?_))
 refine zB 2 [.quiet (PT γ1_1 12), .quiet (.bool true)] H1 ?ho2 ?he2
 case ho2 => exact ag (bC 1 Tryz.isAgg4 trivial)
 intro _ w2 H2
 clear H1
 refine rN (wp_cond_true rfl (wp_seq ?_))
 refine zB 4 [.quiet (.agg (zU x y true).toArray), .quiet (.agg (zU 0 0 true).toArray), .quiet (.bool be), .quiet (.bool be)] H2 ?ho3 ?he3
 case ho3 => exact bT 1 Tryz.isAgg84 Tryz.sizeOf84 (ak (fun γ => ⟨rfl, fun w' _ => ex_buildPNt rfl rfl⟩) (ak (fun γ => ⟨rfl, fun w' _ => exec_eqT84 HE.out rfl rfl rfl⟩) (ar trivial)))
 intro _ w3 H3
 clear H2
 refine rN (wp_ret ?_)
 repeat (first | refine zM ?_ | refine zI ?_)
 refine bodyPost_ret (v := .bool be) (by simp [results, Tryz.results48, go_sem, *]) rfl ?_
 exact ⟨rfl, H3.out.2⟩
theorem checkX_1 {α : Type} {en : α → Nat} {fa fs fm : α → α → α} {fi : α → α} {z u b : α} {g : Nat} {tn : Value} (_C : Fd1 g en fa fs fm fi z) (x y : Nat) (cx : ∀ w, Mm w [(g, yB pB), (0, dtab)] → Calls Tryz.prog 87 #[N x] w (Rt w (.bool false))) (w : World) (hm : Mm w [(g, yB pB), (0, dtab)]) :
  Calls Tryz.prog 48 #[.agg (G1 g tn (en u) (en b)).toArray, .agg (zU x y false).toArray] w (Rt w (.bool false)) := by
 have H0 : Hid (_ ∧ _) := ⟨hm, Below.refl w.heap.size w⟩
 clear hm
 have CX : Hid _ := cx
 clear cx
 go_enter Tryz.func48, Tryz.ntmps48
 refine wp_seq ?_
 refine zC 3 [.made (G1 g tn (en u) (en b)) 81, .made (zU x y false) 84, .quiet (.bool false)] (sB H0) ?ho1 ?he1
 case ho1 => exact am (zW rfl rfl) (am (zW rfl rfl) (ar trivial))
 intro γ w1 l hM hl
 have H1 : Hid (Mm w1 ([(γ 0, G1 g tn (en u) (en b)), (γ 1, zU x y false)] ++ _) ∧ _) := wB H0 hM hl [0, 1]
 have o1_0 := vB H0 hM hl 0
 have o1_1 := vB H0 hM hl 1
 clear hM hl l
 generalize γ 0 = γ1_0 at H1 o1_0 ⊢
 generalize γ 1 = γ1_1 at H1 o1_1 ⊢
 clear γ
 refine rN (wp_seq (wp_seq ?_))
 refine zB 2 [.quiet (PT γ1_1 12), .quiet (.bool false)] H1 ?ho2 ?he2
 case ho2 => exact ag (bC 1 Tryz.isAgg4 trivial)
 intro _ w2 H2
 clear H1
 refine rN (wp_cond_false rfl ?_)
 refine wp_skip (zA (wp_seq ?_))
 refine zP 46 [.quiet (PT γ1_0 0), .quiet (PT γ1_0 4), .quiet (.func (.func 87) #[] #[]), .quiet (PT γ1_1 0), .quiet (N x), .call (.bool false), .quiet (.bool false), .gone, .gone, .gone, .gone, .gone, .gone, .quiet (.bool false), .quiet (.bool false), .gone, .gone, .gone, .gone, .gone, .gone, .gone, .gone, .gone, .gone, .gone, .gone, .gone, .gone, .gone, .gone, .gone, .gone, .gone, .gone, .gone, .gone, .gone, .gone, .gone, .gone, .gone, .gone, .gone, .quiet (.bool false), .quiet (.bool false)] H2 ?ho3 ?he3 (hL := ?hL3)
 case hL3 => exact trivial
 case ho3 => exact ag (ag (bC 0 Tryz.isAgg71 (ag (bN 1 (ac (fun w' h => ⟨87, #[N x], zL rfl call87 rfl (mpn rfl) rfl, CX.out w' (h.two 2 3 rfl rfl (by decide))⟩) (ar (ak (fun γ => rfl) (ak (fun γ => rfl) (ak (fun γ => rfl) (ak (fun γ => rfl) (ak (fun γ => rfl) (ak (fun γ => rfl) (ag (ar (ak (fun γ => rfl) (ak (fun γ => rfl) (ak (fun γ => rfl) (ak (fun γ => rfl) (ak (fun γ => rfl) (ak (fun γ => rfl) (ak (fun γ => rfl) (ak (fun γ => rfl) (ak (fun γ => rfl) (ak (fun γ => rfl) (ak (fun γ => rfl) (ak (fun γ => rfl) (ak (fun γ => rfl) (ak (fun γ => rfl) (ak (fun γ => rfl) (ak (fun γ => rfl) (ak (fun γ => rfl) (ak (fun γ => rfl) (ak (fun γ => rfl) (ak (fun γ => rfl) (ak (fun γ => rfl) (ak (fun γ => rfl) (ak (fun γ => rfl) (ak (fun γ => rfl) (ak (fun γ => rfl) (ak (fun γ => rfl) (ak (fun γ => rfl) (ak (fun γ => rfl) (ak (fun γ => rfl) (ag (ar trivial)))))))))))))))))))))))))))))))))))))))))))))
 intro _ w3 H3
 clear H2
 refine rN (wp_ret ?_)
 repeat (first | refine zM ?_ | refine zI ?_)
 refine bodyPost_ret (v := .bool false) (by simp [results, Tryz.results48, go_sem, *]) rfl ?_
 exact ⟨rfl, H3.out.2⟩
theorem checkY_1 {α : Type} {en : α → Nat} {fa fs fm : α → α → α} {fi : α → α} {z u b : α} {g : Nat} {tn : Value} (_C : Fd1 g en fa fs fm fi z) (x y : Nat) (cx : ∀ w, Mm w [(g, yB pB), (0, dtab)] → Calls Tryz.prog 87 #[N x] w (Rt w (.bool true))) (cy : ∀ w, Mm w [(g, yB pB), (0, dtab)] → Calls Tryz.prog 87 #[N y] w (Rt w (.bool false))) (w : World) (hm : Mm w [(g, yB pB), (0, dtab)]) :
  Calls Tryz.prog 48 #[.agg (G1 g tn (en u) (en b)).toArray, .agg (zU x y false).toArray] w (Rt w (.bool false)) := by
 have H0 : Hid (_ ∧ _) := ⟨hm, Below.refl w.heap.size w⟩
 clear hm
 have CX : Hid _ := cx
 clear cx
 have CY : Hid _ := cy
 clear cy
 go_enter Tryz.func48, Tryz.ntmps48
 refine wp_seq ?_
 refine zC 3 [.made (G1 g tn (en u) (en b)) 81, .made (zU x y false) 84, .quiet (.bool false)] (sB H0) ?ho1 ?he1
 case ho1 => exact am (zW rfl rfl) (am (zW rfl rfl) (ar trivial))
 intro γ w1 l hM hl
 have H1 : Hid (Mm w1 ([(γ 0, G1 g tn (en u) (en b)), (γ 1, zU x y false)] ++ _) ∧ _) := wB H0 hM hl [0, 1]
 have o1_0 := vB H0 hM hl 0
 have o1_1 := vB H0 hM hl 1
 clear hM hl l
 generalize γ 0 = γ1_0 at H1 o1_0 ⊢
 generalize γ 1 = γ1_1 at H1 o1_1 ⊢
 clear γ
 refine rN (wp_seq (wp_seq ?_))
 refine zB 2 [.quiet (PT γ1_1 12), .quiet (.bool false)] H1 ?ho2 ?he2
 case ho2 => exact ag (bC 1 Tryz.isAgg4 trivial)
 intro _ w2 H2
 clear H1
 refine rN (wp_cond_false rfl ?_)
 refine wp_skip (zA (wp_seq ?_))
 refine zP 46 [.quiet (PT γ1_0 0), .quiet (PT γ1_0 4), .quiet (.func (.func 87) #[] #[]), .quiet (PT γ1_1 0), .quiet (N x), .call (.bool true), .quiet (.bool true), .quiet (PT γ1_0 0), .quiet (PT γ1_0 4), .quiet (.func (.func 87) #[] #[]), .quiet (PT γ1_1 6), .quiet (N y), .call (.bool false), .quiet (.bool false), .quiet (.bool false), .gone, .gone, .gone, .gone, .gone, .gone, .gone, .gone, .gone, .gone, .gone, .gone, .gone, .gone, .gone, .gone, .gone, .gone, .gone, .gone, .gone, .gone, .gone, .gone, .gone, .gone, .gone, .gone, .gone, .quiet (.bool false), .quiet (.bool false)] H2 ?ho3 ?he3 (hL := ?hL3)
 case hL3 => exact trivial
 case ho3 => exact ag (ag (bC 0 Tryz.isAgg71 (ag (bN 1 (ac (fun w' h => ⟨87, #[N x], zL rfl call87 rfl (mpn rfl) rfl, CX.out w' (h.two 2 3 rfl rfl (by decide))⟩) (ar (ag (ag (bC 0 Tryz.isAgg71 (ag (bN 1 (ac (fun w' h => ⟨87, #[N y], zL rfl call87 rfl (mpn rfl) rfl, CY.out w' (h.two 2 3 rfl rfl (by decide))⟩) (ag (ar (ak (fun γ => rfl) (ak (fun γ => rfl) (ak (fun γ => rfl) (ak (fun γ => rfl) (ak (fun γ => rfl) (ak (fun γ => rfl) (ak (fun γ => rfl) (ak (fun γ => rfl) (ak (fun γ => rfl) (ak (fun γ => rfl) (ak (fun γ => rfl) (ak (fun γ => rfl) (ak (fun γ => rfl) (ak (fun γ => rfl) (ak (fun γ => rfl) (ak (fun γ => rfl) (ak (fun γ => rfl) (ak (fun γ => rfl) (ak (fun γ => rfl) (ak (fun γ => rfl) (ak (fun γ => rfl) (ak (fun γ => rfl) (ak (fun γ => rfl) (ak (fun γ => rfl) (ak (fun γ => rfl) (ak (fun γ => rfl) (ak (fun γ => rfl) (ak (fun γ => rfl) (ak (fun γ => rfl) (ag (ar trivial)))))))))))))))))))))))))))))))))))))))))))))
 intro _ w3 H3
 clear H2
 refine rN (wp_ret ?_)
 repeat (first | refine zM ?_ | refine zI ?_)
 refine bodyPost_ret (v := .bool false) (by simp [results, Tryz.results48, go_sem, *]) rfl ?_
 exact ⟨rfl, H3.out.2⟩
set_option maxHeartbeats 4000000 in
theorem checkB_1 {α : Type} {en : α → Nat} {fa fs fm : α → α → α} {fi : α → α} {z u b : α} {g : Nat} {tn : Value} (C : Fd1 g en fa fs fm fi z) (x y : α) (be : Bool) (cx : ∀ w, Mm w [(g, yB pB), (0, dtab)] → Calls Tryz.prog 87 #[N (en x)] w (Rt w (.bool true))) (cy : ∀ w, Mm w [(g, yB pB), (0, dtab)] → Calls Tryz.prog 87 #[N (en y)] w (Rt w (.bool true))) (he : ∀ w, (Op.equalIn 10000 24 (N (en (fm y y))) (N (en (fa (fm x (fm x x)) b)))).run Tryz.prog w = .ok be w) (w : World) (hm : Mm w [(g, yB pB), (0, dtab)]) :
  Calls Tryz.prog 48 #[.agg (G1 g tn (en u) (en b)).toArray, .agg (zU (en x) (en y) false).toArray] w (Rt w (.bool be)) := by
 have H0 : Hid (_ ∧ _) := ⟨hm, Below.refl w.heap.size w⟩
 clear hm
 have CX : Hid _ := cx
 clear cx
 have CY : Hid _ := cy
 clear cy
 have HE : Hid _ := he
 clear he
 go_enter Tryz.func48, Tryz.ntmps48
 refine wp_seq ?_
 refine zC 3 [.made (G1 g tn (en u) (en b)) 81, .made (zU (en x) (en y) false) 84, .quiet (.bool false)] (sB H0) ?ho1 ?he1
 case ho1 => exact am (zW rfl rfl) (am (zW rfl rfl) (ar trivial))
 intro γ w1 l hM hl
 have H1 : Hid (Mm w1 ([(γ 0, G1 g tn (en u) (en b)), (γ 1, zU (en x) (en y) false)] ++ _) ∧ _) := wB H0 hM hl [0, 1]
 have o1_0 := vB H0 hM hl 0
 have o1_1 := vB H0 hM hl 1
 clear hM hl l
 generalize γ 0 = γ1_0 at H1 o1_0 ⊢
 generalize γ 1 = γ1_1 at H1 o1_1 ⊢
 clear γ
 refine rN (wp_seq (wp_seq ?_))
 refine zB 2 [.quiet (PT γ1_1 12), .quiet (.bool false)] H1 ?ho2 ?he2
 case ho2 => exact ag (bC 1 Tryz.isAgg4 trivial)
 intro _ w2 H2
 clear H1
 refine rN (wp_cond_false rfl ?_)
 refine wp_skip (zA (wp_seq ?_))
 refine zP 46 [.quiet (PT γ1_0 0), .quiet (PT γ1_0 4), .quiet (.func (.func 87) #[] #[]), .quiet (PT γ1_1 0), .quiet (N (en x)), .call (.bool true), .quiet (.bool true), .quiet (PT γ1_0 0), .quiet (PT γ1_0 4), .quiet (.func (.func 87) #[] #[]), .quiet (PT γ1_1 6), .quiet (N (en y)), .call (.bool true), .quiet (.bool true), .quiet (.bool true), .quiet (PT γ1_0 0), .quiet (PT γ1_0 2), .quiet (.func (.func 85) #[PT g 0] #[]), .quiet (PT γ1_1 6), .quiet (N (en y)), .quiet (PT γ1_1 6), .quiet (N (en y)), .call (N (en (fm y y))), .quiet (PT γ1_0 0), .quiet (PT γ1_0 0), .quiet (.func (.func 83) #[PT g 0] #[]), .quiet (PT γ1_0 0), .quiet (PT γ1_0 2), .quiet (.func (.func 85) #[PT g 0] #[]), .quiet (PT γ1_1 0), .quiet (N (en x)), .quiet (PT γ1_0 0), .quiet (PT γ1_0 2), .quiet (.func (.func 85) #[PT g 0] #[]), .quiet (PT γ1_1 0), .quiet (N (en x)), .quiet (PT γ1_1 0), .quiet (N (en x)), .call (N (en (fm x x))), .call (N (en (fm x (fm x x)))), .quiet (PT γ1_0 11), .quiet (N (en b)), .call (N (en (fa (fm x (fm x x)) b))), .quiet (.bool be), .quiet (.bool be), .quiet (.bool be)] H2 ?ho3 ?he3 (hL := ?hL3)
 case hL3 => exact trivial
 case ho3 => exact ag (ag (bC 0 Tryz.isAgg71 (ag (bN 1 (ac (fun w' h => ⟨87, #[N (en x)], zL rfl call87 rfl (mpn rfl) rfl, CX.out w' (h.two 2 3 rfl rfl (by decide))⟩) (ar (ag (ag (bC 0 Tryz.isAgg71 (ag (bN 1 (ac (fun w' h => ⟨87, #[N (en y)], zL rfl call87 rfl (mpn rfl) rfl, CY.out w' (h.two 2 3 rfl rfl (by decide))⟩) (ag (ar (ag (ag (bC 0 Tryz.isAgg75 (ag (bN 1 (ag (bN 1 (ac (fun w' h => ⟨85, #[PT g 0, N (en y), N (en y)], zL rfl call85 rfl (mpn rfl) rfl, C.cm _ _ w' (h.two 2 3 rfl rfl (by decide))⟩) (ag (ag (bC 0 Tryz.isAgg75 (ag (ag (bC 0 Tryz.isAgg75 (ag (bN 1 (ag (ag (bC 0 Tryz.isAgg75 (ag (bN 1 (ag (bN 1 (ac (fun w' h => ⟨85, #[PT g 0, N (en x), N (en x)], zL rfl call85 rfl (mpn rfl) rfl, C.cm _ _ w' (h.two 2 3 rfl rfl (by decide))⟩) (ac (fun w' h => ⟨85, #[PT g 0, N (en x), N (en (fm x x))], zL rfl call85 rfl (mpn rfl) rfl, C.cm _ _ w' (h.two 2 3 rfl rfl (by decide))⟩) (ag (bN 0 (ac (fun w' h => ⟨83, #[PT g 0, N (en (fm x (fm x x))), N (en b)], zL rfl call83 rfl (mpn rfl) rfl, C.ca _ _ w' (h.two 2 3 rfl rfl (by decide))⟩) (ak (fun γ => ⟨rfl, fun w' _ => exec_eq6 HE.out rfl rfl rfl⟩) (ag (ar trivial)))))))))))))))))))))))))))))))))))))))))))))
 intro _ w3 H3
 clear H2
 refine rN (wp_ret ?_)
 repeat (first | refine zM ?_ | refine zI ?_)
 refine bodyPost_ret (v := .bool be) (by simp [results, Tryz.results48, go_sem, *]) rfl ?_
 exact ⟨rfl, H3.out.2⟩
theorem joinY_1 {α : Type} {en : α → Nat} {fa fs fm : α → α → α} {fi : α → α} {z u b : α} {g : Nat} {tn : Value} (_C : Fd1 g en fa fs fm fi z) (x y v s : Nat) (zb zc zr : Bool) (a1 a2 a3 b1 b2 b3 t1 t2 t3 : α) (r k : Nat) (ck : ∀ w, Mm w [(g, yB pB), (0, dtab)] → Calls Tryz.prog 48 #[.agg (G1 g tn (en u) (en b)).toArray, .agg (zU x y zb).toArray] w (Rt w (.bool true))) (cl : ∀ w, Mm w [(g, yB pB), (0, dtab)] → Calls Tryz.prog 48 #[.agg (G1 g tn (en u) (en b)).toArray, .agg (zU v s zc).toArray] w (Rt w (.bool true))) (cp : ∀ w, Mm w [(g, yB pB), (0, dtab)] → Calls Tryz.prog 89 #[.agg (G1 g tn (en u) (en b)).toArray, .agg (zU x y zb).toArray] w (Rt w (V [en a1, en a2, en a3]))) (cq : ∀ w, Mm w [(g, yB pB), (0, dtab)] → Calls Tryz.prog 89 #[.agg (G1 g tn (en u) (en b)).toArray, .agg (zU v s zc).toArray] w (Rt w (V [en b1, en b2, en b3]))) (ct : ∀ w, Mm w [(g, yB pB), (0, dtab)] → Calls Tryz.prog 94 #[.agg (G1 g tn (en u) (en b)).toArray, V [en a1, en a2, en a3], V [en b1, en b2, en b3]] w (Rt w (V [en t1, en t2, en t3]))) (cw : ∀ w, Mm w [(g, yB pB), (0, dtab)] → Calls Tryz.prog 93 #[.agg (G1 g tn (en u) (en b)).toArray, V [en t1, en t2, en t3]] w (Rt w (.agg (zU r k zr).toArray))) (w : World) (hm : Mm w [(g, yB pB), (0, dtab)]) :
  Calls Tryz.prog 53 #[.agg (G1 g tn (en u) (en b)).toArray, .agg (zU x y zb).toArray, .agg (zU v s zc).toArray] w (Rt w (.tuple #[.agg (zU r k zr).toArray, .int .i64 0])) := by
 have H0 : Hid (_ ∧ _) := ⟨hm, Below.refl w.heap.size w⟩
 clear hm
 have CK : Hid _ := ck
 clear ck
 have CL : Hid _ := cl
 clear cl
 have CP : Hid _ := cp
 clear cp
 have CQ : Hid _ := cq
 clear cq
 have CT : Hid _ := ct
 clear ct
 have CW : Hid _ := cw
 clear cw
 go_enter Tryz.func53, Tryz.ntmps53
 refine wp_seq ?_
 refine zC 5 [.made (G1 g tn (en u) (en b)) 81, .made (zU x y zb) 84, .made (zU v s zc) 84, .made (zU 0 0 false) 84, .quiet (.int .i64 0)] (sB H0) ?ho1 ?he1
 case ho1 => exact am (zW rfl rfl) (am (zW rfl rfl) (am (zW rfl rfl) (am (ex_madePN rfl) (ar trivial))))
 intro γ w1 l hM hl
 have H1 : Hid (Mm w1 ([(γ 0, G1 g tn (en u) (en b)), (γ 1, zU x y zb), (γ 2, zU v s zc), (γ 3, zU 0 0 false)] ++ _) ∧ _) := wB H0 hM hl [0, 1, 2, 3]
 have o1_0 := vB H0 hM hl 0
 have o1_1 := vB H0 hM hl 1
 have o1_2 := vB H0 hM hl 2
 have o1_3 := vB H0 hM hl 3
 clear hM hl l
 generalize γ 0 = γ1_0 at H1 o1_0 ⊢
 generalize γ 1 = γ1_1 at H1 o1_1 ⊢
 generalize γ 2 = γ1_2 at H1 o1_2 ⊢
 generalize γ 3 = γ1_3 at H1 o1_3 ⊢
 clear γ
 refine rN (wp_seq (wp_seq ?_))
 refine zB 10 [.quiet (.agg (G1 g tn (en u) (en b)).toArray), .quiet (.agg (zU x y zb).toArray), .call (.bool true), .quiet (.bool false), .quiet (.bool false), .quiet (.agg (G1 g tn (en u) (en b)).toArray), .quiet (.agg (zU v s zc).toArray), .call (.bool true), .quiet (.bool false), .quiet (.bool false)] H1 ?ho2 ?he2
 case ho2 => exact bT 0 Tryz.isAgg81 Tryz.sizeOf81 (bT 1 Tryz.isAgg84 Tryz.sizeOf84 (ac (fun w' h => eC call48 (CK.out w' (h.two 4 5 rfl rfl (by decide)))) (ag (ar (bT 0 Tryz.isAgg81 Tryz.sizeOf81 (bT 2 Tryz.isAgg84 Tryz.sizeOf84 (ac (fun w' h => eC call48 (CL.out w' (h.two 4 5 rfl rfl (by decide)))) (ag (ag trivial)))))))))
 intro _ w2 H2
 clear H1
 refine rN (wp_cond_false rfl ?_)
 refine wp_skip (zA (wp_seq ?_))
 refine zP 10 [.quiet (.agg (G1 g tn (en u) (en b)).toArray), .quiet (.agg (G1 g tn (en u) (en b)).toArray), .quiet (.agg (G1 g tn (en u) (en b)).toArray), .quiet (.agg (zU x y zb).toArray), .call (V [en a1, en a2, en a3]), .quiet (.agg (G1 g tn (en u) (en b)).toArray), .quiet (.agg (zU v s zc).toArray), .call (V [en b1, en b2, en b3]), .call (V [en t1, en t2, en t3]), .call (.agg (zU r k zr).toArray)] H2 ?ho3 ?he3
 case ho3 => exact bT 0 Tryz.isAgg81 Tryz.sizeOf81 (bT 0 Tryz.isAgg81 Tryz.sizeOf81 (bT 0 Tryz.isAgg81 Tryz.sizeOf81 (bT 1 Tryz.isAgg84 Tryz.sizeOf84 (ac (fun w' h => eC call89 (CP.out w' (h.two 4 5 rfl rfl (by decide)))) (bT 0 Tryz.isAgg81 Tryz.sizeOf81 (bT 2 Tryz.isAgg84 Tryz.sizeOf84 (ac (fun w' h => eC call89 (CQ.out w' (h.two 4 5 rfl rfl (by decide)))) (ac (fun w' h => eC call94 (CT.out w' (h.two 4 5 rfl rfl (by decide)))) (ac (fun w' h => eC call93 (CW.out w' (h.two 4 5 rfl rfl (by decide)))) trivial)))))))))
 intro _ w3 H3
 clear H2
 refine zF (l := [10, 11]) rfl ?_
 refine sG rfl (fun h => ex_storeT (vs := zU r k zr) h 3 rfl rfl rfl rfl Tryz.sizeOf84 rfl (Nat.le_of_ble_eq_true rfl)) 3 [_, _, _, (_, zU r k zr), _, _] H3 o1_3 fun w4 H4 => ?_
 clear H3
 refine zG (d := 7) rfl rfl rfl rfl ?_
 simp only [Act.put, sa, sz, ss]
 refine zE (zA (wp_ret ?_))
 repeat (first | refine zM ?_ | refine zI ?_)
 have hf0 := var_T H4.out.1 3 rfl Tryz.isAgg84 Tryz.sizeOf84 rfl
 refine bodyPost_ret (v := .tuple #[.agg (zU r k zr).toArray, .int .i64 0]) (by simp [results, Tryz.results53, asAddr, Act.eval, hf0]) rfl ?_
 exact ⟨rfl, H4.out.2⟩
theorem zero_2 {α : Type} {e0 e1 : α → Nat} {fa fs fm : α → α → α} {fi : α → α} {z u b : α} {tn : Value} (_C : Fd2 e0 e1 fa fs fm fi z) (w : World) (hm : Mm w [(0, dtab)]) :
  Calls Tryz.prog 119 #[.agg (G2 tn (e0 u) (e1 u) (e0 b) (e1 b)).toArray] w (Rt w (V [0, 0, e0 u, e1 u, 0, 0])) := by
 have H0 : Hid (_ ∧ _) := ⟨hm, Below.refl w.heap.size w⟩
 clear hm
 go_enter Tryz.func119, Tryz.ntmps119
 refine wp_seq ?_
 refine zC 2 [.made (G2 tn (e0 u) (e1 u) (e0 b) (e1 b)) 101, .made (cel [0, 0, 0, 0, 0, 0]) 139] (sB H0) ?ho1 ?he1
 case ho1 => exact am (zW rfl rfl) (am (ex_madeTE rfl) trivial)
 intro γ w1 l hM hl
 have H1 : Hid (Mm w1 ([(γ 0, G2 tn (e0 u) (e1 u) (e0 b) (e1 b)), (γ 1, cel [0, 0, 0, 0, 0, 0])] ++ _) ∧ _) := wB H0 hM hl [0, 1]
 have o1_0 := vB H0 hM hl 0
 have o1_1 := vB H0 hM hl 1
 clear hM hl l
 generalize γ 0 = γ1_0 at H1 o1_0 ⊢
 generalize γ 1 = γ1_1 at H1 o1_1 ⊢
 clear γ
 refine rN (wp_seq ?_)
 refine zB 4 [.quiet (PT γ1_0 0), .quiet (PT γ1_0 5), .quiet (V [e0 u, e1 u]), .quiet (V [0, 0, e0 u, e1 u, 0, 0])] H1 ?ho2 ?he2
 case ho2 => exact ag (ag (bT 0 Tryz.isAgg40 Tryz.sizeOf40 (ak (fun γ => ⟨rfl, fun w' _ => ex_buildTEy rfl rfl⟩) trivial)))
 intro _ w2 H2
 clear H1
 refine zF (l := [4]) rfl ?_
 refine sF 1 [0, 0, e0 u, e1 u, 0, 0] [_, _, _] H2 o1_1 Tryz.sizeOf139 fun w3 H3 => ?_
 clear H2
 refine zE (zA (wp_ret ?_))
 repeat (first | refine zM ?_ | refine zI ?_)
 have hf0 := cel_var (k := 6) H3.out.1 1 rfl Tryz.isAgg139 Tryz.sizeOf139 rfl
 refine bodyPost_ret (v := V [0, 0, e0 u, e1 u, 0, 0]) (by simp [results, Tryz.results119, asAddr, hf0]) rfl ?_
 exact ⟨rfl, H3.out.2⟩
theorem liftT_2 {α : Type} {e0 e1 : α → Nat} {fa fs fm : α → α → α} {fi : α → α} {z u b : α} {tn : Value} (C : Fd2 e0 e1 fa fs fm fi z) (x0 x1 y0 y1 : Nat) (w : World) (hm : Mm w [(0, dtab)]) :
  Calls Tryz.prog 110 #[.agg (G2 tn (e0 u) (e1 u) (e0 b) (e1 b)).toArray, .agg (zV x0 x1 y0 y1 true).toArray] w (Rt w (V [0, 0, e0 u, e1 u, 0, 0])) := by
 have H0 : Hid (_ ∧ _) := ⟨hm, Below.refl w.heap.size w⟩
 clear hm
 go_enter Tryz.func110, Tryz.ntmps110
 refine wp_seq ?_
 refine zC 3 [.made (G2 tn (e0 u) (e1 u) (e0 b) (e1 b)) 101, .made (zV x0 x1 y0 y1 true) 104, .made (cel [0, 0, 0, 0, 0, 0]) 139] (sB H0) ?ho1 ?he1
 case ho1 => exact am (zW rfl rfl) (am (zW rfl rfl) (am (ex_madeTE rfl) trivial))
 intro γ w1 l hM hl
 have H1 : Hid (Mm w1 ([(γ 0, G2 tn (e0 u) (e1 u) (e0 b) (e1 b)), (γ 1, zV x0 x1 y0 y1 true), (γ 2, cel [0, 0, 0, 0, 0, 0])] ++ _) ∧ _) := wB H0 hM hl [0, 1, 2]
 have o1_0 := vB H0 hM hl 0
 have o1_1 := vB H0 hM hl 1
 have o1_2 := vB H0 hM hl 2
 clear hM hl l
 generalize γ 0 = γ1_0 at H1 o1_0 ⊢
 generalize γ 1 = γ1_1 at H1 o1_1 ⊢
 generalize γ 2 = γ1_2 at H1 o1_2 ⊢
 clear γ
 refine rN (wp_seq (wp_seq ?_))
 refine zB 2 [.quiet (PT γ1_1 24), .quiet (.bool true)] H1 ?ho2 ?he2
 case ho2 => exact ag (bC 1 Tryz.isAgg4 trivial)
 intro _ w2 H2
 clear H1
 refine rN (wp_cond_true rfl (wp_seq ?_))
 refine zB 2 [.quiet (.agg (G2 tn (e0 u) (e1 u) (e0 b) (e1 b)).toArray), .call (V [0, 0, e0 u, e1 u, 0, 0])] H2 ?ho3 ?he3
 case ho3 => exact bT 0 Tryz.isAgg101 Tryz.sizeOf101 (ac (fun w' h => eC call119 (zero_2 C w' (h.one 3 rfl))) trivial)
 intro _ w3 H3
 clear H2
 refine zF (l := [2]) rfl ?_
 refine sF 2 [0, 0, e0 u, e1 u, 0, 0] [_, _, _, _] H3 o1_2 Tryz.sizeOf139 fun w4 H4 => ?_
 clear H3
 refine zE (zA (wp_ret ?_))
 repeat (first | refine zM ?_ | refine zI ?_)
 have hf0 := cel_var (k := 6) H4.out.1 2 rfl Tryz.isAgg139 Tryz.sizeOf139 rfl
 refine bodyPost_ret (v := V [0, 0, e0 u, e1 u, 0, 0]) (by simp [results, Tryz.results110, asAddr, hf0]) rfl ?_
 exact ⟨rfl, H4.out.2⟩
theorem liftF_2 {α : Type} {e0 e1 : α → Nat} {fa fs fm : α → α → α} {fi : α → α} {z u b : α} {tn : Value} (_C : Fd2 e0 e1 fa fs fm fi z) (x0 x1 y0 y1 : Nat) (w : World) (hm : Mm w [(0, dtab)]) :
  Calls Tryz.prog 110 #[.agg (G2 tn (e0 u) (e1 u) (e0 b) (e1 b)).toArray, .agg (zV x0 x1 y0 y1 false).toArray] w (Rt w (V [x0, x1, y0, y1, e0 u, e1 u])) := by
 have H0 : Hid (_ ∧ _) := ⟨hm, Below.refl w.heap.size w⟩
 clear hm
 go_enter Tryz.func110, Tryz.ntmps110
 refine wp_seq ?_
 refine zC 3 [.made (G2 tn (e0 u) (e1 u) (e0 b) (e1 b)) 101, .made (zV x0 x1 y0 y1 false) 104, .made (cel [0, 0, 0, 0, 0, 0]) 139] (sB H0) ?ho1 ?he1
 case ho1 => exact am (zW rfl rfl) (am (zW rfl rfl) (am (ex_madeTE rfl) trivial))
 intro γ w1 l hM hl
 have H1 : Hid (Mm w1 ([(γ 0, G2 tn (e0 u) (e1 u) (e0 b) (e1 b)), (γ 1, zV x0 x1 y0 y1 false), (γ 2, cel [0, 0, 0, 0, 0, 0])] ++ _) ∧ _) := wB H0 hM hl [0, 1, 2]
 have o1_0 := vB H0 hM hl 0
 have o1_1 := vB H0 hM hl 1
 have o1_2 := vB H0 hM hl 2
 clear hM hl l
 generalize γ 0 = γ1_0 at H1 o1_0 ⊢
 generalize γ 1 = γ1_1 at H1 o1_1 ⊢
 generalize γ 2 = γ1_2 at H1 o1_2 ⊢
 clear γ
 refine rN (wp_seq (wp_seq ?_))
 refine zB 2 [.quiet (PT γ1_1 24), .quiet (.bool false)] H1 ?ho2 ?he2
 case ho2 => exact ag (bC 1 Tryz.isAgg4 trivial)
 intro _ w2 H2
 clear H1
 refine rN (wp_cond_false rfl ?_)
 refine wp_skip (zA (wp_seq ?_))
 refine zB 8 [.quiet (PT γ1_1 0), .quiet (V [x0, x1]), .quiet (PT γ1_1 12), .quiet (V [y0, y1]), .quiet (PT γ1_0 0), .quiet (PT γ1_0 5), .quiet (V [e0 u, e1 u]), .quiet (V [x0, x1, y0, y1, e0 u, e1 u])] H2 ?ho3 ?he3
 case ho3 => exact ag (bT 1 Tryz.isAgg40 Tryz.sizeOf40 (ag (bT 1 Tryz.isAgg40 Tryz.sizeOf40 (ag (ag (bT 0 Tryz.isAgg40 Tryz.sizeOf40 (ak (fun γ => ⟨rfl, fun w' _ => ex_buildTE rfl rfl rfl rfl⟩) trivial)))))))
 intro _ w3 H3
 clear H2
 refine zF (l := [8]) rfl ?_
 refine sF 2 [x0, x1, y0, y1, e0 u, e1 u] [_, _, _, _] H3 o1_2 Tryz.sizeOf139 fun w4 H4 => ?_
 clear H3
 refine zE (zA (wp_ret ?_))
 repeat (first | refine zM ?_ | refine zI ?_)
 have hf0 := cel_var (k := 6) H4.out.1 2 rfl Tryz.isAgg139 Tryz.sizeOf139 rfl
 refine bodyPost_ret (v := V [x0, x1, y0, y1, e0 u, e1 u]) (by simp [results, Tryz.results110, asAddr, hf0]) rfl ?_
 exact ⟨rfl, H4.out.2⟩
theorem isZero_2 (x0 x1 y0 y1 t0 t1 : Nat) (bz : Bool) (hz : ∀ w, (Op.equalIn 10000 40 (V [t0, t1]) (V [0, 0])).run Tryz.prog w = .ok bz w) (w : World) :
  Calls Tryz.prog 150 #[V [x0, x1, y0, y1, t0, t1]] w (Rt w (.bool bz)) := by
 have H0 : Hid (_ ∧ _) := ⟨Mm.nil w, Below.refl w.heap.size w⟩
 have HZ : Hid _ := hz
 clear hz
 go_enter Tryz.func150, Tryz.ntmps150
 refine wp_seq ?_
 refine zC 2 [.made (cel [x0, x1, y0, y1, t0, t1]) 139, .quiet (.bool false)] (sB H0) ?ho1 ?he1
 case ho1 => exact am (ex_boxA rfl rfl) (ar trivial)
 intro γ w1 l hM hl
 have H1 : Hid (Mm w1 [(γ 0, cel [x0, x1, y0, y1, t0, t1])] ∧ _) := wB H0 hM hl [0]
 have o1_0 := vB H0 hM hl 0
 clear hM hl l
 generalize γ 0 = γ1_0 at H1 o1_0 ⊢
 clear γ
 refine rN (wp_seq ?_)
 refine zC 1 [.made (cel [0, 0]) 40] (sB H1) ?ho2 ?he2
 case ho2 => exact am (ex_madeE2 rfl) trivial
 intro γ w2 l hM hl
 have H2 : Hid (Mm w2 ([(γ 0, cel [0, 0])] ++ _) ∧ _) := wB H1 hM hl [0]
 have o2_0 := vB H1 hM hl 0
 clear hM hl l H1
 generalize γ 0 = γ2_0 at H2 o2_0 ⊢
 clear γ
 refine rN (wp_seq ?_)
 refine zB 5 [.quiet (PT γ1_0 24), .quiet (V [t0, t1]), .quiet (V [0, 0]), .quiet (.bool bz), .quiet (.bool bz)] H2 ?ho3 ?he3
 case ho3 => exact ag (bA 4 2 1 Tryz.isAgg40 Tryz.sizeOf40 (bA 0 2 0 Tryz.isAgg40 Tryz.sizeOf40 (ak (fun γ => ⟨rfl, fun w' _ => exec_eqT40 HZ.out rfl rfl rfl⟩) (ar trivial))))
 intro _ w3 H3
 clear H2
 refine rN (wp_ret ?_)
 repeat (first | refine zM ?_ | refine zI ?_)
 refine bodyPost_ret (v := .bool bz) (by simp [results, Tryz.results150, go_sem, *]) rfl ?_
 exact ⟨rfl, H3.out.2⟩
theorem lowerT_2 {α : Type} {e0 e1 : α → Nat} {fa fs fm : α → α → α} {fi : α → α} {z u b : α} {tn : Value} (_C : Fd2 e0 e1 fa fs fm fi z) (x0 x1 y0 y1 t0 t1 : Nat) (hz : ∀ w, (Op.equalIn 10000 40 (V [t0, t1]) (V [0, 0])).run Tryz.prog w = .ok true w) (w : World) (hm : Mm w [(0, dtab)]) :
  Calls Tryz.prog 113 #[.agg (G2 tn (e0 u) (e1 u) (e0 b) (e1 b)).toArray, V [x0, x1, y0, y1, t0, t1]] w (Rt w (.agg (zV 0 0 0 0 true).toArray)) := by
 have H0 : Hid (_ ∧ _) := ⟨hm, Below.refl w.heap.size w⟩
 clear hm
 have HZ : Hid _ := hz
 clear hz
 go_enter Tryz.func113, Tryz.ntmps113
 refine wp_seq ?_
 refine zC 3 [.made (G2 tn (e0 u) (e1 u) (e0 b) (e1 b)) 101, .made (cel [x0, x1, y0, y1, t0, t1]) 139, .made (zV 0 0 0 0 false) 104] (sB H0) ?ho1 ?he1
 case ho1 => exact am (zW rfl rfl) (am (ex_boxA rfl rfl) (am (ex_madePE rfl) trivial))
 intro γ w1 l hM hl
 have H1 : Hid (Mm w1 ([(γ 0, G2 tn (e0 u) (e1 u) (e0 b) (e1 b)), (γ 1, cel [x0, x1, y0, y1, t0, t1]), (γ 2, zV 0 0 0 0 false)] ++ _) ∧ _) := wB H0 hM hl [0, 1, 2]
 have o1_0 := vB H0 hM hl 0
 have o1_1 := vB H0 hM hl 1
 have o1_2 := vB H0 hM hl 2
 clear hM hl l
 generalize γ 0 = γ1_0 at H1 o1_0 ⊢
 generalize γ 1 = γ1_1 at H1 o1_1 ⊢
 generalize γ 2 = γ1_2 at H1 o1_2 ⊢
 clear γ
 refine rN (wp_seq (wp_seq ?_))
 refine zB 2 [.quiet (V [x0, x1, y0, y1, t0, t1]), .call (.bool true)] H1 ?ho2 ?he2
 case ho2 => exact bA 0 6 1 Tryz.isAgg139 Tryz.sizeOf139 (ac (fun w' h => eC call150 (isZero_2 _ _ _ _ _ _ true HZ.out w')) trivial)
 intro _ w2 H2
 clear H1
 refine rN (wp_cond_true rfl (wp_seq ?_))
 refine zB 1 [.quiet (.agg (zV 0 0 0 0 true).toArray)] H2 ?ho3 ?he3
 case ho3 => exact ak (fun γ => ⟨rfl, fun w' _ => ex_buildPEt rfl rfl⟩) trivial
 intro _ w3 H3
 clear H2
 refine zF (l := [1]) rfl ?_
 refine sG rfl (fun h => ex_storeT (vs := zV 0 0 0 0 true) h 2 rfl rfl rfl rfl Tryz.sizeOf104 rfl (Nat.le_of_ble_eq_true rfl)) 2 [_, _, (_, zV 0 0 0 0 true), _] H3 o1_2 fun w4 H4 => ?_
 clear H3
 refine zE (zA (wp_ret ?_))
 repeat (first | refine zM ?_ | refine zI ?_)
 have hf0 := var_T H4.out.1 2 rfl Tryz.isAgg104 Tryz.sizeOf104 rfl
 refine bodyPost_ret (v := .agg (zV 0 0 0 0 true).toArray) (by simp [results, Tryz.results113, asAddr, hf0]) rfl ?_
 exact ⟨rfl, H4.out.2⟩
theorem lowerF_2 {α : Type} {e0 e1 : α → Nat} {fa fs fm : α → α → α} {fi : α → α} {z u b : α} {tn : Value} (C : Fd2 e0 e1 fa fs fm fi z) (x y t : α) (hz : ∀ w, (Op.equalIn 10000 40 (V [e0 t, e1 t]) (V [0, 0])).run Tryz.prog w = .ok false w) (ht : t ≠ z) (w : World) (hm : Mm w [(0, dtab)]) :
  Calls Tryz.prog 113 #[.agg (G2 tn (e0 u) (e1 u) (e0 b) (e1 b)).toArray, V [e0 x, e1 x, e0 y, e1 y, e0 t, e1 t]] w (Rt w (.agg (zV (e0 (fm x (fi t))) (e1 (fm x (fi t))) (e0 (fm y (fi t))) (e1 (fm y (fi t))) false).toArray)) := by
 have H0 : Hid (_ ∧ _) := ⟨hm, Below.refl w.heap.size w⟩
 clear hm
 have HZ : Hid _ := hz
 clear hz
 have HT : Hid _ := ht
 clear ht
 go_enter Tryz.func113, Tryz.ntmps113
 refine wp_seq ?_
 refine zC 3 [.made (G2 tn (e0 u) (e1 u) (e0 b) (e1 b)) 101, .made (cel [e0 x, e1 x, e0 y, e1 y, e0 t, e1 t]) 139, .made (zV 0 0 0 0 false) 104] (sB H0) ?ho1 ?he1
 case ho1 => exact am (zW rfl rfl) (am (ex_boxA rfl rfl) (am (ex_madePE rfl) trivial))
 intro γ w1 l hM hl
 have H1 : Hid (Mm w1 ([(γ 0, G2 tn (e0 u) (e1 u) (e0 b) (e1 b)), (γ 1, cel [e0 x, e1 x, e0 y, e1 y, e0 t, e1 t]), (γ 2, zV 0 0 0 0 false)] ++ _) ∧ _) := wB H0 hM hl [0, 1, 2]
 have o1_0 := vB H0 hM hl 0
 have o1_1 := vB H0 hM hl 1
 have o1_2 := vB H0 hM hl 2
 clear hM hl l
 generalize γ 0 = γ1_0 at H1 o1_0 ⊢
 generalize γ 1 = γ1_1 at H1 o1_1 ⊢
 generalize γ 2 = γ1_2 at H1 o1_2 ⊢
 clear γ
 refine rN (wp_seq (wp_seq ?_))
 refine zB 2 [.quiet (V [e0 x, e1 x, e0 y, e1 y, e0 t, e1 t]), .call (.bool false)] H1 ?ho2 ?he2
 case ho2 => exact bA 0 6 1 Tryz.isAgg139 Tryz.sizeOf139 (ac (fun w' h => eC call150 (isZero_2 _ _ _ _ _ _ false HZ.out w')) trivial)
 intro _ w2 H2
 clear H1
 refine rN (wp_cond_false rfl ?_)
 refine wp_skip (zA (wp_seq ?_))
 refine zC 12 [.quiet (PT γ1_0 0), .quiet (PT γ1_0 3), .quiet (.func (.func 106) #[] #[]), .quiet (PT γ1_1 24), .quiet (V [e0 t, e1 t]), .call (.tuple #[V [e0 (fi t), e1 (fi t)], .int .i64 0]), .quiet (.tuple #[V [e0 (fi t), e1 (fi t)], .int .i64 0]), .quiet (V [e0 (fi t), e1 (fi t)]), .quiet (.int .i64 0), .made (cel [0, 0]) 40, .laid 9 (cel [0, 0]) (cel [e0 (fi t), e1 (fi t)]), .quiet (.int .i64 0)] (sB H2) ?ho3 ?he3 (hL := ?hL3)
 case hL3 => exact ⟨⟨_, rfl⟩, trivial⟩
 case ho3 => exact ag (ag (bC 0 Tryz.isAgg95 (ag (bA 4 2 1 Tryz.isAgg40 Tryz.sizeOf40 (ac (fun w' h => ⟨106, #[V [e0 t, e1 t]], zL rfl call106 rfl (mpn rfl) rfl, C.ci _ w' HT.out (h.one 3 rfl)⟩) (ar (ag (ag (am (ex_madeE2 rfl) (ak (fun γ => ⟨rfl, rfl, rfl, fun w' h => ex_laidA h rfl Tryz.sizeOf40 rfl rfl rfl⟩) (ar trivial)))))))))))
 intro γ w3 l hM hl
 have H3 : Hid (Mm w3 ([(γ 9, cel [e0 (fi t), e1 (fi t)])] ++ _) ∧ _) := wB H2 hM hl [9]
 have o3_9 := vB H2 hM hl 9
 clear hM hl l H2
 generalize γ 9 = γ3_9 at H3 o3_9 ⊢
 clear γ
 refine rN (wp_seq ?_)
 refine zP 15 [.quiet (PT γ1_0 0), .quiet (PT γ1_0 2), .quiet (.func (.func 105) #[] #[]), .quiet (PT γ1_1 0), .quiet (V [e0 x, e1 x]), .quiet (V [e0 (fi t), e1 (fi t)]), .call (V [e0 (fm x (fi t)), e1 (fm x (fi t))]), .quiet (PT γ1_0 0), .quiet (PT γ1_0 2), .quiet (.func (.func 105) #[] #[]), .quiet (PT γ1_1 12), .quiet (V [e0 y, e1 y]), .quiet (V [e0 (fi t), e1 (fi t)]), .call (V [e0 (fm y (fi t)), e1 (fm y (fi t))]), .quiet (.agg (zV (e0 (fm x (fi t))) (e1 (fm x (fi t))) (e0 (fm y (fi t))) (e1 (fm y (fi t))) false).toArray)] H3 ?ho4 ?he4
 case ho4 => exact ag (ag (bC 1 Tryz.isAgg93 (ag (bA 0 2 2 Tryz.isAgg40 Tryz.sizeOf40 (bA 0 2 0 Tryz.isAgg40 Tryz.sizeOf40 (ac (fun w' h => ⟨105, #[V [e0 x, e1 x], V [e0 (fi t), e1 (fi t)]], zL rfl call105 rfl (mpn rfl) rfl, C.cm _ _ w' (h.one 4 rfl)⟩) (ag (ag (bC 1 Tryz.isAgg93 (ag (bA 2 2 2 Tryz.isAgg40 Tryz.sizeOf40 (bA 0 2 0 Tryz.isAgg40 Tryz.sizeOf40 (ac (fun w' h => ⟨105, #[V [e0 y, e1 y], V [e0 (fi t), e1 (fi t)]], zL rfl call105 rfl (mpn rfl) rfl, C.cm _ _ w' (h.one 4 rfl)⟩) (ak (fun γ => ⟨rfl, fun w' _ => ex_buildPExy rfl rfl rfl⟩) trivial))))))))))))))
 intro _ w4 H4
 clear H3
 refine zF (l := [15]) rfl ?_
 refine sG rfl (fun h => ex_storeT (vs := zV (e0 (fm x (fi t))) (e1 (fm x (fi t))) (e0 (fm y (fi t))) (e1 (fm y (fi t))) false) h 3 rfl rfl rfl rfl Tryz.sizeOf104 rfl (Nat.le_of_ble_eq_true rfl)) 3 [_, _, _, (_, zV (e0 (fm x (fi t))) (e1 (fm x (fi t))) (e0 (fm y (fi t))) (e1 (fm y (fi t))) false), _] H4 o1_2 fun w5 H5 => ?_
 clear H4
 refine zE (zA (wp_ret ?_))
 repeat (first | refine zM ?_ | refine zI ?_)
 have hf0 := var_T H5.out.1 3 rfl Tryz.isAgg104 Tryz.sizeOf104 rfl
 refine bodyPost_ret (v := .agg (zV (e0 (fm x (fi t))) (e1 (fm x (fi t))) (e0 (fm y (fi t))) (e1 (fm y (fi t))) false).toArray) (by simp [results, Tryz.results113, asAddr, hf0]) rfl ?_
 exact ⟨rfl, H5.out.2⟩
set_option maxHeartbeats 4000000 in
theorem togetherV_2 {α : Type} {e0 e1 : α → Nat} {fa fs fm : α → α → α} {fi : α → α} {z u b : α} {tn : Value} (C : Fd2 e0 e1 fa fs fm fi z) (x1 y1 z1 x2 y2 z2 : α) (v1 v2 v3 v4 v5 v6 v7 v8 v9 v10 v11 v12 v13 v14 v15 v16 v17 v18 v19 v20 v21 v22 v23 v24 v25 v26 v27 v28 v29 v30 v31 v32 v33 v34 : α) (hv1 : fm x1 x2 = v1) (hv2 : fm y1 y2 = v2) (hv3 : fm z1 z2 = v3) (hv4 : fa x1 y1 = v4) (hv5 : fa x2 y2 = v5) (hv6 : fm v4 v5 = v6) (hv7 : fa v1 v2 = v7) (hv8 : fs v6 v7 = v8) (hv9 : fa y1 z1 = v9) (hv10 : fa y2 z2 = v10) (hv11 : fm v9 v10 = v11) (hv12 : fa v2 v3 = v12) (hv13 : fs v11 v12 = v13) (hv14 : fa x1 z1 = v14) (hv15 : fa x2 z2 = v15) (hv16 : fm v14 v15 = v16) (hv17 : fa v1 v3 = v17) (hv18 : fs v16 v17 = v18) (hv19 : fa (fa v1 v1) v1 = v19) (hv20 : fm b v18 = v20) (hv21 : fa (fa v20 v20) v20 = v21) (hv22 : fm b v3 = v22) (hv23 : fa (fa v22 v22) v22 = v23) (hv24 : fs v2 v23 = v24) (hv25 : fa v2 v23 = v25) (hv26 : fm v24 v8 = v26) (hv27 : fm v13 v21 = v27) (hv28 : fs v26 v27 = v28) (hv29 : fm v24 v25 = v29) (hv30 : fm v19 v21 = v30) (hv31 : fa v29 v30 = v31) (hv32 : fm v25 v13 = v32) (hv33 : fm v19 v8 = v33) (hv34 : fa v32 v33 = v34) (w : World) (hm : Mm w [(0, dtab)]) :
  Calls Tryz.prog 114 #[.agg (G2 tn (e0 u) (e1 u) (e0 b) (e1 b)).toArray, V [e0 x1, e1 x1, e0 y1, e1 y1, e0 z1, e1 z1], V [e0 x2, e1 x2, e0 y2, e1 y2, e0 z2, e1 z2]] w (Rt w (V [e0 v28, e1 v28, e0 v31, e1 v31, e0 v34, e1 v34])) := by
 have H0 : Hid (_ ∧ _) := ⟨hm, Below.refl w.heap.size w⟩
 clear hm
 have HV1 : Hid _ := hv1
 clear hv1
 have HV2 : Hid _ := hv2
 clear hv2
 have HV3 : Hid _ := hv3
 clear hv3
 have HV4 : Hid _ := hv4
 clear hv4
 have HV5 : Hid _ := hv5
 clear hv5
 have HV6 : Hid _ := hv6
 clear hv6
 have HV7 : Hid _ := hv7
 clear hv7
 have HV8 : Hid _ := hv8
 clear hv8
 have HV9 : Hid _ := hv9
 clear hv9
 have HV10 : Hid _ := hv10
 clear hv10
 have HV11 : Hid _ := hv11
 clear hv11
 have HV12 : Hid _ := hv12
 clear hv12
 have HV13 : Hid _ := hv13
 clear hv13
 have HV14 : Hid _ := hv14
 clear hv14
 have HV15 : Hid _ := hv15
 clear hv15
 have HV16 : Hid _ := hv16
 clear hv16
 have HV17 : Hid _ := hv17
 clear hv17
 have HV18 : Hid _ := hv18
 clear hv18
 have HV19 : Hid _ := hv19
 clear hv19
 have HV20 : Hid _ := hv20
 clear hv20
 have HV21 : Hid _ := hv21
 clear hv21
 have HV22 : Hid _ := hv22
 clear hv22
 have HV23 : Hid _ := hv23
 clear hv23
 have HV24 : Hid _ := hv24
 clear hv24
 have HV25 : Hid _ := hv25
 clear hv25
 have HV26 : Hid _ := hv26
 clear hv26
 have HV27 : Hid _ := hv27
 clear hv27
 have HV28 : Hid _ := hv28
 clear hv28
 have HV29 : Hid _ := hv29
 clear hv29
 have HV30 : Hid _ := hv30
 clear hv30
 have HV31 : Hid _ := hv31
 clear hv31
 have HV32 : Hid _ := hv32
 clear hv32
 have HV33 : Hid _ := hv33
 clear hv33
 have HV34 : Hid _ := hv34
 clear hv34
 go_enter Tryz.func114, Tryz.ntmps114
 refine wp_seq ?_
 refine zC 4 [.made (G2 tn (e0 u) (e1 u) (e0 b) (e1 b)) 101, .made (cel [e0 x1, e1 x1, e0 y1, e1 y1, e0 z1, e1 z1]) 139, .made (cel [e0 x2, e1 x2, e0 y2, e1 y2, e0 z2, e1 z2]) 139, .made (cel [0, 0, 0, 0, 0, 0]) 139] (sB H0) ?ho1 ?he1
 case ho1 => exact am (zW rfl rfl) (am (ex_boxA rfl rfl) (am (ex_boxA rfl rfl) (am (ex_madeTE rfl) trivial)))
 intro γ w1 l hM hl
 have H1 : Hid (Mm w1 ([(γ 0, G2 tn (e0 u) (e1 u) (e0 b) (e1 b)), (γ 1, cel [e0 x1, e1 x1, e0 y1, e1 y1, e0 z1, e1 z1]), (γ 2, cel [e0 x2, e1 x2, e0 y2, e1 y2, e0 z2, e1 z2]), (γ 3, cel [0, 0, 0, 0, 0, 0])] ++ _) ∧ _) := wB H0 hM hl [0, 1, 2, 3]
 have o1_0 := vB H0 hM hl 0
 have o1_1 := vB H0 hM hl 1
 have o1_2 := vB H0 hM hl 2
 have o1_3 := vB H0 hM hl 3
 clear hM hl l
 generalize γ 0 = γ1_0 at H1 o1_0 ⊢
 generalize γ 1 = γ1_1 at H1 o1_1 ⊢
 generalize γ 2 = γ1_2 at H1 o1_2 ⊢
 generalize γ 3 = γ1_3 at H1 o1_3 ⊢
 clear γ
 refine rN (wp_seq ?_)
 refine zS 30 [.quiet (PT γ1_0 0), .quiet (PT γ1_0 2), .quiet (.func (.func 105) #[] #[]), .quiet (PT γ1_1 0), .quiet (V [e0 x1, e1 x1]), .quiet (PT γ1_2 0), .quiet (V [e0 x2, e1 x2]), .call (V [e0 v1, e1 v1]), .quiet (PT γ1_0 0), .quiet (PT γ1_0 2), .quiet (.func (.func 105) #[] #[]), .quiet (PT γ1_1 12), .quiet (V [e0 y1, e1 y1]), .quiet (PT γ1_2 12), .quiet (V [e0 y2, e1 y2]), .call (V [e0 v2, e1 v2]), .quiet (PT γ1_0 0), .quiet (PT γ1_0 2), .quiet (.func (.func 105) #[] #[]), .quiet (PT γ1_1 24), .quiet (V [e0 z1, e1 z1]), .quiet (PT γ1_2 24), .quiet (V [e0 z2, e1 z2]), .call (V [e0 v3, e1 v3]), .made (cel [0, 0]) 40, .made (cel [0, 0]) 40, .made (cel [0, 0]) 40, .laid 24 (cel [0, 0]) (cel [e0 v1, e1 v1]), .laid 25 (cel [0, 0]) (cel [e0 v2, e1 v2]), .laid 26 (cel [0, 0]) (cel [e0 v3, e1 v3])] (sB H1) ?ho2 ?he2 (hL := ?hL2)
 case hL2 => exact ⟨⟨_, rfl⟩, ⟨_, rfl⟩, ⟨_, rfl⟩, trivial⟩
 case ho2 => exact ag (ag (bC 0 Tryz.isAgg93 (ag (bA 0 2 1 Tryz.isAgg40 Tryz.sizeOf40 (ag (bA 0 2 2 Tryz.isAgg40 Tryz.sizeOf40 (ac (fun w' h => ⟨105, #[V [e0 x1, e1 x1], V [e0 x2, e1 x2]], zL rfl call105 rfl (mpn rfl) rfl, C.km HV1.out w' (h.one 4 rfl)⟩) (ag (ag (bC 0 Tryz.isAgg93 (ag (bA 2 2 1 Tryz.isAgg40 Tryz.sizeOf40 (ag (bA 2 2 2 Tryz.isAgg40 Tryz.sizeOf40 (ac (fun w' h => ⟨105, #[V [e0 y1, e1 y1], V [e0 y2, e1 y2]], zL rfl call105 rfl (mpn rfl) rfl, C.km HV2.out w' (h.one 4 rfl)⟩) (ag (ag (bC 0 Tryz.isAgg93 (ag (bA 4 2 1 Tryz.isAgg40 Tryz.sizeOf40 (ag (bA 4 2 2 Tryz.isAgg40 Tryz.sizeOf40 (ac (fun w' h => ⟨105, #[V [e0 z1, e1 z1], V [e0 z2, e1 z2]], zL rfl call105 rfl (mpn rfl) rfl, C.km HV3.out w' (h.one 4 rfl)⟩) (am (ex_madeE2 rfl) (am (ex_madeE2 rfl) (am (ex_madeE2 rfl) (ak (fun γ => ⟨rfl, rfl, rfl, fun w' h => ex_laidA h rfl Tryz.sizeOf40 rfl rfl rfl⟩) (ak (fun γ => ⟨rfl, rfl, rfl, fun w' h => ex_laidA h rfl Tryz.sizeOf40 rfl rfl rfl⟩) (ak (fun γ => ⟨rfl, rfl, rfl, fun w' h => ex_laidA h rfl Tryz.sizeOf40 rfl rfl rfl⟩) trivial)))))))))))))))))))))))))))))
 intro γ w2 l hM hl
 have H2 : Hid (Mm w2 ([(γ 24, cel [e0 v1, e1 v1]), (γ 25, cel [e0 v2, e1 v2]), (γ 26, cel [e0 v3, e1 v3])] ++ _) ∧ _) := wB H1 hM hl [24, 25, 26]
 have o2_24 := vB H1 hM hl 24
 have o2_25 := vB H1 hM hl 25
 have o2_26 := vB H1 hM hl 26
 clear hM hl l H1
 generalize γ 24 = γ2_24 at H2 o2_24 ⊢
 generalize γ 25 = γ2_25 at H2 o2_25 ⊢
 generalize γ 26 = γ2_26 at H2 o2_26 ⊢
 clear γ
 refine rN (wp_seq ?_)
 refine zS 32 [.quiet (PT γ1_0 0), .quiet (PT γ1_0 1), .quiet (.func (.func 104) #[] #[]), .quiet (PT γ1_0 0), .quiet (PT γ1_0 2), .quiet (.func (.func 105) #[] #[]), .quiet (PT γ1_0 0), .quiet (PT γ1_0 0), .quiet (.func (.func 103) #[] #[]), .quiet (PT γ1_1 0), .quiet (V [e0 x1, e1 x1]), .quiet (PT γ1_1 12), .quiet (V [e0 y1, e1 y1]), .call (V [e0 v4, e1 v4]), .quiet (PT γ1_0 0), .quiet (PT γ1_0 0), .quiet (.func (.func 103) #[] #[]), .quiet (PT γ1_2 0), .quiet (V [e0 x2, e1 x2]), .quiet (PT γ1_2 12), .quiet (V [e0 y2, e1 y2]), .call (V [e0 v5, e1 v5]), .call (V [e0 v6, e1 v6]), .quiet (PT γ1_0 0), .quiet (PT γ1_0 0), .quiet (.func (.func 103) #[] #[]), .quiet (V [e0 v1, e1 v1]), .quiet (V [e0 v2, e1 v2]), .call (V [e0 v7, e1 v7]), .call (V [e0 v8, e1 v8]), .made (cel [0, 0]) 40, .laid 30 (cel [0, 0]) (cel [e0 v8, e1 v8])] (sB H2) ?ho3 ?he3 (hL := ?hL3)
 case hL3 => exact ⟨⟨_, rfl⟩, trivial⟩
 case ho3 => exact ag (ag (bC 3 Tryz.isAgg93 (ag (ag (bC 3 Tryz.isAgg93 (ag (ag (bC 3 Tryz.isAgg93 (ag (bA 0 2 4 Tryz.isAgg40 Tryz.sizeOf40 (ag (bA 2 2 4 Tryz.isAgg40 Tryz.sizeOf40 (ac (fun w' h => ⟨103, #[V [e0 x1, e1 x1], V [e0 y1, e1 y1]], zL rfl call103 rfl (mpn rfl) rfl, C.ka HV4.out w' (h.one 7 rfl)⟩) (ag (ag (bC 3 Tryz.isAgg93 (ag (bA 0 2 5 Tryz.isAgg40 Tryz.sizeOf40 (ag (bA 2 2 5 Tryz.isAgg40 Tryz.sizeOf40 (ac (fun w' h => ⟨103, #[V [e0 x2, e1 x2], V [e0 y2, e1 y2]], zL rfl call103 rfl (mpn rfl) rfl, C.ka HV5.out w' (h.one 7 rfl)⟩) (ac (fun w' h => ⟨105, #[V [e0 v4, e1 v4], V [e0 v5, e1 v5]], zL rfl call105 rfl (mpn rfl) rfl, C.km HV6.out w' (h.one 7 rfl)⟩) (ag (ag (bC 3 Tryz.isAgg93 (bA 0 2 0 Tryz.isAgg40 Tryz.sizeOf40 (bA 0 2 1 Tryz.isAgg40 Tryz.sizeOf40 (ac (fun w' h => ⟨103, #[V [e0 v1, e1 v1], V [e0 v2, e1 v2]], zL rfl call103 rfl (mpn rfl) rfl, C.ka HV7.out w' (h.one 7 rfl)⟩) (ac (fun w' h => ⟨104, #[V [e0 v6, e1 v6], V [e0 v7, e1 v7]], zL rfl call104 rfl (mpn rfl) rfl, C.ks HV8.out w' (h.one 7 rfl)⟩) (am (ex_madeE2 rfl) (ak (fun γ => ⟨rfl, rfl, rfl, fun w' h => ex_laidA h rfl Tryz.sizeOf40 rfl rfl rfl⟩) trivial)))))))))))))))))))))))))))))))
 intro γ w3 l hM hl
 have H3 : Hid (Mm w3 ([(γ 30, cel [e0 v8, e1 v8])] ++ _) ∧ _) := wB H2 hM hl [30]
 have o3_30 := vB H2 hM hl 30
 clear hM hl l H2
 generalize γ 30 = γ3_30 at H3 o3_30 ⊢
 clear γ
 refine rN (wp_seq ?_)
 refine zS 32 [.quiet (PT γ1_0 0), .quiet (PT γ1_0 1), .quiet (.func (.func 104) #[] #[]), .quiet (PT γ1_0 0), .quiet (PT γ1_0 2), .quiet (.func (.func 105) #[] #[]), .quiet (PT γ1_0 0), .quiet (PT γ1_0 0), .quiet (.func (.func 103) #[] #[]), .quiet (PT γ1_1 12), .quiet (V [e0 y1, e1 y1]), .quiet (PT γ1_1 24), .quiet (V [e0 z1, e1 z1]), .call (V [e0 v9, e1 v9]), .quiet (PT γ1_0 0), .quiet (PT γ1_0 0), .quiet (.func (.func 103) #[] #[]), .quiet (PT γ1_2 12), .quiet (V [e0 y2, e1 y2]), .quiet (PT γ1_2 24), .quiet (V [e0 z2, e1 z2]), .call (V [e0 v10, e1 v10]), .call (V [e0 v11, e1 v11]), .quiet (PT γ1_0 0), .quiet (PT γ1_0 0), .quiet (.func (.func 103) #[] #[]), .quiet (V [e0 v2, e1 v2]), .quiet (V [e0 v3, e1 v3]), .call (V [e0 v12, e1 v12]), .call (V [e0 v13, e1 v13]), .made (cel [0, 0]) 40, .laid 30 (cel [0, 0]) (cel [e0 v13, e1 v13])] (sB H3) ?ho4 ?he4 (hL := ?hL4)
 case hL4 => exact ⟨⟨_, rfl⟩, trivial⟩
 case ho4 => exact ag (ag (bC 4 Tryz.isAgg93 (ag (ag (bC 4 Tryz.isAgg93 (ag (ag (bC 4 Tryz.isAgg93 (ag (bA 2 2 5 Tryz.isAgg40 Tryz.sizeOf40 (ag (bA 4 2 5 Tryz.isAgg40 Tryz.sizeOf40 (ac (fun w' h => ⟨103, #[V [e0 y1, e1 y1], V [e0 z1, e1 z1]], zL rfl call103 rfl (mpn rfl) rfl, C.ka HV9.out w' (h.one 8 rfl)⟩) (ag (ag (bC 4 Tryz.isAgg93 (ag (bA 2 2 6 Tryz.isAgg40 Tryz.sizeOf40 (ag (bA 4 2 6 Tryz.isAgg40 Tryz.sizeOf40 (ac (fun w' h => ⟨103, #[V [e0 y2, e1 y2], V [e0 z2, e1 z2]], zL rfl call103 rfl (mpn rfl) rfl, C.ka HV10.out w' (h.one 8 rfl)⟩) (ac (fun w' h => ⟨105, #[V [e0 v9, e1 v9], V [e0 v10, e1 v10]], zL rfl call105 rfl (mpn rfl) rfl, C.km HV11.out w' (h.one 8 rfl)⟩) (ag (ag (bC 4 Tryz.isAgg93 (bA 0 2 2 Tryz.isAgg40 Tryz.sizeOf40 (bA 0 2 3 Tryz.isAgg40 Tryz.sizeOf40 (ac (fun w' h => ⟨103, #[V [e0 v2, e1 v2], V [e0 v3, e1 v3]], zL rfl call103 rfl (mpn rfl) rfl, C.ka HV12.out w' (h.one 8 rfl)⟩) (ac (fun w' h => ⟨104, #[V [e0 v11, e1 v11], V [e0 v12, e1 v12]], zL rfl call104 rfl (mpn rfl) rfl, C.ks HV13.out w' (h.one 8 rfl)⟩) (am (ex_madeE2 rfl) (ak (fun γ => ⟨rfl, rfl, rfl, fun w' h => ex_laidA h rfl Tryz.sizeOf40 rfl rfl rfl⟩) trivial)))))))))))))))))))))))))))))))
 intro γ w4 l hM hl
 have H4 : Hid (Mm w4 ([(γ 30, cel [e0 v13, e1 v13])] ++ _) ∧ _) := wB H3 hM hl [30]
 have o4_30 := vB H3 hM hl 30
 clear hM hl l H3
 generalize γ 30 = γ4_30 at H4 o4_30 ⊢
 clear γ
 refine rN (wp_seq ?_)
 refine zS 32 [.quiet (PT γ1_0 0), .quiet (PT γ1_0 1), .quiet (.func (.func 104) #[] #[]), .quiet (PT γ1_0 0), .quiet (PT γ1_0 2), .quiet (.func (.func 105) #[] #[]), .quiet (PT γ1_0 0), .quiet (PT γ1_0 0), .quiet (.func (.func 103) #[] #[]), .quiet (PT γ1_1 0), .quiet (V [e0 x1, e1 x1]), .quiet (PT γ1_1 24), .quiet (V [e0 z1, e1 z1]), .call (V [e0 v14, e1 v14]), .quiet (PT γ1_0 0), .quiet (PT γ1_0 0), .quiet (.func (.func 103) #[] #[]), .quiet (PT γ1_2 0), .quiet (V [e0 x2, e1 x2]), .quiet (PT γ1_2 24), .quiet (V [e0 z2, e1 z2]), .call (V [e0 v15, e1 v15]), .call (V [e0 v16, e1 v16]), .quiet (PT γ1_0 0), .quiet (PT γ1_0 0), .quiet (.func (.func 103) #[] #[]), .quiet (V [e0 v1, e1 v1]), .quiet (V [e0 v3, e1 v3]), .call (V [e0 v17, e1 v17]), .call (V [e0 v18, e1 v18]), .made (cel [0, 0]) 40, .laid 30 (cel [0, 0]) (cel [e0 v18, e1 v18])] (sB H4) ?ho5 ?he5 (hL := ?hL5)
 case hL5 => exact ⟨⟨_, rfl⟩, trivial⟩
 case ho5 => exact ag (ag (bC 5 Tryz.isAgg93 (ag (ag (bC 5 Tryz.isAgg93 (ag (ag (bC 5 Tryz.isAgg93 (ag (bA 0 2 6 Tryz.isAgg40 Tryz.sizeOf40 (ag (bA 4 2 6 Tryz.isAgg40 Tryz.sizeOf40 (ac (fun w' h => ⟨103, #[V [e0 x1, e1 x1], V [e0 z1, e1 z1]], zL rfl call103 rfl (mpn rfl) rfl, C.ka HV14.out w' (h.one 9 rfl)⟩) (ag (ag (bC 5 Tryz.isAgg93 (ag (bA 0 2 7 Tryz.isAgg40 Tryz.sizeOf40 (ag (bA 4 2 7 Tryz.isAgg40 Tryz.sizeOf40 (ac (fun w' h => ⟨103, #[V [e0 x2, e1 x2], V [e0 z2, e1 z2]], zL rfl call103 rfl (mpn rfl) rfl, C.ka HV15.out w' (h.one 9 rfl)⟩) (ac (fun w' h => ⟨105, #[V [e0 v14, e1 v14], V [e0 v15, e1 v15]], zL rfl call105 rfl (mpn rfl) rfl, C.km HV16.out w' (h.one 9 rfl)⟩) (ag (ag (bC 5 Tryz.isAgg93 (bA 0 2 2 Tryz.isAgg40 Tryz.sizeOf40 (bA 0 2 4 Tryz.isAgg40 Tryz.sizeOf40 (ac (fun w' h => ⟨103, #[V [e0 v1, e1 v1], V [e0 v3, e1 v3]], zL rfl call103 rfl (mpn rfl) rfl, C.ka HV17.out w' (h.one 9 rfl)⟩) (ac (fun w' h => ⟨104, #[V [e0 v16, e1 v16], V [e0 v17, e1 v17]], zL rfl call104 rfl (mpn rfl) rfl, C.ks HV18.out w' (h.one 9 rfl)⟩) (am (ex_madeE2 rfl) (ak (fun γ => ⟨rfl, rfl, rfl, fun w' h => ex_laidA h rfl Tryz.sizeOf40 rfl rfl rfl⟩) trivial)))))))))))))))))))))))))))))))
 intro γ w5 l hM hl
 have H5 : Hid (Mm w5 ([(γ 30, cel [e0 v18, e1 v18])] ++ _) ∧ _) := wB H4 hM hl [30]
 have o5_30 := vB H4 hM hl 30
 clear hM hl l H4
 generalize γ 30 = γ5_30 at H5 o5_30 ⊢
 clear γ
 refine rN (wp_seq ?_)
 refine zS 27 [.quiet (.agg (G2 tn (e0 u) (e1 u) (e0 b) (e1 b)).toArray), .quiet (V [e0 v1, e1 v1]), .call (V [e0 v19, e1 v19]), .quiet (.agg (G2 tn (e0 u) (e1 u) (e0 b) (e1 b)).toArray), .quiet (PT γ1_0 0), .quiet (PT γ1_0 2), .quiet (.func (.func 105) #[] #[]), .quiet (PT γ1_0 17), .quiet (V [e0 b, e1 b]), .quiet (V [e0 v18, e1 v18]), .call (V [e0 v20, e1 v20]), .call (V [e0 v21, e1 v21]), .quiet (.agg (G2 tn (e0 u) (e1 u) (e0 b) (e1 b)).toArray), .quiet (PT γ1_0 0), .quiet (PT γ1_0 2), .quiet (.func (.func 105) #[] #[]), .quiet (PT γ1_0 17), .quiet (V [e0 b, e1 b]), .quiet (V [e0 v3, e1 v3]), .call (V [e0 v22, e1 v22]), .call (V [e0 v23, e1 v23]), .made (cel [0, 0]) 40, .made (cel [0, 0]) 40, .made (cel [0, 0]) 40, .laid 21 (cel [0, 0]) (cel [e0 v19, e1 v19]), .laid 22 (cel [0, 0]) (cel [e0 v21, e1 v21]), .laid 23 (cel [0, 0]) (cel [e0 v23, e1 v23])] (sB H5) ?ho6 ?he6 (hL := ?hL6)
 case hL6 => exact ⟨⟨_, rfl⟩, ⟨_, rfl⟩, ⟨_, rfl⟩, trivial⟩
 case ho6 => exact bT 6 Tryz.isAgg101 Tryz.sizeOf101 (bA 0 2 3 Tryz.isAgg40 Tryz.sizeOf40 (ac (fun w' h => eC call151 (thriceN_2 C HV19.out w' (h.one 10 rfl))) (bT 6 Tryz.isAgg101 Tryz.sizeOf101 (ag (ag (bC 6 Tryz.isAgg93 (ag (bT 6 Tryz.isAgg40 Tryz.sizeOf40 (bA 0 2 0 Tryz.isAgg40 Tryz.sizeOf40 (ac (fun w' h => ⟨105, #[V [e0 b, e1 b], V [e0 v18, e1 v18]], zL rfl call105 rfl (mpn rfl) rfl, C.km HV20.out w' (h.one 10 rfl)⟩) (ac (fun w' h => eC call151 (thriceN_2 C HV21.out w' (h.one 10 rfl))) (bT 6 Tryz.isAgg101 Tryz.sizeOf101 (ag (ag (bC 6 Tryz.isAgg93 (ag (bT 6 Tryz.isAgg40 Tryz.sizeOf40 (bA 0 2 5 Tryz.isAgg40 Tryz.sizeOf40 (ac (fun w' h => ⟨105, #[V [e0 b, e1 b], V [e0 v3, e1 v3]], zL rfl call105 rfl (mpn rfl) rfl, C.km HV22.out w' (h.one 10 rfl)⟩) (ac (fun w' h => eC call151 (thriceN_2 C HV23.out w' (h.one 10 rfl))) (am (ex_madeE2 rfl) (am (ex_madeE2 rfl) (am (ex_madeE2 rfl) (ak (fun γ => ⟨rfl, rfl, rfl, fun w' h => ex_laidA h rfl Tryz.sizeOf40 rfl rfl rfl⟩) (ak (fun γ => ⟨rfl, rfl, rfl, fun w' h => ex_laidA h rfl Tryz.sizeOf40 rfl rfl rfl⟩) (ak (fun γ => ⟨rfl, rfl, rfl, fun w' h => ex_laidA h rfl Tryz.sizeOf40 rfl rfl rfl⟩) trivial))))))))))))))))))))))))))
 intro γ w6 l hM hl
 have H6 : Hid (Mm w6 ([(γ 21, cel [e0 v19, e1 v19]), (γ 22, cel [e0 v21, e1 v21]), (γ 23, cel [e0 v23, e1 v23])] ++ _) ∧ _) := wB H5 hM hl [21, 22, 23]
 have o6_21 := vB H5 hM hl 21
 have o6_22 := vB H5 hM hl 22
 have o6_23 := vB H5 hM hl 23
 clear hM hl l H5
 generalize γ 21 = γ6_21 at H6 o6_21 ⊢
 generalize γ 22 = γ6_22 at H6 o6_22 ⊢
 generalize γ 23 = γ6_23 at H6 o6_23 ⊢
 clear γ
 refine rN (wp_seq ?_)
 refine zS 16 [.quiet (PT γ1_0 0), .quiet (PT γ1_0 1), .quiet (.func (.func 104) #[] #[]), .quiet (V [e0 v2, e1 v2]), .quiet (V [e0 v23, e1 v23]), .call (V [e0 v24, e1 v24]), .quiet (PT γ1_0 0), .quiet (PT γ1_0 0), .quiet (.func (.func 103) #[] #[]), .quiet (V [e0 v2, e1 v2]), .quiet (V [e0 v23, e1 v23]), .call (V [e0 v25, e1 v25]), .made (cel [0, 0]) 40, .made (cel [0, 0]) 40, .laid 12 (cel [0, 0]) (cel [e0 v24, e1 v24]), .laid 13 (cel [0, 0]) (cel [e0 v25, e1 v25])] (sB H6) ?ho7 ?he7 (hL := ?hL7)
 case hL7 => exact ⟨⟨_, rfl⟩, ⟨_, rfl⟩, trivial⟩
 case ho7 => exact ag (ag (bC 9 Tryz.isAgg93 (bA 0 2 7 Tryz.isAgg40 Tryz.sizeOf40 (bA 0 2 2 Tryz.isAgg40 Tryz.sizeOf40 (ac (fun w' h => ⟨104, #[V [e0 v2, e1 v2], V [e0 v23, e1 v23]], zL rfl call104 rfl (mpn rfl) rfl, C.ks HV24.out w' (h.one 13 rfl)⟩) (ag (ag (bC 9 Tryz.isAgg93 (bA 0 2 7 Tryz.isAgg40 Tryz.sizeOf40 (bA 0 2 2 Tryz.isAgg40 Tryz.sizeOf40 (ac (fun w' h => ⟨103, #[V [e0 v2, e1 v2], V [e0 v23, e1 v23]], zL rfl call103 rfl (mpn rfl) rfl, C.ka HV25.out w' (h.one 13 rfl)⟩) (am (ex_madeE2 rfl) (am (ex_madeE2 rfl) (ak (fun γ => ⟨rfl, rfl, rfl, fun w' h => ex_laidA h rfl Tryz.sizeOf40 rfl rfl rfl⟩) (ak (fun γ => ⟨rfl, rfl, rfl, fun w' h => ex_laidA h rfl Tryz.sizeOf40 rfl rfl rfl⟩) trivial)))))))))))))))
 intro γ w7 l hM hl
 have H7 : Hid (Mm w7 ([(γ 12, cel [e0 v24, e1 v24]), (γ 13, cel [e0 v25, e1 v25])] ++ _) ∧ _) := wB H6 hM hl [12, 13]
 have o7_12 := vB H6 hM hl 12
 have o7_13 := vB H6 hM hl 13
 clear hM hl l H6
 generalize γ 12 = γ7_12 at H7 o7_12 ⊢
 generalize γ 13 = γ7_13 at H7 o7_13 ⊢
 clear γ
 refine rN (wp_seq ?_)
 refine zP 49 [.quiet (PT γ1_0 0), .quiet (PT γ1_0 1), .quiet (.func (.func 104) #[] #[]), .quiet (PT γ1_0 0), .quiet (PT γ1_0 2), .quiet (.func (.func 105) #[] #[]), .quiet (V [e0 v24, e1 v24]), .quiet (V [e0 v8, e1 v8]), .call (V [e0 v26, e1 v26]), .quiet (PT γ1_0 0), .quiet (PT γ1_0 2), .quiet (.func (.func 105) #[] #[]), .quiet (V [e0 v13, e1 v13]), .quiet (V [e0 v21, e1 v21]), .call (V [e0 v27, e1 v27]), .call (V [e0 v28, e1 v28]), .quiet (PT γ1_0 0), .quiet (PT γ1_0 0), .quiet (.func (.func 103) #[] #[]), .quiet (PT γ1_0 0), .quiet (PT γ1_0 2), .quiet (.func (.func 105) #[] #[]), .quiet (V [e0 v24, e1 v24]), .quiet (V [e0 v25, e1 v25]), .call (V [e0 v29, e1 v29]), .quiet (PT γ1_0 0), .quiet (PT γ1_0 2), .quiet (.func (.func 105) #[] #[]), .quiet (V [e0 v19, e1 v19]), .quiet (V [e0 v21, e1 v21]), .call (V [e0 v30, e1 v30]), .call (V [e0 v31, e1 v31]), .quiet (PT γ1_0 0), .quiet (PT γ1_0 0), .quiet (.func (.func 103) #[] #[]), .quiet (PT γ1_0 0), .quiet (PT γ1_0 2), .quiet (.func (.func 105) #[] #[]), .quiet (V [e0 v25, e1 v25]), .quiet (V [e0 v13, e1 v13]), .call (V [e0 v32, e1 v32]), .quiet (PT γ1_0 0), .quiet (PT γ1_0 2), .quiet (.func (.func 105) #[] #[]), .quiet (V [e0 v19, e1 v19]), .quiet (V [e0 v8, e1 v8]), .call (V [e0 v33, e1 v33]), .call (V [e0 v34, e1 v34]), .quiet (V [e0 v28, e1 v28, e0 v31, e1 v31, e0 v34, e1 v34])] H7 ?ho8 ?he8 (hL := ?hL8)
 case hL8 => exact trivial
 case ho8 => exact ag (ag (bC 11 Tryz.isAgg93 (ag (ag (bC 11 Tryz.isAgg93 (bA 0 2 0 Tryz.isAgg40 Tryz.sizeOf40 (bA 0 2 7 Tryz.isAgg40 Tryz.sizeOf40 (ac (fun w' h => ⟨105, #[V [e0 v24, e1 v24], V [e0 v8, e1 v8]], zL rfl call105 rfl (mpn rfl) rfl, C.km HV26.out w' (h.one 15 rfl)⟩) (ag (ag (bC 11 Tryz.isAgg93 (bA 0 2 6 Tryz.isAgg40 Tryz.sizeOf40 (bA 0 2 3 Tryz.isAgg40 Tryz.sizeOf40 (ac (fun w' h => ⟨105, #[V [e0 v13, e1 v13], V [e0 v21, e1 v21]], zL rfl call105 rfl (mpn rfl) rfl, C.km HV27.out w' (h.one 15 rfl)⟩) (ac (fun w' h => ⟨104, #[V [e0 v26, e1 v26], V [e0 v27, e1 v27]], zL rfl call104 rfl (mpn rfl) rfl, C.ks HV28.out w' (h.one 15 rfl)⟩) (ag (ag (bC 11 Tryz.isAgg93 (ag (ag (bC 11 Tryz.isAgg93 (bA 0 2 0 Tryz.isAgg40 Tryz.sizeOf40 (bA 0 2 1 Tryz.isAgg40 Tryz.sizeOf40 (ac (fun w' h => ⟨105, #[V [e0 v24, e1 v24], V [e0 v25, e1 v25]], zL rfl call105 rfl (mpn rfl) rfl, C.km HV29.out w' (h.one 15 rfl)⟩) (ag (ag (bC 11 Tryz.isAgg93 (bA 0 2 2 Tryz.isAgg40 Tryz.sizeOf40 (bA 0 2 3 Tryz.isAgg40 Tryz.sizeOf40 (ac (fun w' h => ⟨105, #[V [e0 v19, e1 v19], V [e0 v21, e1 v21]], zL rfl call105 rfl (mpn rfl) rfl, C.km HV30.out w' (h.one 15 rfl)⟩) (ac (fun w' h => ⟨103, #[V [e0 v29, e1 v29], V [e0 v30, e1 v30]], zL rfl call103 rfl (mpn rfl) rfl, C.ka HV31.out w' (h.one 15 rfl)⟩) (ag (ag (bC 11 Tryz.isAgg93 (ag (ag (bC 11 Tryz.isAgg93 (bA 0 2 1 Tryz.isAgg40 Tryz.sizeOf40 (bA 0 2 6 Tryz.isAgg40 Tryz.sizeOf40 (ac (fun w' h => ⟨105, #[V [e0 v25, e1 v25], V [e0 v13, e1 v13]], zL rfl call105 rfl (mpn rfl) rfl, C.km HV32.out w' (h.one 15 rfl)⟩) (ag (ag (bC 11 Tryz.isAgg93 (bA 0 2 2 Tryz.isAgg40 Tryz.sizeOf40 (bA 0 2 7 Tryz.isAgg40 Tryz.sizeOf40 (ac (fun w' h => ⟨105, #[V [e0 v19, e1 v19], V [e0 v8, e1 v8]], zL rfl call105 rfl (mpn rfl) rfl, C.km HV33.out w' (h.one 15 rfl)⟩) (ac (fun w' h => ⟨103, #[V [e0 v32, e1 v32], V [e0 v33, e1 v33]], zL rfl call103 rfl (mpn rfl) rfl, C.ka HV34.out w' (h.one 15 rfl)⟩) (ak (fun γ => ⟨rfl, fun w' _ => ex_buildTE rfl rfl rfl rfl⟩) trivial))))))))))))))))))))))))))))))))))))))))))))))))
 intro _ w8 H8
 clear H7
 refine zF (l := [49]) rfl ?_
 refine sF 14 [e0 v28, e1 v28, e0 v31, e1 v31, e0 v34, e1 v34] [_, _, _, _, _, _, _, _, _, _, _, _, _, _, _, _] H8 o1_3 Tryz.sizeOf139 fun w9 H9 => ?_
 clear H8
 refine zE (zA (wp_ret ?_))
 repeat (first | refine zM ?_ | refine zI ?_)
 have hf0 := cel_var (k := 6) H9.out.1 14 rfl Tryz.isAgg139 Tryz.sizeOf139 rfl
 refine bodyPost_ret (v := V [e0 v28, e1 v28, e0 v31, e1 v31, e0 v34, e1 v34]) (by simp [results, Tryz.results114, asAddr, hf0]) rfl ?_
 exact ⟨rfl, H9.out.2⟩
theorem twiceT_2 {α : Type} {e0 e1 : α → Nat} {fa fs fm : α → α → α} {fi : α → α} {z u b : α} {tn : Value} (_C : Fd2 e0 e1 fa fs fm fi z) (x0 x1 y0 y1 t0 t1 : Nat) (hz : ∀ w, (Op.equalIn 10000 40 (V [t0, t1]) (V [0, 0])).run Tryz.prog w = .ok true w) (w : World) (hm : Mm w [(0, dtab)]) :
  Calls Tryz.prog 149 #[.agg (G2 tn (e0 u) (e1 u) (e0 b) (e1 b)).toArray, V [x0, x1, y0, y1, t0, t1]] w (Rt w (V [x0, x1, y0, y1, t0, t1])) := by
 have H0 : Hid (_ ∧ _) := ⟨hm, Below.refl w.heap.size w⟩
 clear hm
 have HZ : Hid _ := hz
 clear hz
 go_enter Tryz.func149, Tryz.ntmps149
 refine wp_seq ?_
 refine zC 3 [.made (G2 tn (e0 u) (e1 u) (e0 b) (e1 b)) 101, .made (cel [x0, x1, y0, y1, t0, t1]) 139, .made (cel [0, 0, 0, 0, 0, 0]) 139] (sB H0) ?ho1 ?he1
 case ho1 => exact am (zW rfl rfl) (am (ex_boxA rfl rfl) (am (ex_madeTE rfl) trivial))
 intro γ w1 l hM hl
 have H1 : Hid (Mm w1 ([(γ 0, G2 tn (e0 u) (e1 u) (e0 b) (e1 b)), (γ 1, cel [x0, x1, y0, y1, t0, t1]), (γ 2, cel [0, 0, 0, 0, 0, 0])] ++ _) ∧ _) := wB H0 hM hl [0, 1, 2]
 have o1_0 := vB H0 hM hl 0
 have o1_1 := vB H0 hM hl 1
 have o1_2 := vB H0 hM hl 2
 clear hM hl l
 generalize γ 0 = γ1_0 at H1 o1_0 ⊢
 generalize γ 1 = γ1_1 at H1 o1_1 ⊢
 generalize γ 2 = γ1_2 at H1 o1_2 ⊢
 clear γ
 refine rN (wp_seq (wp_seq ?_))
 refine zB 2 [.quiet (V [x0, x1, y0, y1, t0, t1]), .call (.bool true)] H1 ?ho2 ?he2
 case ho2 => exact bA 0 6 1 Tryz.isAgg139 Tryz.sizeOf139 (ac (fun w' h => eC call150 (isZero_2 _ _ _ _ _ _ true HZ.out w')) trivial)
 intro _ w2 H2
 clear H1
 refine rN (wp_cond_true rfl (wp_seq ?_))
 refine zB 1 [.quiet (V [x0, x1, y0, y1, t0, t1])] H2 ?ho3 ?he3
 case ho3 => exact bA 0 6 1 Tryz.isAgg139 Tryz.sizeOf139 trivial
 intro _ w3 H3
 clear H2
 refine zF (l := [1]) rfl ?_
 refine sF 2 [x0, x1, y0, y1, t0, t1] [_, _, _, _] H3 o1_2 Tryz.sizeOf139 fun w4 H4 => ?_
 clear H3
 refine zE (zA (wp_ret ?_))
 repeat (first | refine zM ?_ | refine zI ?_)
 have hf0 := cel_var (k := 6) H4.out.1 2 rfl Tryz.isAgg139 Tryz.sizeOf139 rfl
 refine bodyPost_ret (v := V [x0, x1, y0, y1, t0, t1]) (by simp [results, Tryz.results149, asAddr, hf0]) rfl ?_
 exact ⟨rfl, H4.out.2⟩
set_option maxHeartbeats 4000000 in
theorem twiceV_2 {α : Type} {e0 e1 : α → Nat} {fa fs fm : α → α → α} {fi : α → α} {z u b : α} {tn : Value} (C : Fd2 e0 e1 fa fs fm fi z) (x y t : α) (hz : ∀ w, (Op.equalIn 10000 40 (V [e0 t, e1 t]) (V [0, 0])).run Tryz.prog w = .ok false w) (v1 v2 v3 v4 v5 v6 v7 v8 v9 v10 v11 v12 v13 v14 v15 v16 v17 v18 : α) (hv1 : fm y y = v1) (hv2 : fm y t = v2) (hv3 : fm t t = v3) (hv4 : fm b v3 = v4) (hv5 : fa (fa v4 v4) v4 = v5) (hv6 : fa v1 v1 = v6) (hv7 : fa v6 v6 = v7) (hv8 : fa v7 v7 = v8) (hv9 : fa (fa v5 v5) v5 = v9) (hv10 : fs v1 v9 = v10) (hv11 : fa v1 v5 = v11) (hv12 : fm x y = v12) (hv13 : fm v10 v12 = v13) (hv14 : fa v13 v13 = v14) (hv15 : fm v10 v11 = v15) (hv16 : fm v8 v5 = v16) (hv17 : fa v15 v16 = v17) (hv18 : fm v8 v2 = v18) (w : World) (hm : Mm w [(0, dtab)]) :
  Calls Tryz.prog 149 #[.agg (G2 tn (e0 u) (e1 u) (e0 b) (e1 b)).toArray, V [e0 x, e1 x, e0 y, e1 y, e0 t, e1 t]] w (Rt w (V [e0 v14, e1 v14, e0 v17, e1 v17, e0 v18, e1 v18])) := by
 have H0 : Hid (_ ∧ _) := ⟨hm, Below.refl w.heap.size w⟩
 clear hm
 have HZ : Hid _ := hz
 clear hz
 have HV1 : Hid _ := hv1
 clear hv1
 have HV2 : Hid _ := hv2
 clear hv2
 have HV3 : Hid _ := hv3
 clear hv3
 have HV4 : Hid _ := hv4
 clear hv4
 have HV5 : Hid _ := hv5
 clear hv5
 have HV6 : Hid _ := hv6
 clear hv6
 have HV7 : Hid _ := hv7
 clear hv7
 have HV8 : Hid _ := hv8
 clear hv8
 have HV9 : Hid _ := hv9
 clear hv9
 have HV10 : Hid _ := hv10
 clear hv10
 have HV11 : Hid _ := hv11
 clear hv11
 have HV12 : Hid _ := hv12
 clear hv12
 have HV13 : Hid _ := hv13
 clear hv13
 have HV14 : Hid _ := hv14
 clear hv14
 have HV15 : Hid _ := hv15
 clear hv15
 have HV16 : Hid _ := hv16
 clear hv16
 have HV17 : Hid _ := hv17
 clear hv17
 have HV18 : Hid _ := hv18
 clear hv18
 go_enter Tryz.func149, Tryz.ntmps149
 refine wp_seq ?_
 refine zC 3 [.made (G2 tn (e0 u) (e1 u) (e0 b) (e1 b)) 101, .made (cel [e0 x, e1 x, e0 y, e1 y, e0 t, e1 t]) 139, .made (cel [0, 0, 0, 0, 0, 0]) 139] (sB H0) ?ho1 ?he1
 case ho1 => exact am (zW rfl rfl) (am (ex_boxA rfl rfl) (am (ex_madeTE rfl) trivial))
 intro γ w1 l hM hl
 have H1 : Hid (Mm w1 ([(γ 0, G2 tn (e0 u) (e1 u) (e0 b) (e1 b)), (γ 1, cel [e0 x, e1 x, e0 y, e1 y, e0 t, e1 t]), (γ 2, cel [0, 0, 0, 0, 0, 0])] ++ _) ∧ _) := wB H0 hM hl [0, 1, 2]
 have o1_0 := vB H0 hM hl 0
 have o1_1 := vB H0 hM hl 1
 have o1_2 := vB H0 hM hl 2
 clear hM hl l
 generalize γ 0 = γ1_0 at H1 o1_0 ⊢
 generalize γ 1 = γ1_1 at H1 o1_1 ⊢
 generalize γ 2 = γ1_2 at H1 o1_2 ⊢
 clear γ
 refine rN (wp_seq (wp_seq ?_))
 refine zB 2 [.quiet (V [e0 x, e1 x, e0 y, e1 y, e0 t, e1 t]), .call (.bool false)] H1 ?ho2 ?he2
 case ho2 => exact bA 0 6 1 Tryz.isAgg139 Tryz.sizeOf139 (ac (fun w' h => eC call150 (isZero_2 _ _ _ _ _ _ false HZ.out w')) trivial)
 intro _ w2 H2
 clear H1
 refine rN (wp_cond_false rfl ?_)
 refine wp_skip (zA (wp_seq ?_))
 refine zS 20 [.quiet (PT γ1_0 0), .quiet (PT γ1_0 2), .quiet (.func (.func 105) #[] #[]), .quiet (PT γ1_1 12), .quiet (V [e0 y, e1 y]), .quiet (PT γ1_1 12), .quiet (V [e0 y, e1 y]), .call (V [e0 v1, e1 v1]), .quiet (PT γ1_0 0), .quiet (PT γ1_0 2), .quiet (.func (.func 105) #[] #[]), .quiet (PT γ1_1 12), .quiet (V [e0 y, e1 y]), .quiet (PT γ1_1 24), .quiet (V [e0 t, e1 t]), .call (V [e0 v2, e1 v2]), .made (cel [0, 0]) 40, .made (cel [0, 0]) 40, .laid 16 (cel [0, 0]) (cel [e0 v1, e1 v1]), .laid 17 (cel [0, 0]) (cel [e0 v2, e1 v2])] (sB H2) ?ho3 ?he3 (hL := ?hL3)
 case hL3 => exact ⟨⟨_, rfl⟩, ⟨_, rfl⟩, trivial⟩
 case ho3 => exact ag (ag (bC 0 Tryz.isAgg93 (ag (bA 2 2 1 Tryz.isAgg40 Tryz.sizeOf40 (ag (bA 2 2 1 Tryz.isAgg40 Tryz.sizeOf40 (ac (fun w' h => ⟨105, #[V [e0 y, e1 y], V [e0 y, e1 y]], zL rfl call105 rfl (mpn rfl) rfl, C.km HV1.out w' (h.one 3 rfl)⟩) (ag (ag (bC 0 Tryz.isAgg93 (ag (bA 2 2 1 Tryz.isAgg40 Tryz.sizeOf40 (ag (bA 4 2 1 Tryz.isAgg40 Tryz.sizeOf40 (ac (fun w' h => ⟨105, #[V [e0 y, e1 y], V [e0 t, e1 t]], zL rfl call105 rfl (mpn rfl) rfl, C.km HV2.out w' (h.one 3 rfl)⟩) (am (ex_madeE2 rfl) (am (ex_madeE2 rfl) (ak (fun γ => ⟨rfl, rfl, rfl, fun w' h => ex_laidA h rfl Tryz.sizeOf40 rfl rfl rfl⟩) (ak (fun γ => ⟨rfl, rfl, rfl, fun w' h => ex_laidA h rfl Tryz.sizeOf40 rfl rfl rfl⟩) trivial)))))))))))))))))))
 intro γ w3 l hM hl
 have H3 : Hid (Mm w3 ([(γ 16, cel [e0 v1, e1 v1]), (γ 17, cel [e0 v2, e1 v2])] ++ _) ∧ _) := wB H2 hM hl [16, 17]
 have o3_16 := vB H2 hM hl 16
 have o3_17 := vB H2 hM hl 17
 clear hM hl l H2
 generalize γ 16 = γ3_16 at H3 o3_16 ⊢
 generalize γ 17 = γ3_17 at H3 o3_17 ⊢
 clear γ
 refine rN (wp_seq ?_)
 refine zS 18 [.quiet (.agg (G2 tn (e0 u) (e1 u) (e0 b) (e1 b)).toArray), .quiet (PT γ1_0 0), .quiet (PT γ1_0 2), .quiet (.func (.func 105) #[] #[]), .quiet (PT γ1_0 17), .quiet (V [e0 b, e1 b]), .quiet (PT γ1_0 0), .quiet (PT γ1_0 2), .quiet (.func (.func 105) #[] #[]), .quiet (PT γ1_1 24), .quiet (V [e0 t, e1 t]), .quiet (PT γ1_1 24), .quiet (V [e0 t, e1 t]), .call (V [e0 v3, e1 v3]), .call (V [e0 v4, e1 v4]), .call (V [e0 v5, e1 v5]), .made (cel [0, 0]) 40, .laid 16 (cel [0, 0]) (cel [e0 v5, e1 v5])] (sB H3) ?ho4 ?he4 (hL := ?hL4)
 case hL4 => exact ⟨⟨_, rfl⟩, trivial⟩
 case ho4 => exact bT 2 Tryz.isAgg101 Tryz.sizeOf101 (ag (ag (bC 2 Tryz.isAgg93 (ag (bT 2 Tryz.isAgg40 Tryz.sizeOf40 (ag (ag (bC 2 Tryz.isAgg93 (ag (bA 4 2 3 Tryz.isAgg40 Tryz.sizeOf40 (ag (bA 4 2 3 Tryz.isAgg40 Tryz.sizeOf40 (ac (fun w' h => ⟨105, #[V [e0 t, e1 t], V [e0 t, e1 t]], zL rfl call105 rfl (mpn rfl) rfl, C.km HV3.out w' (h.one 5 rfl)⟩) (ac (fun w' h => ⟨105, #[V [e0 b, e1 b], V [e0 v3, e1 v3]], zL rfl call105 rfl (mpn rfl) rfl, C.km HV4.out w' (h.one 5 rfl)⟩) (ac (fun w' h => eC call151 (thriceN_2 C HV5.out w' (h.one 5 rfl))) (am (ex_madeE2 rfl) (ak (fun γ => ⟨rfl, rfl, rfl, fun w' h => ex_laidA h rfl Tryz.sizeOf40 rfl rfl rfl⟩) trivial)))))))))))))))))
 intro γ w4 l hM hl
 have H4 : Hid (Mm w4 ([(γ 16, cel [e0 v5, e1 v5])] ++ _) ∧ _) := wB H3 hM hl [16]
 have o4_16 := vB H3 hM hl 16
 clear hM hl l H3
 generalize γ 16 = γ4_16 at H4 o4_16 ⊢
 clear γ
 refine rN (wp_seq ?_)
 refine zS 9 [.quiet (.agg (G2 tn (e0 u) (e1 u) (e0 b) (e1 b)).toArray), .quiet (.agg (G2 tn (e0 u) (e1 u) (e0 b) (e1 b)).toArray), .quiet (.agg (G2 tn (e0 u) (e1 u) (e0 b) (e1 b)).toArray), .quiet (V [e0 v1, e1 v1]), .call (V [e0 v6, e1 v6]), .call (V [e0 v7, e1 v7]), .call (V [e0 v8, e1 v8]), .made (cel [0, 0]) 40, .laid 7 (cel [0, 0]) (cel [e0 v8, e1 v8])] (sB H4) ?ho5 ?he5 (hL := ?hL5)
 case hL5 => exact ⟨⟨_, rfl⟩, trivial⟩
 case ho5 => exact bT 3 Tryz.isAgg101 Tryz.sizeOf101 (bT 3 Tryz.isAgg101 Tryz.sizeOf101 (bT 3 Tryz.isAgg101 Tryz.sizeOf101 (bA 0 2 1 Tryz.isAgg40 Tryz.sizeOf40 (ac (fun w' h => eC call169 (doubleN_2 C HV6.out w' (h.one 6 rfl))) (ac (fun w' h => eC call169 (doubleN_2 C HV7.out w' (h.one 6 rfl))) (ac (fun w' h => eC call169 (doubleN_2 C HV8.out w' (h.one 6 rfl))) (am (ex_madeE2 rfl) (ak (fun γ => ⟨rfl, rfl, rfl, fun w' h => ex_laidA h rfl Tryz.sizeOf40 rfl rfl rfl⟩) trivial))))))))
 intro γ w5 l hM hl
 have H5 : Hid (Mm w5 ([(γ 7, cel [e0 v8, e1 v8])] ++ _) ∧ _) := wB H4 hM hl [7]
 have o5_7 := vB H4 hM hl 7
 clear hM hl l H4
 generalize γ 7 = γ5_7 at H5 o5_7 ⊢
 clear γ
 refine rN (wp_seq ?_)
 refine zS 18 [.quiet (PT γ1_0 0), .quiet (PT γ1_0 1), .quiet (.func (.func 104) #[] #[]), .quiet (V [e0 v1, e1 v1]), .quiet (.agg (G2 tn (e0 u) (e1 u) (e0 b) (e1 b)).toArray), .quiet (V [e0 v5, e1 v5]), .call (V [e0 v9, e1 v9]), .call (V [e0 v10, e1 v10]), .quiet (PT γ1_0 0), .quiet (PT γ1_0 0), .quiet (.func (.func 103) #[] #[]), .quiet (V [e0 v1, e1 v1]), .quiet (V [e0 v5, e1 v5]), .call (V [e0 v11, e1 v11]), .made (cel [0, 0]) 40, .made (cel [0, 0]) 40, .laid 14 (cel [0, 0]) (cel [e0 v10, e1 v10]), .laid 15 (cel [0, 0]) (cel [e0 v11, e1 v11])] (sB H5) ?ho6 ?he6 (hL := ?hL6)
 case hL6 => exact ⟨⟨_, rfl⟩, ⟨_, rfl⟩, trivial⟩
 case ho6 => exact ag (ag (bC 4 Tryz.isAgg93 (bA 0 2 2 Tryz.isAgg40 Tryz.sizeOf40 (bT 4 Tryz.isAgg101 Tryz.sizeOf101 (bA 0 2 1 Tryz.isAgg40 Tryz.sizeOf40 (ac (fun w' h => eC call151 (thriceN_2 C HV9.out w' (h.one 7 rfl))) (ac (fun w' h => ⟨104, #[V [e0 v1, e1 v1], V [e0 v9, e1 v9]], zL rfl call104 rfl (mpn rfl) rfl, C.ks HV10.out w' (h.one 7 rfl)⟩) (ag (ag (bC 4 Tryz.isAgg93 (bA 0 2 2 Tryz.isAgg40 Tryz.sizeOf40 (bA 0 2 1 Tryz.isAgg40 Tryz.sizeOf40 (ac (fun w' h => ⟨103, #[V [e0 v1, e1 v1], V [e0 v5, e1 v5]], zL rfl call103 rfl (mpn rfl) rfl, C.ka HV11.out w' (h.one 7 rfl)⟩) (am (ex_madeE2 rfl) (am (ex_madeE2 rfl) (ak (fun γ => ⟨rfl, rfl, rfl, fun w' h => ex_laidA h rfl Tryz.sizeOf40 rfl rfl rfl⟩) (ak (fun γ => ⟨rfl, rfl, rfl, fun w' h => ex_laidA h rfl Tryz.sizeOf40 rfl rfl rfl⟩) trivial)))))))))))))))))
 intro γ w6 l hM hl
 have H6 : Hid (Mm w6 ([(γ 14, cel [e0 v10, e1 v10]), (γ 15, cel [e0 v11, e1 v11])] ++ _) ∧ _) := wB H5 hM hl [14, 15]
 have o6_14 := vB H5 hM hl 14
 have o6_15 := vB H5 hM hl 15
 clear hM hl l H5
 generalize γ 14 = γ6_14 at H6 o6_14 ⊢
 generalize γ 15 = γ6_15 at H6 o6_15 ⊢
 clear γ
 refine rN (wp_seq ?_)
 refine zP 38 [.quiet (.agg (G2 tn (e0 u) (e1 u) (e0 b) (e1 b)).toArray), .quiet (PT γ1_0 0), .quiet (PT γ1_0 2), .quiet (.func (.func 105) #[] #[]), .quiet (V [e0 v10, e1 v10]), .quiet (PT γ1_0 0), .quiet (PT γ1_0 2), .quiet (.func (.func 105) #[] #[]), .quiet (PT γ1_1 0), .quiet (V [e0 x, e1 x]), .quiet (PT γ1_1 12), .quiet (V [e0 y, e1 y]), .call (V [e0 v12, e1 v12]), .call (V [e0 v13, e1 v13]), .call (V [e0 v14, e1 v14]), .quiet (PT γ1_0 0), .quiet (PT γ1_0 0), .quiet (.func (.func 103) #[] #[]), .quiet (PT γ1_0 0), .quiet (PT γ1_0 2), .quiet (.func (.func 105) #[] #[]), .quiet (V [e0 v10, e1 v10]), .quiet (V [e0 v11, e1 v11]), .call (V [e0 v15, e1 v15]), .quiet (PT γ1_0 0), .quiet (PT γ1_0 2), .quiet (.func (.func 105) #[] #[]), .quiet (V [e0 v8, e1 v8]), .quiet (V [e0 v5, e1 v5]), .call (V [e0 v16, e1 v16]), .call (V [e0 v17, e1 v17]), .quiet (PT γ1_0 0), .quiet (PT γ1_0 2), .quiet (.func (.func 105) #[] #[]), .quiet (V [e0 v8, e1 v8]), .quiet (V [e0 v2, e1 v2]), .call (V [e0 v18, e1 v18]), .quiet (V [e0 v14, e1 v14, e0 v17, e1 v17, e0 v18, e1 v18])] H6 ?ho7 ?he7 (hL := ?hL7)
 case hL7 => exact trivial
 case ho7 => exact bT 6 Tryz.isAgg101 Tryz.sizeOf101 (ag (ag (bC 6 Tryz.isAgg93 (bA 0 2 0 Tryz.isAgg40 Tryz.sizeOf40 (ag (ag (bC 6 Tryz.isAgg93 (ag (bA 0 2 7 Tryz.isAgg40 Tryz.sizeOf40 (ag (bA 2 2 7 Tryz.isAgg40 Tryz.sizeOf40 (ac (fun w' h => ⟨105, #[V [e0 x, e1 x], V [e0 y, e1 y]], zL rfl call105 rfl (mpn rfl) rfl, C.km HV12.out w' (h.one 9 rfl)⟩) (ac (fun w' h => ⟨105, #[V [e0 v10, e1 v10], V [e0 v12, e1 v12]], zL rfl call105 rfl (mpn rfl) rfl, C.km HV13.out w' (h.one 9 rfl)⟩) (ac (fun w' h => eC call169 (doubleN_2 C HV14.out w' (h.one 9 rfl))) (ag (ag (bC 6 Tryz.isAgg93 (ag (ag (bC 6 Tryz.isAgg93 (bA 0 2 0 Tryz.isAgg40 Tryz.sizeOf40 (bA 0 2 1 Tryz.isAgg40 Tryz.sizeOf40 (ac (fun w' h => ⟨105, #[V [e0 v10, e1 v10], V [e0 v11, e1 v11]], zL rfl call105 rfl (mpn rfl) rfl, C.km HV15.out w' (h.one 9 rfl)⟩) (ag (ag (bC 6 Tryz.isAgg93 (bA 0 2 2 Tryz.isAgg40 Tryz.sizeOf40 (bA 0 2 3 Tryz.isAgg40 Tryz.sizeOf40 (ac (fun w' h => ⟨105, #[V [e0 v8, e1 v8], V [e0 v5, e1 v5]], zL rfl call105 rfl (mpn rfl) rfl, C.km HV16.out w' (h.one 9 rfl)⟩) (ac (fun w' h => ⟨103, #[V [e0 v15, e1 v15], V [e0 v16, e1 v16]], zL rfl call103 rfl (mpn rfl) rfl, C.ka HV17.out w' (h.one 9 rfl)⟩) (ag (ag (bC 6 Tryz.isAgg93 (bA 0 2 2 Tryz.isAgg40 Tryz.sizeOf40 (bA 0 2 5 Tryz.isAgg40 Tryz.sizeOf40 (ac (fun w' h => ⟨105, #[V [e0 v8, e1 v8], V [e0 v2, e1 v2]], zL rfl call105 rfl (mpn rfl) rfl, C.km HV18.out w' (h.one 9 rfl)⟩) (ak (fun γ => ⟨rfl, fun w' _ => ex_buildTE rfl rfl rfl rfl⟩) trivial)))))))))))))))))))))))))))))))))))))
 intro _ w7 H7
 clear H6
 refine zF (l := [38]) rfl ?_
 refine sF 8 [e0 v14, e1 v14, e0 v17, e1 v17, e0 v18, e1 v18] [_, _, _, _, _, _, _, _, _, _] H7 o1_2 Tryz.sizeOf139 fun w8 H8 => ?_
 clear H7
 refine zE (zA (wp_ret ?_))
 repeat (first | refine zM ?_ | refine zI ?_)
 have hf0 := cel_var (k := 6) H8.out.1 8 rfl Tryz.isAgg139 Tryz.sizeOf139 rfl
 refine bodyPost_ret (v := V [e0 v14, e1 v14, e0 v17, e1 v17, e0 v18, e1 v18]) (by simp [results, Tryz.results149, asAddr, hf0]) rfl ?_
 exact ⟨rfl, H8.out.2⟩
theorem checkZ_2 {α : Type} {e0 e1 : α → Nat} {fa fs fm : α → α → α} {fi : α → α} {z u b : α} {tn : Value} (_C : Fd2 e0 e1 fa fs fm fi z) (x0 x1 y0 y1 : Nat) (be : Bool) (he : ∀ w, (Op.equalIn 10000 104 (.agg (zV x0 x1 y0 y1 true).toArray) (.agg (zV 0 0 0 0 true).toArray)).run Tryz.prog w = .ok be w) (w : World) (hm : Mm w [(0, dtab)]) :
  Calls Tryz.prog 63 #[.agg (G2 tn (e0 u) (e1 u) (e0 b) (e1 b)).toArray, .agg (zV x0 x1 y0 y1 true).toArray] w (Rt w (.bool be)) := by
 have H0 : Hid (_ ∧ _) := ⟨hm, Below.refl w.heap.size w⟩
 clear hm
 have HE : Hid _ := he
 clear he
 go_enter Tryz.func63, Tryz.ntmps63
 refine wp_seq ?_
 refine zC 3 [.made (G2 tn (e0 u) (e1 u) (e0 b) (e1 b)) 101, .made (zV x0 x1 y0 y1 true) 104, .quiet (.bool false)] (sB H0) ?ho1 ?he1
 case ho1 => exact am (zW rfl rfl) (am (zW rfl rfl) (ar trivial))
 intro γ w1 l hM hl
 have H1 : Hid (Mm w1 ([(γ 0, G2 tn (e0 u) (e1 u) (e0 b) (e1 b)), (γ 1, zV x0 x1 y0 y1 true)] ++ _) ∧ _) := wB H0 hM hl [0, 1]
 have o1_0 := vB H0 hM hl 0
 have o1_1 := vB H0 hM hl 1
 clear hM hl l
 generalize γ 0 = γ1_0 at H1 o1_0 ⊢
 generalize γ 1 = γ1_1 at H1 o1_1 ⊢
 clear γ
 refine rN (wp_seq (wp_seq ?_))
 refine zB 2 [.quiet (PT γ1_1 24), .quiet (.bool true)] H1 ?ho2 ?he2
 case ho2 => exact ag (bC 1 Tryz.isAgg4 trivial)
 intro _ w2 H2
 clear H1
 refine rN (wp_cond_true rfl (wp_seq ?_))
 refine zB 4 [.quiet (.agg (zV x0 x1 y0 y1 true).toArray), .quiet (.agg (zV 0 0 0 0 true).toArray), .quiet (.bool be), .quiet (.bool be)] H2 ?ho3 ?he3
 case ho3 => exact bT 1 Tryz.isAgg104 Tryz.sizeOf104 (ak (fun γ => ⟨rfl, fun w' _ => ex_buildPEt rfl rfl⟩) (ak (fun γ => ⟨rfl, fun w' _ => exec_eqT104 HE.out rfl rfl rfl⟩) (ar trivial)))
 intro _ w3 H3
 clear H2
 refine rN (wp_ret ?_)
 repeat (first | refine zM ?_ | refine zI ?_)
 refine bodyPost_ret (v := .bool be) (by simp [results, Tryz.results63, go_sem, *]) rfl ?_
 exact ⟨rfl, H3.out.2⟩
theorem checkX_2 {α : Type} {e0 e1 : α → Nat} {fa fs fm : α → α → α} {fi : α → α} {z u b : α} {tn : Value} (_C : Fd2 e0 e1 fa fs fm fi z) (x0 x1 y0 y1 : Nat) (cx : ∀ w, Mm w [(0, dtab)] → Calls Tryz.prog 107 #[V [x0, x1]] w (Rt w (.bool false))) (w : World) (hm : Mm w [(0, dtab)]) :
  Calls Tryz.prog 63 #[.agg (G2 tn (e0 u) (e1 u) (e0 b) (e1 b)).toArray, .agg (zV x0 x1 y0 y1 false).toArray] w (Rt w (.bool false)) := by
 have H0 : Hid (_ ∧ _) := ⟨hm, Below.refl w.heap.size w⟩
 clear hm
 have CX : Hid _ := cx
 clear cx
 go_enter Tryz.func63, Tryz.ntmps63
 refine wp_seq ?_
 refine zC 3 [.made (G2 tn (e0 u) (e1 u) (e0 b) (e1 b)) 101, .made (zV x0 x1 y0 y1 false) 104, .quiet (.bool false)] (sB H0) ?ho1 ?he1
 case ho1 => exact am (zW rfl rfl) (am (zW rfl rfl) (ar trivial))
 intro γ w1 l hM hl
 have H1 : Hid (Mm w1 ([(γ 0, G2 tn (e0 u) (e1 u) (e0 b) (e1 b)), (γ 1, zV x0 x1 y0 y1 false)] ++ _) ∧ _) := wB H0 hM hl [0, 1]
 have o1_0 := vB H0 hM hl 0
 have o1_1 := vB H0 hM hl 1
 clear hM hl l
 generalize γ 0 = γ1_0 at H1 o1_0 ⊢
 generalize γ 1 = γ1_1 at H1 o1_1 ⊢
 clear γ
 refine rN (wp_seq (wp_seq ?_))
 refine zB 2 [.quiet (PT γ1_1 24), .quiet (.bool false)] H1 ?ho2 ?he2
 case ho2 => exact ag (bC 1 Tryz.isAgg4 trivial)
 intro _ w2 H2
 clear H1
 refine rN (wp_cond_false rfl ?_)
 refine wp_skip (zA (wp_seq ?_))
 refine zP 46 [.quiet (PT γ1_0 0), .quiet (PT γ1_0 4), .quiet (.func (.func 107) #[] #[]), .quiet (PT γ1_1 0), .quiet (V [x0, x1]), .call (.bool false), .quiet (.bool false), .gone, .gone, .gone, .gone, .gone, .gone, .quiet (.bool false), .quiet (.bool false), .gone, .gone, .gone, .gone, .gone, .gone, .gone, .gone, .gone, .gone, .gone, .gone, .gone, .gone, .gone, .gone, .gone, .gone, .gone, .gone, .gone, .gone, .gone, .gone, .gone, .gone, .gone, .gone, .gone, .quiet (.bool false), .quiet (.bool false)] H2 ?ho3 ?he3 (hL := ?hL3)
 case hL3 => exact trivial
 case ho3 => exact ag (ag (bC 0 Tryz.isAgg96 (ag (bT 1 Tryz.isAgg40 Tryz.sizeOf40 (ac (fun w' h => ⟨107, #[V [x0, x1]], zL rfl call107 rfl (mpn rfl) rfl, CX.out w' (h.one 2 rfl)⟩) (ar (ak (fun γ => rfl) (ak (fun γ => rfl) (ak (fun γ => rfl) (ak (fun γ => rfl) (ak (fun γ => rfl) (ak (fun γ => rfl) (ag (ar (ak (fun γ => rfl) (ak (fun γ => rfl) (ak (fun γ => rfl) (ak (fun γ => rfl) (ak (fun γ => rfl) (ak (fun γ => rfl) (ak (fun γ => rfl) (ak (fun γ => rfl) (ak (fun γ => rfl) (ak (fun γ => rfl) (ak (fun γ => rfl) (ak (fun γ => rfl) (ak (fun γ => rfl) (ak (fun γ => rfl) (ak (fun γ => rfl) (ak (fun γ => rfl) (ak (fun γ => rfl) (ak (fun γ => rfl) (ak (fun γ => rfl) (ak (fun γ => rfl) (ak (fun γ => rfl) (ak (fun γ => rfl) (ak (fun γ => rfl) (ak (fun γ => rfl) (ak (fun γ => rfl) (ak (fun γ => rfl) (ak (fun γ => rfl) (ak (fun γ => rfl) (ak (fun γ => rfl) (ag (ar trivial)))))))))))))))))))))))))))))))))))))))))))))
 intro _ w3 H3
 clear H2
 refine rN (wp_ret ?_)
 repeat (first | refine zM ?_ | refine zI ?_)
 refine bodyPost_ret (v := .bool false) (by simp [results, Tryz.results63, go_sem, *]) rfl ?_
 exact ⟨rfl, H3.out.2⟩
theorem checkY_2 {α : Type} {e0 e1 : α → Nat} {fa fs fm : α → α → α} {fi : α → α} {z u b : α} {tn : Value} (_C : Fd2 e0 e1 fa fs fm fi z) (x0 x1 y0 y1 : Nat) (cx : ∀ w, Mm w [(0, dtab)] → Calls Tryz.prog 107 #[V [x0, x1]] w (Rt w (.bool true))) (cy : ∀ w, Mm w [(0, dtab)] → Calls Tryz.prog 107 #[V [y0, y1]] w (Rt w (.bool false))) (w : World) (hm : Mm w [(0, dtab)]) :
  Calls Tryz.prog 63 #[.agg (G2 tn (e0 u) (e1 u) (e0 b) (e1 b)).toArray, .agg (zV x0 x1 y0 y1 false).toArray] w (Rt w (.bool false)) := by
 have H0 : Hid (_ ∧ _) := ⟨hm, Below.refl w.heap.size w⟩
 clear hm
 have CX : Hid _ := cx
 clear cx
 have CY : Hid _ := cy
 clear cy
 go_enter Tryz.func63, Tryz.ntmps63
 refine wp_seq ?_
 refine zC 3 [.made (G2 tn (e0 u) (e1 u) (e0 b) (e1 b)) 101, .made (zV x0 x1 y0 y1 false) 104, .quiet (.bool false)] (sB H0) ?ho1 ?he1
 case ho1 => exact am (zW rfl rfl) (am (zW rfl rfl) (ar trivial))
 intro γ w1 l hM hl
 have H1 : Hid (Mm w1 ([(γ 0, G2 tn (e0 u) (e1 u) (e0 b) (e1 b)), (γ 1, zV x0 x1 y0 y1 false)] ++ _) ∧ _) := wB H0 hM hl [0, 1]
 have o1_0 := vB H0 hM hl 0
 have o1_1 := vB H0 hM hl 1
 clear hM hl l
 generalize γ 0 = γ1_0 at H1 o1_0 ⊢
 generalize γ 1 = γ1_1 at H1 o1_1 ⊢
 clear γ
 refine rN (wp_seq (wp_seq ?_))
 refine zB 2 [.quiet (PT γ1_1 24), .quiet (.bool false)] H1 ?ho2 ?he2
 case ho2 => exact ag (bC 1 Tryz.isAgg4 trivial)
 intro _ w2 H2
 clear H1
 refine rN (wp_cond_false rfl ?_)
 refine wp_skip (zA (wp_seq ?_))
 refine zP 46 [.quiet (PT γ1_0 0), .quiet (PT γ1_0 4), .quiet (.func (.func 107) #[] #[]), .quiet (PT γ1_1 0), .quiet (V [x0, x1]), .call (.bool true), .quiet (.bool true), .quiet (PT γ1_0 0), .quiet (PT γ1_0 4), .quiet (.func (.func 107) #[] #[]), .quiet (PT γ1_1 12), .quiet (V [y0, y1]), .call (.bool false), .quiet (.bool false), .quiet (.bool false), .gone, .gone, .gone, .gone, .gone, .gone, .gone, .gone, .gone, .gone, .gone, .gone, .gone, .gone, .gone, .gone, .gone, .gone, .gone, .gone, .gone, .gone, .gone, .gone, .gone, .gone, .gone, .gone, .gone, .quiet (.bool false), .quiet (.bool false)] H2 ?ho3 ?he3 (hL := ?hL3)
 case hL3 => exact trivial
 case ho3 => exact ag (ag (bC 0 Tryz.isAgg96 (ag (bT 1 Tryz.isAgg40 Tryz.sizeOf40 (ac (fun w' h => ⟨107, #[V [x0, x1]], zL rfl call107 rfl (mpn rfl) rfl, CX.out w' (h.one 2 rfl)⟩) (ar (ag (ag (bC 0 Tryz.isAgg96 (ag (bT 1 Tryz.isAgg40 Tryz.sizeOf40 (ac (fun w' h => ⟨107, #[V [y0, y1]], zL rfl call107 rfl (mpn rfl) rfl, CY.out w' (h.one 2 rfl)⟩) (ag (ar (ak (fun γ => rfl) (ak (fun γ => rfl) (ak (fun γ => rfl) (ak (fun γ => rfl) (ak (fun γ => rfl) (ak (fun γ => rfl) (ak (fun γ => rfl) (ak (fun γ => rfl) (ak (fun γ => rfl) (ak (fun γ => rfl) (ak (fun γ => rfl) (ak (fun γ => rfl) (ak (fun γ => rfl) (ak (fun γ => rfl) (ak (fun γ => rfl) (ak (fun γ => rfl) (ak (fun γ => rfl) (ak (fun γ => rfl) (ak (fun γ => rfl) (ak (fun γ => rfl) (ak (fun γ => rfl) (ak (fun γ => rfl) (ak (fun γ => rfl) (ak (fun γ => rfl) (ak (fun γ => rfl) (ak (fun γ => rfl) (ak (fun γ => rfl) (ak (fun γ => rfl) (ak (fun γ => rfl) (ag (ar trivial)))))))))))))))))))))))))))))))))))))))))))))
 intro _ w3 H3
 clear H2
 refine rN (wp_ret ?_)
 repeat (first | refine zM ?_ | refine zI ?_)
 refine bodyPost_ret (v := .bool false) (by simp [results, Tryz.results63, go_sem, *]) rfl ?_
 exact ⟨rfl, H3.out.2⟩
set_option maxHeartbeats 4000000 in
theorem checkB_2 {α : Type} {e0 e1 : α → Nat} {fa fs fm : α → α → α} {fi : α → α} {z u b : α} {tn : Value} (C : Fd2 e0 e1 fa fs fm fi z) (x y : α) (be : Bool) (cx : ∀ w, Mm w [(0, dtab)] → Calls Tryz.prog 107 #[V [e0 x, e1 x]] w (Rt w (.bool true))) (cy : ∀ w, Mm w [(0, dtab)] → Calls Tryz.prog 107 #[V [e0 y, e1 y]] w (Rt w (.bool true))) (he : ∀ w, (Op.equalIn 10000 40 (V [e0 (fm y y), e1 (fm y y)]) (V [e0 (fa (fm x (fm x x)) b), e1 (fa (fm x (fm x x)) b)])).run Tryz.prog w = .ok be w) (w : World) (hm : Mm w [(0, dtab)]) :
  Calls Tryz.prog 63 #[.agg (G2 tn (e0 u) (e1 u) (e0 b) (e1 b)).toArray, .agg (zV (e0 x) (e1 x) (e0 y) (e1 y) false).toArray] w (Rt w (.bool be)) := by
 have H0 : Hid (_ ∧ _) := ⟨hm, Below.refl w.heap.size w⟩
 clear hm
 have CX : Hid _ := cx
 clear cx
 have CY : Hid _ := cy
 clear cy
 have HE : Hid _ := he
 clear he
 go_enter Tryz.func63, Tryz.ntmps63
 refine wp_seq ?_
 refine zC 3 [.made (G2 tn (e0 u) (e1 u) (e0 b) (e1 b)) 101, .made (zV (e0 x) (e1 x) (e0 y) (e1 y) false) 104, .quiet (.bool false)] (sB H0) ?ho1 ?he1
 case ho1 => exact am (zW rfl rfl) (am (zW rfl rfl) (ar trivial))
 intro γ w1 l hM hl
 have H1 : Hid (Mm w1 ([(γ 0, G2 tn (e0 u) (e1 u) (e0 b) (e1 b)), (γ 1, zV (e0 x) (e1 x) (e0 y) (e1 y) false)] ++ _) ∧ _) := wB H0 hM hl [0, 1]
 have o1_0 := vB H0 hM hl 0
 have o1_1 := vB H0 hM hl 1
 clear hM hl l
 generalize γ 0 = γ1_0 at H1 o1_0 ⊢
 generalize γ 1 = γ1_1 at H1 o1_1 ⊢
 clear γ
 refine rN (wp_seq (wp_seq ?_))
 refine zB 2 [.quiet (PT γ1_1 24), .quiet (.bool false)] H1 ?ho2 ?he2
 case ho2 => exact ag (bC 1 Tryz.isAgg4 trivial)
 intro _ w2 H2
 clear H1
 refine rN (wp_cond_false rfl ?_)
 refine wp_skip (zA (wp_seq ?_))
 refine zP 46 [.quiet (PT γ1_0 0), .quiet (PT γ1_0 4), .quiet (.func (.func 107) #[] #[]), .quiet (PT γ1_1 0), .quiet (V [e0 x, e1 x]), .call (.bool true), .quiet (.bool true), .quiet (PT γ1_0 0), .quiet (PT γ1_0 4), .quiet (.func (.func 107) #[] #[]), .quiet (PT γ1_1 12), .quiet (V [e0 y, e1 y]), .call (.bool true), .quiet (.bool true), .quiet (.bool true), .quiet (PT γ1_0 0), .quiet (PT γ1_0 2), .quiet (.func (.func 105) #[] #[]), .quiet (PT γ1_1 12), .quiet (V [e0 y, e1 y]), .quiet (PT γ1_1 12), .quiet (V [e0 y, e1 y]), .call (V [e0 (fm y y), e1 (fm y y)]), .quiet (PT γ1_0 0), .quiet (PT γ1_0 0), .quiet (.func (.func 103) #[] #[]), .quiet (PT γ1_0 0), .quiet (PT γ1_0 2), .quiet (.func (.func 105) #[] #[]), .quiet (PT γ1_1 0), .quiet (V [e0 x, e1 x]), .quiet (PT γ1_0 0), .quiet (PT γ1_0 2), .quiet (.func (.func 105) #[] #[]), .quiet (PT γ1_1 0), .quiet (V [e0 x, e1 x]), .quiet (PT γ1_1 0), .quiet (V [e0 x, e1 x]), .call (V [e0 (fm x x), e1 (fm x x)]), .call (V [e0 (fm x (fm x x)), e1 (fm x (fm x x))]), .quiet (PT γ1_0 17), .quiet (V [e0 b, e1 b]), .call (V [e0 (fa (fm x (fm x x)) b), e1 (fa (fm x (fm x x)) b)]), .quiet (.bool be), .quiet (.bool be), .quiet (.bool be)] H2 ?ho3 ?he3 (hL := ?hL3)
 case hL3 => exact trivial
 case ho3 => exact ag (ag (bC 0 Tryz.isAgg96 (ag (bT 1 Tryz.isAgg40 Tryz.sizeOf40 (ac (fun w' h => ⟨107, #[V [e0 x, e1 x]], zL rfl call107 rfl (mpn rfl) rfl, CX.out w' (h.one 2 rfl)⟩) (ar (ag (ag (bC 0 Tryz.isAgg96 (ag (bT 1 Tryz.isAgg40 Tryz.sizeOf40 (ac (fun w' h => ⟨107, #[V [e0 y, e1 y]], zL rfl call107 rfl (mpn rfl) rfl, CY.out w' (h.one 2 rfl)⟩) (ag (ar (ag (ag (bC 0 Tryz.isAgg93 (ag (bT 1 Tryz.isAgg40 Tryz.sizeOf40 (ag (bT 1 Tryz.isAgg40 Tryz.sizeOf40 (ac (fun w' h => ⟨105, #[V [e0 y, e1 y], V [e0 y, e1 y]], zL rfl call105 rfl (mpn rfl) rfl, C.cm _ _ w' (h.one 2 rfl)⟩) (ag (ag (bC 0 Tryz.isAgg93 (ag (ag (bC 0 Tryz.isAgg93 (ag (bT 1 Tryz.isAgg40 Tryz.sizeOf40 (ag (ag (bC 0 Tryz.isAgg93 (ag (bT 1 Tryz.isAgg40 Tryz.sizeOf40 (ag (bT 1 Tryz.isAgg40 Tryz.sizeOf40 (ac (fun w' h => ⟨105, #[V [e0 x, e1 x], V [e0 x, e1 x]], zL rfl call105 rfl (mpn rfl) rfl, C.cm _ _ w' (h.one 2 rfl)⟩) (ac (fun w' h => ⟨105, #[V [e0 x, e1 x], V [e0 (fm x x), e1 (fm x x)]], zL rfl call105 rfl (mpn rfl) rfl, C.cm _ _ w' (h.one 2 rfl)⟩) (ag (bT 0 Tryz.isAgg40 Tryz.sizeOf40 (ac (fun w' h => ⟨103, #[V [e0 (fm x (fm x x)), e1 (fm x (fm x x))], V [e0 b, e1 b]], zL rfl call103 rfl (mpn rfl) rfl, C.ca _ _ w' (h.one 2 rfl)⟩) (ak (fun γ => ⟨rfl, fun w' _ => exec_eqT40 HE.out rfl rfl rfl⟩) (ag (ar trivial)))))))))))))))))))))))))))))))))))))))))))))
 intro _ w3 H3
 clear H2
 refine rN (wp_ret ?_)
 repeat (first | refine zM ?_ | refine zI ?_)
 refine bodyPost_ret (v := .bool be) (by simp [results, Tryz.results63, go_sem, *]) rfl ?_
 exact ⟨rfl, H3.out.2⟩
theorem joinY_2 {α : Type} {e0 e1 : α → Nat} {fa fs fm : α → α → α} {fi : α → α} {z u b : α} {tn : Value} (_C : Fd2 e0 e1 fa fs fm fi z) (x0 x1 y0 y1 v0 v1 s0 s1 : Nat) (zb zc zr : Bool) (a1 a2 a3 b1 b2 b3 t1 t2 t3 : α) (r0 r1 k0 k1 : Nat) (ck : ∀ w, Mm w [(0, dtab)] → Calls Tryz.prog 63 #[.agg (G2 tn (e0 u) (e1 u) (e0 b) (e1 b)).toArray, .agg (zV x0 x1 y0 y1 zb).toArray] w (Rt w (.bool true))) (cl : ∀ w, Mm w [(0, dtab)] → Calls Tryz.prog 63 #[.agg (G2 tn (e0 u) (e1 u) (e0 b) (e1 b)).toArray, .agg (zV v0 v1 s0 s1 zc).toArray] w (Rt w (.bool true))) (cp : ∀ w, Mm w [(0, dtab)] → Calls Tryz.prog 110 #[.agg (G2 tn (e0 u) (e1 u) (e0 b) (e1 b)).toArray, .agg (zV x0 x1 y0 y1 zb).toArray] w (Rt w (V [e0 a1, e1 a1, e0 a2, e1 a2, e0 a3, e1 a3]))) (cq : ∀ w, Mm w [(0, dtab)] → Calls Tryz.prog 110 #[.agg (G2 tn (e0 u) (e1 u) (e0 b) (e1 b)).toArray, .agg (zV v0 v1 s0 s1 zc).toArray] w (Rt w (V [e0 b1, e1 b1, e0 b2, e1 b2, e0 b3, e1 b3]))) (ct : ∀ w, Mm w [(0, dtab)] → Calls Tryz.prog 114 #[.agg (G2 tn (e0 u) (e1 u) (e0 b) (e1 b)).toArray, V [e0 a1, e1 a1, e0 a2, e1 a2, e0 a3, e1 a3], V [e0 b1, e1 b1, e0 b2, e1 b2, e0 b3, e1 b3]] w (Rt w (V [e0 t1, e1 t1, e0 t2, e1 t2, e0 t3, e1 t3]))) (cw : ∀ w, Mm w [(0, dtab)] → Calls Tryz.prog 113 #[.agg (G2 tn (e0 u) (e1 u) (e0 b) (e1 b)).toArray, V [e0 t1, e1 t1, e0 t2, e1 t2, e0 t3, e1 t3]] w (Rt w (.agg (zV r0 r1 k0 k1 zr).toArray))) (w : World) (hm : Mm w [(0, dtab)]) :
  Calls Tryz.prog 66 #[.agg (G2 tn (e0 u) (e1 u) (e0 b) (e1 b)).toArray, .agg (zV x0 x1 y0 y1 zb).toArray, .agg (zV v0 v1 s0 s1 zc).toArray] w (Rt w (.tuple #[.agg (zV r0 r1 k0 k1 zr).toArray, .int .i64 0])) := by
 have H0 : Hid (_ ∧ _) := ⟨hm, Below.refl w.heap.size w⟩
 clear hm
 have CK : Hid _ := ck
 clear ck
 have CL : Hid _ := cl
 clear cl
 have CP : Hid _ := cp
 clear cp
 have CQ : Hid _ := cq
 clear cq
 have CT : Hid _ := ct
 clear ct
 have CW : Hid _ := cw
 clear cw
 go_enter Tryz.func66, Tryz.ntmps66
 refine wp_seq ?_
 refine zC 5 [.made (G2 tn (e0 u) (e1 u) (e0 b) (e1 b)) 101, .made (zV x0 x1 y0 y1 zb) 104, .made (zV v0 v1 s0 s1 zc) 104, .made (zV 0 0 0 0 false) 104, .quiet (.int .i64 0)] (sB H0) ?ho1 ?he1
 case ho1 => exact am (zW rfl rfl) (am (zW rfl rfl) (am (zW rfl rfl) (am (ex_madePE rfl) (ar trivial))))
 intro γ w1 l hM hl
 have H1 : Hid (Mm w1 ([(γ 0, G2 tn (e0 u) (e1 u) (e0 b) (e1 b)), (γ 1, zV x0 x1 y0 y1 zb), (γ 2, zV v0 v1 s0 s1 zc), (γ 3, zV 0 0 0 0 false)] ++ _) ∧ _) := wB H0 hM hl [0, 1, 2, 3]
 have o1_0 := vB H0 hM hl 0
 have o1_1 := vB H0 hM hl 1
 have o1_2 := vB H0 hM hl 2
 have o1_3 := vB H0 hM hl 3
 clear hM hl l
 generalize γ 0 = γ1_0 at H1 o1_0 ⊢
 generalize γ 1 = γ1_1 at H1 o1_1 ⊢
 generalize γ 2 = γ1_2 at H1 o1_2 ⊢
 generalize γ 3 = γ1_3 at H1 o1_3 ⊢
 clear γ
 refine rN (wp_seq (wp_seq ?_))
 refine zB 10 [.quiet (.agg (G2 tn (e0 u) (e1 u) (e0 b) (e1 b)).toArray), .quiet (.agg (zV x0 x1 y0 y1 zb).toArray), .call (.bool true), .quiet (.bool false), .quiet (.bool false), .quiet (.agg (G2 tn (e0 u) (e1 u) (e0 b) (e1 b)).toArray), .quiet (.agg (zV v0 v1 s0 s1 zc).toArray), .call (.bool true), .quiet (.bool false), .quiet (.bool false)] H1 ?ho2 ?he2
 case ho2 => exact bT 0 Tryz.isAgg101 Tryz.sizeOf101 (bT 1 Tryz.isAgg104 Tryz.sizeOf104 (ac (fun w' h => eC call63 (CK.out w' (h.one 4 rfl))) (ag (ar (bT 0 Tryz.isAgg101 Tryz.sizeOf101 (bT 2 Tryz.isAgg104 Tryz.sizeOf104 (ac (fun w' h => eC call63 (CL.out w' (h.one 4 rfl))) (ag (ag trivial)))))))))
 intro _ w2 H2
 clear H1
 refine rN (wp_cond_false rfl ?_)
 refine wp_skip (zA (wp_seq ?_))
 refine zP 10 [.quiet (.agg (G2 tn (e0 u) (e1 u) (e0 b) (e1 b)).toArray), .quiet (.agg (G2 tn (e0 u) (e1 u) (e0 b) (e1 b)).toArray), .quiet (.agg (G2 tn (e0 u) (e1 u) (e0 b) (e1 b)).toArray), .quiet (.agg (zV x0 x1 y0 y1 zb).toArray), .call (V [e0 a1, e1 a1, e0 a2, e1 a2, e0 a3, e1 a3]), .quiet (.agg (G2 tn (e0 u) (e1 u) (e0 b) (e1 b)).toArray), .quiet (.agg (zV v0 v1 s0 s1 zc).toArray), .call (V [e0 b1, e1 b1, e0 b2, e1 b2, e0 b3, e1 b3]), .call (V [e0 t1, e1 t1, e0 t2, e1 t2, e0 t3, e1 t3]), .call (.agg (zV r0 r1 k0 k1 zr).toArray)] H2 ?ho3 ?he3
 case ho3 => exact bT 0 Tryz.isAgg101 Tryz.sizeOf101 (bT 0 Tryz.isAgg101 Tryz.sizeOf101 (bT 0 Tryz.isAgg101 Tryz.sizeOf101 (bT 1 Tryz.isAgg104 Tryz.sizeOf104 (ac (fun w' h => eC call110 (CP.out w' (h.one 4 rfl))) (bT 0 Tryz.isAgg101 Tryz.sizeOf101 (bT 2 Tryz.isAgg104 Tryz.sizeOf104 (ac (fun w' h => eC call110 (CQ.out w' (h.one 4 rfl))) (ac (fun w' h => eC call114 (CT.out w' (h.one 4 rfl))) (ac (fun w' h => eC call113 (CW.out w' (h.one 4 rfl))) trivial)))))))))
 intro _ w3 H3
 clear H2
 refine zF (l := [10, 11]) rfl ?_
 refine sG rfl (fun h => ex_storeT (vs := zV r0 r1 k0 k1 zr) h 3 rfl rfl rfl rfl Tryz.sizeOf104 rfl (Nat.le_of_ble_eq_true rfl)) 3 [_, _, _, (_, zV r0 r1 k0 k1 zr), _] H3 o1_3 fun w4 H4 => ?_
 clear H3
 refine zG (d := 7) rfl rfl rfl rfl ?_
 simp only [Act.put, sa, sz, ss]
 refine zE (zA (wp_ret ?_))
 repeat (first | refine zM ?_ | refine zI ?_)
 have hf0 := var_T H4.out.1 3 rfl Tryz.isAgg104 Tryz.sizeOf104 rfl
 refine bodyPost_ret (v := .tuple #[.agg (zV r0 r1 k0 k1 zr).toArray, .int .i64 0]) (by simp [results, Tryz.results66, asAddr, Act.eval, hf0]) rfl ?_
 exact ⟨rfl, H4.out.2⟩
/-! Elements of twelve parts over the integers: number j of them is a j; w to the power 6 is 1 + i. -/
def m0 (a b : Nat → Int) (i j : Nat) : Int := a (2 * i) * b (2 * j) - a (2 * i + 1) * b (2 * j + 1)
def m1 (a b : Nat → Int) (i j : Nat) : Int := a (2 * i) * b (2 * j + 1) + a (2 * i + 1) * b (2 * j)
end Rg
end Go.Proofs.YtaomlijondiaoaaGreatDoor
end
section
namespace Go.Proofs.YtaomlijondiaoaaGreatDoor
open Go.RowKit
namespace Rg
open NT
/-! What p divides. -/
def Dv (x : Int) : Prop := (pB : Int) ∣ x
theorem pz_iff (x y : Int) : pz x = pz y ↔ Dv (x - y) := by
 have hx := pz_cast x
 have hy := pz_cast y
 constructor
 ·intro h
  exact Int.dvd_of_emod_eq_zero (Int.emod_eq_emod_iff_emod_sub_eq_zero.1 (by rw [← hx, ← hy, h]))
 ·intro h
  exact pz_congr (Int.emod_eq_emod_iff_emod_sub_eq_zero.2 (Int.emod_eq_zero_of_dvd h))
theorem pz_zero_iff (x : Int) : pz x = 0 ↔ Dv x := by
 rw [← pz_zero, pz_iff, Int.sub_zero]
theorem Dv.add {x y : Int} (h : Dv x) (k : Dv y) : Dv (x + y) := Int.dvd_add h k
theorem Dv.sub {x y : Int} (h : Dv x) (k : Dv y) : Dv (x - y) := Int.dvd_sub h k
theorem Dv.mul {x : Int} (h : Dv x) (y : Int) : Dv (y * x) := Int.dvd_trans h (Int.dvd_mul_left y x)
theorem Dv.mulr {x : Int} (h : Dv x) (y : Int) : Dv (x * y) := Int.dvd_trans h (Int.dvd_mul_right x y)
theorem Dv.of {x y : Int} (h : Dv x) (e : x = y) : Dv y := e ▸ h
theorem dv_zero : Dv 0 := Int.dvd_zero _
theorem pB_prm : Prm pB := prm_p
theorem dv_nat (x : Int) : Dv x ↔ pB ∣ x.natAbs := Int.ofNat_dvd_left
theorem Dv.prime {x y : Int} (h : Dv (x * y)) : Dv x ∨ Dv y := by
 rw [dv_nat, Int.natAbs_mul] at h
 rw [dv_nat, dv_nat]
 exact pB_prm.mul h
theorem unit_pow {x : Int} (h : ¬ Dv x) : pz x ^ (pB - 1) % pB = 1 :=
 fermat1 pB_prm (pz x) (fun hd => h (by
  rw [← pz_zero_iff]
  obtain ⟨k, hk⟩ := hd
  have := pz_lt x
  rcases Nat.eq_zero_or_pos k with h0 | h0
  ·rw [hk, h0, Nat.mul_zero]
  ·have := Nat.mul_le_mul (Nat.le_refl pB) h0
   omega))
theorem pow_dv {x : Int} (h : Dv x) : ∀ n, 0 < n → pz x ^ n % pB = 0 := fun n hn => by
 rw [(pz_zero_iff x).2 h, Nat.zero_pow hn, Nat.zero_mod]
def eP : Nat := 1000602388805416848354447456433976039139220704984751971333014534031007912622709466110671907282253916009473568139946
theorem pB_four : pB - 1 = 2 * (2 * eP + 1) := by decide +kernel
theorem pz_mod (x y : Int) (h : Dv (x - y)) : pz x = pz y := (pz_iff x y).2 h
theorem pz_mulN (x y : Int) : pz (x * y) = pz x * pz y % pB := by
 rw [← pz_mul, ← Int.natCast_mul, pz_nat]
theorem pz_addN (x y : Int) : pz (x + y) = (pz x + pz y) % pB := by
 rw [← pz_add, ← Int.natCast_add, pz_nat]
theorem norm0 {x y : Int} (h : Dv (x * x + y * y)) : Dv x ∧ Dv y := by
 have hp := pB_prm
 by_cases hx : Dv x
 ·refine ⟨hx, ?_⟩
  have h2 : Dv (y * y) := (h.sub (hx.mul x)).of (by omega)
  rcases h2.prime with h3 | h3 <;> exact h3
 ·by_cases hy : Dv y
  ·have h2 : Dv (x * x) := (h.sub (hy.mul y)).of (by omega)
   rcases h2.prime with h3 | h3 <;> exact absurd h3 hx
  ·exfalso
   have ux := unit_pow hx
   have uy := unit_pow hy
   have e : (pz x * pz x + pz y * pz y) % pB = 0 := by
    have h1 := (pz_zero_iff _).2 h
    rw [pz_addN, pz_mulN, pz_mulN, ← Nat.add_mod] at h1
    exact h1
   have ev := even_pow e eP
   rw [pB_four, Nat.pow_mul, Nat.pow_succ, Nat.pow_two] at ux uy
   rw [Nat.mul_mod, ev, ← Nat.mul_mod] at ux
   have s : ((pz y * pz y) ^ (2 * eP) * (pz x * pz x) + (pz y * pz y) ^ (2 * eP) * (pz y * pz y)) % pB = 0 := by
    rw [← Nat.mul_add, Nat.mul_mod, e, Nat.mul_zero, Nat.zero_mod]
   rw [Nat.add_mod, ux, uy] at s
   revert s
   decide +kernel
def eT : Nat := 1334136518407222464472596608578634718852294273313002628444019378708010550163612621480895876376338554679298090853262
theorem pB_three : pB - 1 = 3 * eT := by decide +kernel
theorem two_third : 2 ^ eT % pB = 793479390729215512621379701633421447060886740281060493010456487427281649075476305620758731620350 := pm_eq (by decide +kernel)
theorem two_cb {m k : Int} (h : Dv (m * (m * m) - 2 * (k * (k * k)))) : Dv k := by
 by_cases hk : Dv k
 ·exact hk
 ·exfalso
  have uk := unit_pow hk
  have e : pz m * (pz m * pz m) % pB = 2 * (pz k * (pz k * pz k)) % pB := by
   have h1 := pz_mod _ _ h
   rw [pz_mulN, pz_mulN, pz_mulN, pz_mulN, pz_mulN, Nat.mul_mod_mod, Nat.mul_mod_mod] at h1
   rw [h1, show pz 2 = 2 by decide +kernel, Nat.mul_mod 2, Nat.mul_mod_mod (pz k), ← Nat.mul_mod 2]
  have c3 : ∀ x : Nat, x * (x * x) = x ^ 3 := fun x => by rw [Nat.pow_succ, Nat.pow_two, Nat.mul_assoc]
  rw [c3, c3] at e
  have e2 : (pz m ^ 3) ^ eT % pB = (2 * (pz k ^ 3)) ^ eT % pB := by rw [Nat.pow_mod, e, ← Nat.pow_mod]
  rw [Nat.mul_pow 2, Nat.mul_mod, two_third, ← Nat.pow_mul, ← Nat.pow_mul, ← pB_three, uk] at e2
  by_cases hm : Dv m
  ·rw [pow_dv hm _ (by decide +kernel)] at e2
   revert e2
   decide +kernel
  ·rw [unit_pow hm] at e2
   revert e2
   decide +kernel
/-! Pairs. -/
abbrev Z2 := Int × Int
def cm (a b : Z2) : Z2 := (a.1 * b.1 - a.2 * b.2, a.1 * b.2 + a.2 * b.1)
def ca (a b : Z2) : Z2 := (a.1 + b.1, a.2 + b.2)
def cs (a b : Z2) : Z2 := (a.1 - b.1, a.2 - b.2)
def cn (a : Z2) : Int := a.1 * a.1 + a.2 * a.2
def xi : Z2 := (1, 1)
def O2 (a : Z2) : Prop := Dv a.1 ∧ Dv a.2
theorem O2.mul {a : Z2} (h : O2 a) (b : Z2) : O2 (cm b a) := ⟨(h.1.mul b.1).sub (h.2.mul b.2), (h.2.mul b.1).add (h.1.mul b.2)⟩
theorem O2.add {a b : Z2} (h : O2 a) (k : O2 b) : O2 (ca a b) := ⟨h.1.add k.1, h.2.add k.2⟩
theorem O2.sub {a b : Z2} (h : O2 a) (k : O2 b) : O2 (cs a b) := ⟨h.1.sub k.1, h.2.sub k.2⟩
theorem O2.of {a b : Z2} (h : O2 a) (e : a = b) : O2 b := e ▸ h
theorem O2.cn {a : Z2} (h : O2 a) : Dv (cn a) := (h.1.mul a.1).add (h.2.mul a.2)
/-! Three parts: v v v is 1 + i. -/
def d0 (x y z : Z2) : Z2 := cs (cm x x) (cm xi (cm y z))
def d1 (x y z : Z2) : Z2 := cs (cm xi (cm z z)) (cm x y)
def d2 (x y z : Z2) : Z2 := cs (cm y y) (cm x z)
end Rg
end Go.Proofs.YtaomlijondiaoaaGreatDoor
end
section
namespace Go.Proofs.YtaomlijondiaoaaGreatDoor
namespace EC
structure Rng (α : Type) where
 add : α → α → α
 mul : α → α → α
 zero : α
 one : α
 neg : α → α
 add_comm : ∀ a b, add a b = add b a
 add_assoc : ∀ a b c, add (add a b) c = add a (add b c)
 zero_add : ∀ a, add zero a = a
 neg_add : ∀ a, add (neg a) a = zero
 mul_comm : ∀ a b, mul a b = mul b a
 mul_assoc : ∀ a b c, mul (mul a b) c = mul a (mul b c)
 one_mul : ∀ a, mul one a = a
 mul_add : ∀ a b c, mul a (add b c) = add (mul a b) (mul a c)
section
variable {α : Type} (R : Rng α)
theorem Rng.add_zero (a : α) : R.add a R.zero = a := by rw [R.add_comm, R.zero_add]
theorem Rng.add_neg (a : α) : R.add a (R.neg a) = R.zero := by rw [R.add_comm, R.neg_add]
theorem Rng.left_comm (a b c : α) : R.add a (R.add b c) = R.add b (R.add a c) := by rw [← R.add_assoc, R.add_comm a b, R.add_assoc]
theorem Rng.cancel {a b c : α} (h : R.add a b = R.add a c) : b = c := by
 have h2 := congrArg (R.add (R.neg a)) h
 rw [← R.add_assoc, ← R.add_assoc, R.neg_add, R.zero_add, R.zero_add] at h2
 exact h2
theorem Rng.mul_zero (a : α) : R.mul a R.zero = R.zero := by
 refine R.cancel (a := R.mul a R.zero) ?_
 rw [← R.mul_add, R.zero_add, R.add_zero]
theorem Rng.zero_mul (a : α) : R.mul R.zero a = R.zero := by rw [R.mul_comm, R.mul_zero]
theorem Rng.add_mul (a b c : α) : R.mul (R.add a b) c = R.add (R.mul a c) (R.mul b c) := by
 rw [R.mul_comm, R.mul_add, R.mul_comm c, R.mul_comm c]
theorem Rng.neg_eq {a b : α} (h : R.add a b = R.zero) : b = R.neg a := by
 refine R.cancel (a := a) ?_
 rw [h, R.add_neg]
theorem Rng.mul_neg (a b : α) : R.mul a (R.neg b) = R.neg (R.mul a b) := by
 refine R.neg_eq ?_
 rw [← R.mul_add, R.add_neg, R.mul_zero]
theorem Rng.neg_zero : R.neg R.zero = R.zero := by
 have h := R.add_neg R.zero
 rw [R.zero_add] at h
 exact h
theorem Rng.neg_add_rev (a b : α) : R.neg (R.add a b) = R.add (R.neg a) (R.neg b) := by
 symm
 refine R.neg_eq ?_
 rw [R.add_assoc, R.left_comm b, ← R.add_assoc, R.add_neg, R.zero_add, R.add_neg]
theorem Rng.four (a b c d : α) : R.add (R.add a b) (R.add c d) = R.add (R.add a c) (R.add b d) := by
 rw [R.add_assoc, R.left_comm b, ← R.add_assoc]
theorem Rng.mul_left_comm (a b c : α) : R.mul a (R.mul b c) = R.mul b (R.mul a c) := by rw [← R.mul_assoc, R.mul_comm a b, R.mul_assoc]
end
structure Ops (β : Type _) where
 add : β → β → β
 mul : β → β → β
 zero : β
 neg : β → β
 isz : β → Bool
structure Sound {α β : Type} (R : Rng α) (O : Ops β) (ev : β → α) : Prop where
 add : ∀ a b, ev (O.add a b) = R.add (ev a) (ev b)
 mul : ∀ a b, ev (O.mul a b) = R.mul (ev a) (ev b)
 zero : ev O.zero = R.zero
 neg : ∀ a, ev (O.neg a) = R.neg (ev a)
 isz : ∀ a, O.isz a = true → ev a = R.zero
/-! Lists of coefficients: the lowest first. -/
section
variable {α β : Type} (R : Rng α) (O : Ops β)
def ladd : List β → List β → List β
 | [], q => q
 | a :: p, [] => a :: p
 | a :: p, b :: q => O.add a b :: ladd p q
def lsc (c : β) (q : List β) : List β := q.map (O.mul c)
def lmul : List β → List β → List β
 | [], _ => []
 | a :: p, q => if O.isz a then O.zero :: lmul p q else ladd O (lsc O a q) (O.zero :: lmul p q)
def lops : Ops (List β) where
 add := ladd O
 mul := lmul O
 zero := []
 neg := fun p => p.map O.neg
 isz := fun p => p.all O.isz
def lev (ev : β → α) (x : α) : List β → α
 | [] => R.zero
 | a :: p => R.add (ev a) (R.mul x (lev ev x p))
variable {R O} {ev : β → α}
theorem lev_add (S : Sound R O ev) (x : α) : ∀ p q, lev R ev x (ladd O p q) = R.add (lev R ev x p) (lev R ev x q)
 | [], q => (R.zero_add _).symm
 | a :: p, [] => (R.add_zero _).symm
 | a :: p, b :: q => by
  show R.add (ev (O.add a b)) (R.mul x (lev R ev x (ladd O p q))) = R.add (R.add (ev a) (R.mul x (lev R ev x p))) (R.add (ev b) (R.mul x (lev R ev x q)))
  rw [lev_add S x p q, S.add, R.mul_add, R.four]
theorem lev_sc (S : Sound R O ev) (x : α) (c : β) : ∀ q, lev R ev x (lsc O c q) = R.mul (ev c) (lev R ev x q)
 | [] => (R.mul_zero _).symm
 | b :: q => by
  show R.add (ev (O.mul c b)) (R.mul x (lev R ev x (lsc O c q))) = R.mul (ev c) (R.add (ev b) (R.mul x (lev R ev x q)))
  rw [lev_sc S x c q, S.mul, R.mul_add, R.mul_left_comm x]
theorem lev_mul (S : Sound R O ev) (x : α) : ∀ p q, lev R ev x (lmul O p q) = R.mul (lev R ev x p) (lev R ev x q)
 | [], q => (R.zero_mul _).symm
 | a :: p, q => by
  have hz : lev R ev x (O.zero :: lmul O p q) = R.mul x (R.mul (lev R ev x p) (lev R ev x q)) := by
   show R.add (ev O.zero) (R.mul x (lev R ev x (lmul O p q))) = _
   rw [S.zero, R.zero_add, lev_mul S x p q]
  have hg : R.mul (lev R ev x (a :: p)) (lev R ev x q) = R.add (R.mul (ev a) (lev R ev x q)) (R.mul x (R.mul (lev R ev x p) (lev R ev x q))) := by
   show R.mul (R.add (ev a) (R.mul x (lev R ev x p))) (lev R ev x q) = _
   rw [R.add_mul, R.mul_assoc]
  rw [hg]
  unfold lmul
  split
  ·next h =>
   rw [S.isz a h, R.zero_mul, R.zero_add, hz]
  ·rw [lev_add S x, lev_sc S x, hz]
theorem lops_sound (S : Sound R O ev) (x : α) : Sound R (lops O) (lev R ev x) where
 add := lev_add S x
 mul := lev_mul S x
 zero := rfl
 neg := fun p => by
  show lev R ev x (p.map O.neg) = _
  induction p with
  | nil => exact R.neg_zero.symm
  | cons a p ih =>
   show R.add (ev (O.neg a)) (R.mul x (lev R ev x (p.map O.neg))) = R.neg (R.add (ev a) (R.mul x (lev R ev x p)))
   rw [ih, S.neg, R.mul_neg, R.neg_add_rev]
 isz := fun p h => by
  have h' : p.all O.isz = true := h
  clear h
  induction p with
  | nil => rfl
  | cons a p ih =>
   simp only [List.all_cons, Bool.and_eq_true] at h'
   show R.add (ev a) (R.mul x (lev R ev x p)) = R.zero
   rw [S.isz a h'.1, ih h'.2, R.mul_zero, R.zero_add]
end
/-! Roots: u + v y, y y being d. -/
section
variable {α β : Type} (R : Rng α) (O : Ops β)
def xops (d : β) : Ops (β × β) where
 add := fun a b => (O.add a.1 b.1, O.add a.2 b.2)
 mul := fun a b => (O.add (O.mul a.1 b.1) (O.mul d (O.mul a.2 b.2)), O.add (O.mul a.1 b.2) (O.mul a.2 b.1))
 zero := (O.zero, O.zero)
 neg := fun a => (O.neg a.1, O.neg a.2)
 isz := fun a => O.isz a.1 && O.isz a.2
def xev (ev : β → α) (y : α) (a : β × β) : α := R.add (ev a.1) (R.mul y (ev a.2))
theorem xops_sound {R} {O} {ev : β → α} (S : Sound R O ev) {d : β} {y : α} (hy : R.mul y y = ev d) : Sound R (xops O d) (xev R ev y) where
 add := fun a b => by
  show R.add (ev (O.add a.1 b.1)) (R.mul y (ev (O.add a.2 b.2))) = R.add (R.add (ev a.1) (R.mul y (ev a.2))) (R.add (ev b.1) (R.mul y (ev b.2)))
  rw [S.add, S.add, R.mul_add, R.four]
 mul := fun a b => by
  show R.add (ev (O.add (O.mul a.1 b.1) (O.mul d (O.mul a.2 b.2)))) (R.mul y (ev (O.add (O.mul a.1 b.2) (O.mul a.2 b.1)))) = R.mul (R.add (ev a.1) (R.mul y (ev a.2))) (R.add (ev b.1) (R.mul y (ev b.2)))
  rw [S.add, S.add, S.mul, S.mul, S.mul, S.mul, S.mul, ← hy]
  rw [R.add_mul, R.mul_add, R.mul_add, R.mul_add]
  have e1 : R.mul (R.mul y (ev a.2)) (R.mul y (ev b.2)) = R.mul (R.mul y y) (R.mul (ev a.2) (ev b.2)) := by
   rw [R.mul_assoc, R.mul_assoc, R.mul_left_comm (ev a.2)]
  have e2 : R.mul (R.mul y (ev a.2)) (ev b.1) = R.mul y (R.mul (ev a.2) (ev b.1)) := R.mul_assoc _ _ _
  have e3 : R.mul (ev a.1) (R.mul y (ev b.2)) = R.mul y (R.mul (ev a.1) (ev b.2)) := R.mul_left_comm _ _ _
  rw [e1, e2, e3]
  rw [R.add_comm (R.mul y (R.mul (ev a.2) (ev b.1))), R.four]
 zero := by
  show R.add (ev O.zero) (R.mul y (ev O.zero)) = R.zero
  rw [S.zero, R.mul_zero, R.zero_add]
 neg := fun a => by
  show R.add (ev (O.neg a.1)) (R.mul y (ev (O.neg a.2))) = R.neg (R.add (ev a.1) (R.mul y (ev a.2)))
  rw [S.neg, S.neg, R.mul_neg, R.neg_add_rev]
 isz := fun a h => by
  have h' : (O.isz a.1 && O.isz a.2) = true := h
  simp only [Bool.and_eq_true] at h'
  show R.add (ev a.1) (R.mul y (ev a.2)) = R.zero
  rw [S.isz _ h'.1, S.isz _ h'.2, R.mul_zero, R.zero_add]
end
/-! Integers. -/
section
variable {α : Type} (R : Rng α)
def nc : Nat → α
 | 0 => R.zero
 | n + 1 => R.add R.one (nc n)
def ic : Int → α
 | .ofNat n => nc R n
 | .negSucc n => R.neg (nc R (n + 1))
theorem nc_add (m : Nat) : ∀ n, nc R (n + m) = R.add (nc R n) (nc R m)
 | 0 => by rw [Nat.zero_add]; exact (R.zero_add _).symm
 | n + 1 => by
  rw [Nat.succ_add]
  show R.add R.one (nc R (n + m)) = R.add (R.add R.one (nc R n)) (nc R m)
  rw [nc_add m n, R.add_assoc]
theorem nc_mul (m : Nat) : ∀ n, nc R (n * m) = R.mul (nc R n) (nc R m)
 | 0 => by rw [Nat.zero_mul]; exact (R.zero_mul _).symm
 | n + 1 => by
  rw [Nat.succ_mul, nc_add, nc_mul m n]
  show _ = R.mul (R.add R.one (nc R n)) (nc R m)
  rw [R.add_mul, R.one_mul, R.add_comm]
theorem ic_sub (m n : Nat) : ic R ((m : Int) - (n : Int)) = R.add (nc R m) (R.neg (nc R n)) := by
 rcases Nat.le_total n m with h | h
 ·obtain ⟨k, rfl⟩ := Nat.exists_eq_add_of_le h
  rw [show ((n + k : Nat) : Int) - (n : Int) = ((k : Nat) : Int) by omega]
  show nc R k = _
  rw [nc_add, R.add_comm (nc R n), R.add_assoc, R.add_neg, R.add_zero]
 ·obtain ⟨k, rfl⟩ := Nat.exists_eq_add_of_le h
  rw [show (m : Int) - ((m + k : Nat) : Int) = -((k : Nat) : Int) by omega]
  have e : ic R (-((k : Nat) : Int)) = R.neg (nc R k) := by
   cases k with
   | zero => exact R.neg_zero.symm
   | succ k => rfl
  rw [e, nc_add, R.neg_add_rev, ← R.add_assoc, R.add_neg, R.zero_add]
theorem int_sub (a : Int) : ∃ m n : Nat, a = (m : Int) - (n : Int) := by
 cases a with
 | ofNat n => exact ⟨n, 0, by simp⟩
 | negSucc n => exact ⟨0, n + 1, by omega⟩
theorem Rng.neg_neg (a : α) : R.neg (R.neg a) = a := (R.neg_eq (R.neg_add a)).symm
theorem ic_add (a b : Int) : ic R (a + b) = R.add (ic R a) (ic R b) := by
 obtain ⟨m, n, rfl⟩ := int_sub a
 obtain ⟨k, l, rfl⟩ := int_sub b
 rw [show (m : Int) - (n : Int) + ((k : Int) - (l : Int)) = ((m + k : Nat) : Int) - ((n + l : Nat) : Int) by omega, ic_sub, ic_sub, ic_sub, nc_add, nc_add, R.neg_add_rev, R.four]
theorem ic_neg (a : Int) : ic R (-a) = R.neg (ic R a) := by
 obtain ⟨m, n, rfl⟩ := int_sub a
 rw [show -((m : Int) - (n : Int)) = (n : Int) - (m : Int) by omega, ic_sub, ic_sub, R.neg_add_rev, R.neg_neg, R.add_comm]
theorem ic_mul (a b : Int) : ic R (a * b) = R.mul (ic R a) (ic R b) := by
 obtain ⟨m, n, rfl⟩ := int_sub a
 obtain ⟨k, l, rfl⟩ := int_sub b
 have e : ((m : Int) - (n : Int)) * ((k : Int) - (l : Int)) = ((m * k + n * l : Nat) : Int) - ((m * l + n * k : Nat) : Int) := by
  rw [Int.natCast_add, Int.natCast_add, Int.natCast_mul, Int.natCast_mul, Int.natCast_mul, Int.natCast_mul]
  grind
 have nm : ∀ x y, R.mul (R.neg x) y = R.neg (R.mul x y) := fun x y => by rw [R.mul_comm, R.mul_neg, R.mul_comm]
 rw [e, ic_sub, ic_sub, ic_sub, nc_add, nc_add, nc_mul, nc_mul, nc_mul, nc_mul, R.add_mul, R.mul_add, R.mul_add, R.mul_neg, nm, nm, R.mul_neg, R.neg_neg, R.neg_add_rev]
 rw [R.four, R.add_comm (R.mul (nc R n) (nc R l))]
def iops : Ops Int where
 add := Int.add
 mul := Int.mul
 zero := 0
 neg := Int.neg
 isz := fun a => a == 0
theorem iops_sound : Sound R iops (ic R) where
 add := ic_add R
 mul := ic_mul R
 zero := rfl
 neg := ic_neg R
 isz := fun a h => by
  have : a = 0 := by simpa [iops] using h
  rw [this]
  rfl
end
/-! The curve's sum by three numbers. -/
section
variable {β : Type _} (O : Ops β)
abbrev Tri (β : Type _) := β × β × β
def osub (a b : β) : β := O.add a (O.neg b)
def o3 (a : β) : β := O.add (O.add a a) a
def tog (b : β) (p q : Tri β) : Tri β :=
 let xx := O.mul p.1 q.1
 let yy := O.mul p.2.1 q.2.1
 let zz := O.mul p.2.2 q.2.2
 let xy := O.add (O.mul p.1 q.2.1) (O.mul p.2.1 q.1)
 let yz := O.add (O.mul p.2.1 q.2.2) (O.mul p.2.2 q.2.1)
 let xz := O.add (O.mul p.1 q.2.2) (O.mul p.2.2 q.1)
 let xx3 := o3 O xx
 let xz3 := o3 O (O.mul b xz)
 let zz3 := o3 O (O.mul b zz)
 let less := osub O yy zz3
 let more := O.add yy zz3
 (osub O (O.mul less xy) (O.mul yz xz3), O.add (O.mul less more) (O.mul xx3 xz3), O.add (O.mul more yz) (O.mul xx3 xy))
end
abbrev P1 := List Int
abbrev P2 := List P1
abbrev P3 := List P2
abbrev P4 := List P3
def o1 := lops iops
def o2 := lops o1
def o3_ := lops o2
def o4 := lops o3_
def cb : P4 := [[[[0, 1]]]]
def cx1 : P4 := [[[[], [1]]]]
def cx2 : P4 := [[[], [[1]]]]
def cx3 : P4 := [[], [[[1]]]]
def c1 : P4 := [[[[1]]]]
def cd (x : P4) : P4 := o4.add (o4.mul x (o4.mul x x)) cb
def e1 := xops o4 (cd cx1)
def e2 := xops e1 (cd cx2, [])
def e3 := xops e2 ((cd cx3, []), ([], []))
abbrev El := ((P4 × P4) × (P4 × P4)) × ((P4 × P4) × (P4 × P4))
def up (p : P4) : El := (((p, []), ([], [])), (([], []), ([], [])))
def y1_ : El := ((([], c1), ([], [])), (([], []), ([], [])))
def y2_ : El := ((([], []), (c1, [])), (([], []), ([], [])))
def y3_ : El := ((([], []), ([], [])), ((c1, []), ([], [])))
def A : Tri El := (up cx1, y1_, up c1)
def B : Tri El := (up cx2, y2_, up c1)
def C : Tri El := (up cx3, y3_, up c1)
def LL : Tri El := tog e3 (up cb) (tog e3 (up cb) A B) C
def RR : Tri El := tog e3 (up cb) A (tog e3 (up cb) B C)
def l1 : El := ((([], [[[[], [0, 0, 0, 0, -32], [], [], [0, 0, 0, 4]], [[0, 0, 0, 0, -96], [], [], [0, 0, 0, 48]], [[], [], [0, 0, 0, 144]], [[], [0, 0, 0, 128], [], [], [0, 0, 2]], [[0, 0, 0, 12], [], [], [0, 0, -6]], [[], [], [0, 0, -18]], [[], [0, 0, -2], [], [], [0, -2]]], [[[0, 0, 0, 0, 192], [], [], [0, 0, 0, -24]], [[], [], [0, 0, 0, -216]], [[], [0, 0, 0, -72], [], [], [0, 0, -18]], [[0, 0, 0, 24], [], [], [0, 0, -192]], [[], [], [0, 0, -216]], [[], [0, 0, -72], [], [], [0, -18]], [[0, 0, -6], [], [], [0, -6]]], [], [[[], [0, 0, 0, 16], [], [], [0, 0, -2]], [[0, 0, 0, 48], [], [], [0, 0, -24]], [[], [], [0, 0, -72]], [[], [0, 0, -64], [], [], [0, -1]], [[0, 0, -6], [], [], [0, 3]], [[], [], [0, 9]], [[], [0, 1], [], [], [1]]]]), ([[[[], [0, 0, 0, 0, -96], [], [], [0, 0, 0, 12]], [[0, 0, 0, 0, -32], [], [], [0, 0, 0, 128], [], [], [0, 0, -2]], [[], [], [0, 0, 0, 144], [], [], [0, 0, -18]], [[], [0, 0, 0, 48], [], [], [0, 0, -6]], [[0, 0, 0, 4], [], [], [0, 0, 2], [], [], [0, -2]]], [[[0, 0, 0, 0, 192], [], [], [0, 0, 0, 24], [], [], [0, 0, -6]], [[], [], [0, 0, 0, -72], [], [], [0, 0, -72]], [[], [0, 0, 0, -216], [], [], [0, 0, -216]], [[0, 0, 0, -24], [], [], [0, 0, -192], [], [], [0, -6]], [[], [], [0, 0, -18], [], [], [0, -18]]], [], [[[], [0, 0, 0, 48], [], [], [0, 0, -6]], [[0, 0, 0, 16], [], [], [0, 0, -64], [], [], [0, 1]], [[], [], [0, 0, -72], [], [], [0, 9]], [[], [0, 0, -24], [], [], [0, 3]], [[0, 0, -2], [], [], [0, -1], [], [], [1]]]], [])), (([[[[], [0, 0, 0, 0, 192], [], [], [0, 0, 0, 84]], [[0, 0, 0, 0, 192], [], [], [0, 0, 0, 240], [], [], [0, 0, -6]], [[], [], [0, 0, 0, 72], [], [], [0, 0, 18]], [[], [0, 0, 0, 240], [], [], [0, 0, 132]], [[0, 0, 0, 84], [], [], [0, 0, 132], [], [], [0, -6]], [[], [], [0, 0, 18], [], [], [0, -36]], [[], [0, 0, -6], [], [], [0, -6]]], [[[0, 0, 0, 0, -32], [], [], [0, 0, 0, -88], [], [], [0, 0, -2]], [[], [], [0, 0, 0, -216]], [[], [0, 0, 0, -216]], [[0, 0, 0, -88], [], [], [0, 0, 100], [], [], [0, -1]], [[], [], [], [], [], [0, -27]], [[], [], [], [], [0, -27]], [[0, 0, -2], [], [], [0, -1], [], [], [1]]]], []), ([], [[[[], [0, 0, 0, 192], [], [], [0, 0, 12]], [[0, 0, 0, 192], [], [], [0, 0, 48]], [[], [], [0, 0, 216]], [[], [0, 0, 48], [], [], [0, -24]], [[0, 0, 12], [], [], [0, -24]]], [[[0, 0, 0, -96], [], [], [0, 0, -24]], [[], [], [0, 0, -72]], [[], [0, 0, -72], [], [], [0, -18]], [[0, 0, -24], [], [], [0, -60]], [[], [], [0, -18]]]])))
def l2 : El := ((([[[[0, 0, 0, 0, 0, -224], [], [], [0, 0, 0, 0, -232], [], [], [0, 0, 0, -8]], [[], [], [0, 0, 0, 0, -360], [], [], [0, 0, 0, -36]], [[], [0, 0, 0, 0, -360], [], [], [0, 0, 0, -198]], [[0, 0, 0, 0, -232], [], [], [0, 0, 0, 4], [], [], [0, 0, -7]], [[], [], [0, 0, 0, -198], [], [], [0, 0, -117]], [[], [0, 0, 0, -36], [], [], [0, 0, -117]], [[0, 0, 0, -8], [], [], [0, 0, -7], [], [], [0, 1]]], [[[], [], [0, 0, 0, 0, 360], [], [], [0, 0, 0, 36]], [[], [0, 0, 0, 0, 432], [], [], [0, 0, 0, 108]], [[0, 0, 0, 0, 360], [], [], [0, 0, 0, 288], [], [], [0, 0, 9]], [[], [], [0, 0, 0, 288], [], [], [0, 0, -36]], [[], [0, 0, 0, 108], [], [], [0, 0, -216]], [[0, 0, 0, 36], [], [], [0, 0, -36], [], [], [0, 9]], [[], [], [0, 0, 9], [], [], [0, 9]]], [[[], [0, 0, 0, 0, -288], [], [], [0, 0, 0, -126]], [[0, 0, 0, 0, -288], [], [], [0, 0, 0, -360], [], [], [0, 0, 9]], [[], [], [0, 0, 0, -108], [], [], [0, 0, -27]], [[], [0, 0, 0, -360], [], [], [0, 0, -198]], [[0, 0, 0, -126], [], [], [0, 0, -198], [], [], [0, 9]], [[], [], [0, 0, -27], [], [], [0, 54]], [[], [0, 0, 9], [], [], [0, 9]]], [[[0, 0, 0, 0, 64], [], [], [0, 0, 0, -16], [], [], [0, 0, 1]], [[], [], [0, 0, 0, -144], [], [], [0, 0, 18]], [[], [0, 0, 0, -144], [], [], [0, 0, 99]], [[0, 0, 0, -16], [], [], [0, 0, 148], [], [], [0, 2]], [[], [], [0, 0, 99], [], [], [0, 18]], [[], [0, 0, 18], [], [], [0, 18]], [[0, 0, 1], [], [], [0, 2], [], [], [1]]]], []), ([], [[[[0, 0, 0, 0, -288], [], [], [0, 0, 0, -72]], [[], [], [0, 0, 0, -216]], [[], [0, 0, 0, -216], [], [], [0, 0, -54]], [[0, 0, 0, -72], [], [], [0, 0, -180]], [[], [], [0, 0, -54]]], [[[], [], [0, 0, 0, 216]], [[], [0, 0, 0, 720], [], [], [0, 0, -36]], [[0, 0, 0, 216], [], [], [0, 0, -108]], [[], [], [0, 0, -108]], [[], [0, 0, -36], [], [], [0, 18]]], [[[], [0, 0, 0, -288], [], [], [0, 0, -18]], [[0, 0, 0, -288], [], [], [0, 0, -72]], [[], [], [0, 0, -324]], [[], [0, 0, -72], [], [], [0, 36]], [[0, 0, -18], [], [], [0, 36]]]])), (([], []), ([], [])))
def l3 : El := ((([], [[[[0, 0, 0, 0, -128], [], [], [0, 0, 0, 16]], [[], [], [0, 0, 0, 144]], [[], [0, 0, 0, 48], [], [], [0, 0, 12]], [[0, 0, 0, -16], [], [], [0, 0, 128]], [[], [], [0, 0, 144]], [[], [0, 0, 48], [], [], [0, 12]], [[0, 0, 4], [], [], [0, 4]]], [], [[[], [0, 0, 0, 48], [], [], [0, 0, -6]], [[0, 0, 0, 144], [], [], [0, 0, -72]], [[], [], [0, 0, -216]], [[], [0, 0, -192], [], [], [0, -3]], [[0, 0, -18], [], [], [0, 9]], [[], [], [0, 27]], [[], [0, 3], [], [], [3]]], [[[0, 0, 0, -32], [], [], [0, 0, 4]], [[], [], [0, 0, 36]], [[], [0, 0, 12], [], [], [0, 3]], [[0, 0, -4], [], [], [0, 32]], [[], [], [0, 36]], [[], [0, 12], [], [], [3]], [[0, 1], [], [], [1]]]]), ([[[[0, 0, 0, 0, -128], [], [], [0, 0, 0, -16], [], [], [0, 0, 4]], [[], [], [0, 0, 0, 48], [], [], [0, 0, 48]], [[], [0, 0, 0, 144], [], [], [0, 0, 144]], [[0, 0, 0, 16], [], [], [0, 0, 128], [], [], [0, 4]], [[], [], [0, 0, 12], [], [], [0, 12]]], [], [[[], [0, 0, 0, 144], [], [], [0, 0, -18]], [[0, 0, 0, 48], [], [], [0, 0, -192], [], [], [0, 3]], [[], [], [0, 0, -216], [], [], [0, 27]], [[], [0, 0, -72], [], [], [0, 9]], [[0, 0, -6], [], [], [0, -3], [], [], [3]]], [[[0, 0, 0, -32], [], [], [0, 0, -4], [], [], [0, 1]], [[], [], [0, 0, 12], [], [], [0, 12]], [[], [0, 0, 36], [], [], [0, 36]], [[0, 0, 4], [], [], [0, 32], [], [], [1]], [[], [], [0, 3], [], [], [3]]]], [])), (([[[[0, 0, 0, 0, 160], [], [], [0, 0, 0, 56], [], [], [0, 0, 4]], [[], [], [0, 0, 0, -72], [], [], [0, 0, 36]], [[], [0, 0, 0, -72], [], [], [0, 0, 198]], [[0, 0, 0, 56], [], [], [0, 0, 196], [], [], [0, 5]], [[], [], [0, 0, 198], [], [], [0, 63]], [[], [0, 0, 36], [], [], [0, 63]], [[0, 0, 4], [], [], [0, 5], [], [], [1]]], [[[], [], [0, 0, 0, 120], [], [], [0, 0, 12]], [[], [0, 0, 0, 144], [], [], [0, 0, 36]], [[0, 0, 0, 120], [], [], [0, 0, 96], [], [], [0, 3]], [[], [], [0, 0, 96], [], [], [0, -12]], [[], [0, 0, 36], [], [], [0, -72]], [[0, 0, 12], [], [], [0, -12], [], [], [3]], [[], [], [0, 3], [], [], [3]]]], []), ([], [[[[0, 0, 0, 96], [], [], [0, 0, 24]], [[], [], [0, 0, 72]], [[], [0, 0, 72], [], [], [0, 18]], [[0, 0, 24], [], [], [0, 60]], [[], [], [0, 18]]], [[[], [], [0, 0, 72]], [[], [0, 0, 240], [], [], [0, -12]], [[0, 0, 72], [], [], [0, -36]], [[], [], [0, -36]], [[], [0, -12], [], [], [6]]]])))
def r1 : El := ((([], [[[[], [0, 0, 0, 0, -32]], [[0, 0, 0, 0, 192]], [], [[], [0, 0, 0, -88]], [[0, 0, 0, 84]], [], [[], [0, 0, -2]]], [[[0, 0, 0, 0, 192]], [], [[], [0, 0, 0, -216]], [[0, 0, 0, 240]], [], [], [[0, 0, -6]]], [[], [[], [0, 0, 0, -216]], [[0, 0, 0, 72]], [], [], [[0, 0, 18]]], [[[], [0, 0, 0, -88]], [[0, 0, 0, 240]], [], [[], [0, 0, 100]], [[0, 0, 132]], [], [[], [0, -1]]], [[[0, 0, 0, 84]], [], [], [[0, 0, 132]], [], [[], [0, -27]], [[0, -6]]], [[], [], [[0, 0, 18]], [], [[], [0, -27]], [[0, -36]]], [[[], [0, 0, -2]], [[0, 0, -6]], [], [[], [0, -1]], [[0, -6]], [], [[], [1]]]]), ([[[[], [0, 0, 0, 0, 192]], [[0, 0, 0, 0, -32], [], [], [0, 0, 0, 16]], [], [[], [0, 0, 0, -24]], [[0, 0, 0, 4], [], [], [0, 0, -2]]], [[[0, 0, 0, 0, -96], [], [], [0, 0, 0, 48]], [], [[], [0, 0, 0, -216]], [[0, 0, 0, 48], [], [], [0, 0, -24]]], [[], [[], [0, 0, 0, -72]], [[0, 0, 0, 144], [], [], [0, 0, -72]], [], [[], [0, 0, -18]]], [[[], [0, 0, 0, 24]], [[0, 0, 0, 128], [], [], [0, 0, -64]], [], [[], [0, 0, -192]], [[0, 0, 2], [], [], [0, -1]]], [[[0, 0, 0, 12], [], [], [0, 0, -6]], [], [[], [0, 0, -216]], [[0, 0, -6], [], [], [0, 3]]], [[], [[], [0, 0, -72]], [[0, 0, -18], [], [], [0, 9]], [], [[], [0, -18]]], [[[], [0, 0, -6]], [[0, 0, -2], [], [], [0, 1]], [], [[], [0, -6]], [[0, -2], [], [], [1]]]], [])), (([[[[], [0, 0, 0, 0, 192]], [[0, 0, 0, 0, -96], [], [], [0, 0, 0, 48]], [], [[], [0, 0, 0, 24]], [[0, 0, 0, 12], [], [], [0, 0, -6]], [], [[], [0, 0, -6]]], [[[0, 0, 0, 0, -32], [], [], [0, 0, 0, 16]], [], [[], [0, 0, 0, -72]], [[0, 0, 0, 128], [], [], [0, 0, -64]], [], [[], [0, 0, -72]], [[0, 0, -2], [], [], [0, 1]]], [[], [[], [0, 0, 0, -216]], [[0, 0, 0, 144], [], [], [0, 0, -72]], [], [[], [0, 0, -216]], [[0, 0, -18], [], [], [0, 9]]], [[[], [0, 0, 0, -24]], [[0, 0, 0, 48], [], [], [0, 0, -24]], [], [[], [0, 0, -192]], [[0, 0, -6], [], [], [0, 3]], [], [[], [0, -6]]], [[[0, 0, 0, 4], [], [], [0, 0, -2]], [], [[], [0, 0, -18]], [[0, 0, 2], [], [], [0, -1]], [], [[], [0, -18]], [[0, -2], [], [], [1]]]], []), ([], [[[[], [0, 0, 0, -96]], [[0, 0, 0, 192]], [], [[], [0, 0, -24]], [[0, 0, 12]]], [[[0, 0, 0, 192]], [], [[], [0, 0, -72]], [[0, 0, 48]]], [[], [[], [0, 0, -72]], [[0, 0, 216]], [], [[], [0, -18]]], [[[], [0, 0, -24]], [[0, 0, 48]], [], [[], [0, -60]], [[0, -24]]], [[[0, 0, 12]], [], [[], [0, -18]], [[0, -24]]]])))
def r2 : El := ((([[[[0, 0, 0, 0, 0, -224], [], [], [0, 0, 0, 0, 64]], [[], [], [0, 0, 0, 0, -288]], [[], [0, 0, 0, 0, 360]], [[0, 0, 0, 0, -232], [], [], [0, 0, 0, -16]], [[], [], [0, 0, 0, -126]], [[], [0, 0, 0, 36]], [[0, 0, 0, -8], [], [], [0, 0, 1]]], [[[], [], [0, 0, 0, 0, -288]], [[], [0, 0, 0, 0, 432]], [[0, 0, 0, 0, -360], [], [], [0, 0, 0, -144]], [[], [], [0, 0, 0, -360]], [[], [0, 0, 0, 108]], [[0, 0, 0, -36], [], [], [0, 0, 18]], [[], [], [0, 0, 9]]], [[[], [0, 0, 0, 0, 360]], [[0, 0, 0, 0, -360], [], [], [0, 0, 0, -144]], [[], [], [0, 0, 0, -108]], [[], [0, 0, 0, 288]], [[0, 0, 0, -198], [], [], [0, 0, 99]], [[], [], [0, 0, -27]], [[], [0, 0, 9]]], [[[0, 0, 0, 0, -232], [], [], [0, 0, 0, -16]], [[], [], [0, 0, 0, -360]], [[], [0, 0, 0, 288]], [[0, 0, 0, 4], [], [], [0, 0, 148]], [[], [], [0, 0, -198]], [[], [0, 0, -36]], [[0, 0, -7], [], [], [0, 2]]], [[[], [], [0, 0, 0, -126]], [[], [0, 0, 0, 108]], [[0, 0, 0, -198], [], [], [0, 0, 99]], [[], [], [0, 0, -198]], [[], [0, 0, -216]], [[0, 0, -117], [], [], [0, 18]], [[], [], [0, 9]]], [[[], [0, 0, 0, 36]], [[0, 0, 0, -36], [], [], [0, 0, 18]], [[], [], [0, 0, -27]], [[], [0, 0, -36]], [[0, 0, -117], [], [], [0, 18]], [[], [], [0, 54]], [[], [0, 9]]], [[[0, 0, 0, -8], [], [], [0, 0, 1]], [[], [], [0, 0, 9]], [[], [0, 0, 9]], [[0, 0, -7], [], [], [0, 2]], [[], [], [0, 9]], [[], [0, 9]], [[0, 1], [], [], [1]]]], []), ([], [])), (([], []), ([[[[0, 0, 0, 0, -288]], [[], [], [0, 0, 0, -288]], [[], [0, 0, 0, 216]], [[0, 0, 0, -72]], [[], [], [0, 0, -18]]], [[[], [], [0, 0, 0, -288]], [[], [0, 0, 0, 720]], [[0, 0, 0, -216]], [[], [], [0, 0, -72]], [[], [0, 0, -36]]], [[[], [0, 0, 0, 216]], [[0, 0, 0, -216]], [[], [], [0, 0, -324]], [[], [0, 0, -108]], [[0, 0, -54]]], [[[0, 0, 0, -72]], [[], [], [0, 0, -72]], [[], [0, 0, -108]], [[0, 0, -180]], [[], [], [0, 36]]], [[[], [], [0, 0, -18]], [[], [0, 0, -36]], [[0, 0, -54]], [[], [], [0, 36]], [[], [0, 18]]]], [])))
def r3 : El := ((([], [[[[0, 0, 0, 0, 160]], [], [[], [0, 0, 0, 120]], [[0, 0, 0, 56]], [], [[], [0, 0, 12]], [[0, 0, 4]]], [[], [[], [0, 0, 0, 144]], [[0, 0, 0, -72]], [], [[], [0, 0, 36]], [[0, 0, 36]]], [[[], [0, 0, 0, 120]], [[0, 0, 0, -72]], [], [[], [0, 0, 96]], [[0, 0, 198]], [], [[], [0, 3]]], [[[0, 0, 0, 56]], [], [[], [0, 0, 96]], [[0, 0, 196]], [], [[], [0, -12]], [[0, 5]]], [[], [[], [0, 0, 36]], [[0, 0, 198]], [], [[], [0, -72]], [[0, 63]]], [[[], [0, 0, 12]], [[0, 0, 36]], [], [[], [0, -12]], [[0, 63]], [], [[], [3]]], [[[0, 0, 4]], [], [[], [0, 3]], [[0, 5]], [], [[], [3]], [[1]]]]), ([[[[0, 0, 0, 0, -128], [], [], [0, 0, 0, -32]], [[], [], [0, 0, 0, 48]], [], [[0, 0, 0, 16], [], [], [0, 0, 4]], [[], [], [0, 0, -6]]], [[[], [], [0, 0, 0, 144]], [], [[0, 0, 0, 144], [], [], [0, 0, 36]], [[], [], [0, 0, -72]]], [[], [[0, 0, 0, 48], [], [], [0, 0, 12]], [[], [], [0, 0, -216]], [], [[0, 0, 12], [], [], [0, 3]]], [[[0, 0, 0, -16], [], [], [0, 0, -4]], [[], [], [0, 0, -192]], [], [[0, 0, 128], [], [], [0, 32]], [[], [], [0, -3]]], [[[], [], [0, 0, -18]], [], [[0, 0, 144], [], [], [0, 36]], [[], [], [0, 9]]], [[], [[0, 0, 48], [], [], [0, 12]], [[], [], [0, 27]], [], [[0, 12], [], [], [3]]], [[[0, 0, 4], [], [], [0, 1]], [[], [], [0, 3]], [], [[0, 4], [], [], [1]], [[], [], [3]]]], [])), (([[[[0, 0, 0, 0, -128], [], [], [0, 0, 0, -32]], [[], [], [0, 0, 0, 144]], [], [[0, 0, 0, -16], [], [], [0, 0, -4]], [[], [], [0, 0, -18]], [], [[0, 0, 4], [], [], [0, 1]]], [[[], [], [0, 0, 0, 48]], [], [[0, 0, 0, 48], [], [], [0, 0, 12]], [[], [], [0, 0, -192]], [], [[0, 0, 48], [], [], [0, 12]], [[], [], [0, 3]]], [[], [[0, 0, 0, 144], [], [], [0, 0, 36]], [[], [], [0, 0, -216]], [], [[0, 0, 144], [], [], [0, 36]], [[], [], [0, 27]]], [[[0, 0, 0, 16], [], [], [0, 0, 4]], [[], [], [0, 0, -72]], [], [[0, 0, 128], [], [], [0, 32]], [[], [], [0, 9]], [], [[0, 4], [], [], [1]]], [[[], [], [0, 0, -6]], [], [[0, 0, 12], [], [], [0, 3]], [[], [], [0, -3]], [], [[0, 12], [], [], [3]], [[], [], [3]]]], []), ([], [[[[0, 0, 0, 96]], [], [[], [0, 0, 72]], [[0, 0, 24]]], [[], [[], [0, 0, 240]], [[0, 0, 72]], [], [[], [0, -12]]], [[[], [0, 0, 72]], [[0, 0, 72]], [], [[], [0, -36]], [[0, 18]]], [[[0, 0, 24]], [], [[], [0, -36]], [[0, 60]]], [[], [[], [0, -12]], [[0, 18]], [], [[], [6]]]])))
theorem l1_eq : e3.isz (osub e3 LL.1 l1) = true := by decide +kernel
theorem l2_eq : e3.isz (osub e3 LL.2.1 l2) = true := by decide +kernel
theorem l3_eq : e3.isz (osub e3 LL.2.2 l3) = true := by decide +kernel
theorem r1_eq : e3.isz (osub e3 RR.1 r1) = true := by decide +kernel
theorem r2_eq : e3.isz (osub e3 RR.2.1 r2) = true := by decide +kernel
theorem r3_eq : e3.isz (osub e3 RR.2.2 r3) = true := by decide +kernel
theorem assoc_x : e3.isz (osub e3 (e3.mul l1 r3) (e3.mul l3 r1)) = true := by decide +kernel
theorem assoc_y : e3.isz (osub e3 (e3.mul l2 r3) (e3.mul l3 r2)) = true := by decide +kernel
/-! What it says in a ring. -/
def rops {α : Type} (R : Rng α) : Ops α where
 add := R.add
 mul := R.mul
 zero := R.zero
 neg := R.neg
 isz := fun _ => false
def tri {α β : Type} (ev : β → α) (p : Tri β) : Tri α := (ev p.1, ev p.2.1, ev p.2.2)
theorem tog_ev {α β : Type} {R : Rng α} {O : Ops β} {ev : β → α} (S : Sound R O ev) (b : β) (p q : Tri β) : tri ev (tog O b p q) = tog (rops R) (ev b) (tri ev p) (tri ev q) := by
 simp only [tri, tog, osub, o3, rops, S.add, S.mul, S.neg]
section
variable {α : Type} (R : Rng α) (b x1 x2 x3 : α)
def v1 := lev R (ic R) b
def v2 := lev R (v1 R b) x1
def v3 := lev R (v2 R b x1) x2
def v4 := lev R (v3 R b x1 x2) x3
theorem s1 : Sound R o1 (v1 R b) := lops_sound (iops_sound R) b
theorem s2 : Sound R o2 (v2 R b x1) := lops_sound (s1 R b) x1
theorem s3 : Sound R o3_ (v3 R b x1 x2) := lops_sound (s2 R b x1) x2
theorem s4 : Sound R o4 (v4 R b x1 x2 x3) := lops_sound (s3 R b x1 x2) x3
theorem ic_1 : ic R 1 = R.one := R.add_zero _
theorem ic_0 : ic R 0 = R.zero := rfl
theorem Rng.mul_one (a : α) : R.mul a R.one = a := by rw [R.mul_comm, R.one_mul]
theorem w_b : v4 R b x1 x2 x3 cb = b := by
 simp only [v4, v3, v2, v1, cb, lev, ic_0, ic_1, R.mul_zero, R.add_zero, R.zero_add, R.mul_one]
theorem w_1 : v4 R b x1 x2 x3 c1 = R.one := by
 simp only [v4, v3, v2, v1, c1, lev, ic_1, R.mul_zero, R.add_zero]
theorem w_x1 : v4 R b x1 x2 x3 cx1 = x1 := by
 simp only [v4, v3, v2, v1, cx1, lev, ic_1, R.mul_zero, R.add_zero, R.zero_add, R.mul_one]
theorem w_x2 : v4 R b x1 x2 x3 cx2 = x2 := by
 simp only [v4, v3, v2, v1, cx2, lev, ic_1, R.mul_zero, R.add_zero, R.zero_add, R.mul_one]
theorem w_x3 : v4 R b x1 x2 x3 cx3 = x3 := by
 simp only [v4, v3, v2, v1, cx3, lev, ic_1, R.mul_zero, R.add_zero, R.zero_add, R.mul_one]
def side (x : α) : α := R.add (R.mul x (R.mul x x)) b
theorem w_cd (x : P4) : v4 R b x1 x2 x3 (cd x) = side R b (v4 R b x1 x2 x3 x) := by
 have S := s4 R b x1 x2 x3
 unfold cd side
 rw [S.add, S.mul, S.mul, w_b]
variable (y1 y2 y3 : α)
def u1 := xev R (v4 R b x1 x2 x3) y1
def u2 := xev R (u1 R b x1 x2 x3 y1) y2
def u3 := xev R (u2 R b x1 x2 x3 y1 y2) y3
theorem z_p (p : P4) : u3 R b x1 x2 x3 y1 y2 y3 (up p) = v4 R b x1 x2 x3 p := by
 have e : v4 R b x1 x2 x3 [] = R.zero := rfl
 simp only [u3, u2, u1, xev, up, e, R.mul_zero, R.add_zero]
variable (h1 : R.mul y1 y1 = side R b x1) (h2 : R.mul y2 y2 = side R b x2) (h3 : R.mul y3 y3 = side R b x3)
theorem k1 (h1 : R.mul y1 y1 = side R b x1) : Sound R e1 (u1 R b x1 x2 x3 y1) := xops_sound (s4 R b x1 x2 x3) (by rw [w_cd, w_x1]; exact h1)
theorem k2 (h1 : R.mul y1 y1 = side R b x1) (h2 : R.mul y2 y2 = side R b x2) : Sound R e2 (u2 R b x1 x2 x3 y1 y2) := xops_sound (k1 R b x1 x2 x3 y1 h1) (by
 have e : v4 R b x1 x2 x3 [] = R.zero := rfl
 show _ = R.add (v4 R b x1 x2 x3 (cd cx2)) (R.mul y1 (v4 R b x1 x2 x3 []))
 rw [e, R.mul_zero, R.add_zero, w_cd, w_x2]
 exact h2)
theorem k3 (h1 : R.mul y1 y1 = side R b x1) (h2 : R.mul y2 y2 = side R b x2) (h3 : R.mul y3 y3 = side R b x3) : Sound R e3 (u3 R b x1 x2 x3 y1 y2 y3) := xops_sound (k2 R b x1 x2 x3 y1 y2 h1 h2) (by
 have e : v4 R b x1 x2 x3 [] = R.zero := rfl
 have e2 : u2 R b x1 x2 x3 y1 y2 ((cd cx3, []), ([], [])) = v4 R b x1 x2 x3 (cd cx3) := by simp only [u2, u1, xev, e, R.mul_zero, R.add_zero]
 rw [e2, w_cd, w_x3]
 exact h3)
end
theorem eq_of {α β : Type} {R : Rng α} {O : Ops β} {ev : β → α} (S : Sound R O ev) {a c : β} (h : O.isz (osub O a c) = true) : ev a = ev c := by
 have e := S.isz _ h
 unfold osub at e
 rw [S.add, S.neg] at e
 have e2 : R.add (R.add (ev a) (R.neg (ev c))) (ev c) = R.add R.zero (ev c) := by rw [e]
 rw [R.add_assoc, R.neg_add, R.add_zero, R.zero_add] at e2
 exact e2
theorem tog_assoc {α : Type} (R : Rng α) (b x1 x2 x3 y1 y2 y3 : α) (h1 : R.mul y1 y1 = side R b x1) (h2 : R.mul y2 y2 = side R b x2) (h3 : R.mul y3 y3 = side R b x3) :
  R.mul (tog (rops R) b (tog (rops R) b (x1, y1, R.one) (x2, y2, R.one)) (x3, y3, R.one)).1 (tog (rops R) b (x1, y1, R.one) (tog (rops R) b (x2, y2, R.one) (x3, y3, R.one))).2.2 =
   R.mul (tog (rops R) b (tog (rops R) b (x1, y1, R.one) (x2, y2, R.one)) (x3, y3, R.one)).2.2 (tog (rops R) b (x1, y1, R.one) (tog (rops R) b (x2, y2, R.one) (x3, y3, R.one))).1 ∧
  R.mul (tog (rops R) b (tog (rops R) b (x1, y1, R.one) (x2, y2, R.one)) (x3, y3, R.one)).2.1 (tog (rops R) b (x1, y1, R.one) (tog (rops R) b (x2, y2, R.one) (x3, y3, R.one))).2.2 =
   R.mul (tog (rops R) b (tog (rops R) b (x1, y1, R.one) (x2, y2, R.one)) (x3, y3, R.one)).2.2 (tog (rops R) b (x1, y1, R.one) (tog (rops R) b (x2, y2, R.one) (x3, y3, R.one))).2.1 := by
 have S := k3 R b x1 x2 x3 y1 y2 y3 h1 h2 h3
 have hz : v4 R b x1 x2 x3 [] = R.zero := rfl
 have eb : u3 R b x1 x2 x3 y1 y2 y3 (up cb) = b := by rw [z_p, w_b]
 have eA : tri (u3 R b x1 x2 x3 y1 y2 y3) A = (x1, y1, R.one) := by
  have ey : u3 R b x1 x2 x3 y1 y2 y3 y1_ = y1 := by simp only [u3, u2, u1, xev, y1_, hz, w_1, R.mul_zero, R.add_zero, R.zero_add, R.mul_one]
  simp only [tri, A, z_p, w_x1, w_1, ey]
 have eB : tri (u3 R b x1 x2 x3 y1 y2 y3) B = (x2, y2, R.one) := by
  have ey : u3 R b x1 x2 x3 y1 y2 y3 y2_ = y2 := by simp only [u3, u2, u1, xev, y2_, hz, w_1, R.mul_zero, R.add_zero, R.zero_add, R.mul_one]
  simp only [tri, B, z_p, w_x2, w_1, ey]
 have eC : tri (u3 R b x1 x2 x3 y1 y2 y3) C = (x3, y3, R.one) := by
  have ey : u3 R b x1 x2 x3 y1 y2 y3 y3_ = y3 := by simp only [u3, u2, u1, xev, y3_, hz, w_1, R.mul_zero, R.add_zero, R.zero_add, R.mul_one]
  simp only [tri, C, z_p, w_x3, w_1, ey]
 have eL : tri (u3 R b x1 x2 x3 y1 y2 y3) LL = tog (rops R) b (tog (rops R) b (x1, y1, R.one) (x2, y2, R.one)) (x3, y3, R.one) := by
  unfold LL
  rw [tog_ev S, tog_ev S, eb, eA, eB, eC]
 have eR : tri (u3 R b x1 x2 x3 y1 y2 y3) RR = tog (rops R) b (x1, y1, R.one) (tog (rops R) b (x2, y2, R.one) (x3, y3, R.one)) := by
  unfold RR
  rw [tog_ev S, tog_ev S, eb, eA, eB, eC]
 rw [← eL, ← eR]
 have p1 := eq_of S l1_eq
 have p2 := eq_of S l2_eq
 have p3 := eq_of S l3_eq
 have q1 := eq_of S r1_eq
 have q2 := eq_of S r2_eq
 have q3 := eq_of S r3_eq
 have ax := eq_of S assoc_x
 have ay := eq_of S assoc_y
 rw [S.mul, S.mul] at ax ay
 unfold tri
 rw [p1, p2, p3, q1, q2, q3]
 exact ⟨ax, ay⟩
end EC
end Go.Proofs.YtaomlijondiaoaaGreatDoor
end
section
namespace Go.Proofs.YtaomlijondiaoaaGreatDoor
namespace EC
/-! Expressions, to be calculated by the kernel. -/
def nth {β : Type} (d : β) : List β → Nat → β
 | [], _ => d
 | a :: _, 0 => a
 | _ :: l, i + 1 => nth d l i
theorem nth_map {β γ : Type} (f : β → γ) (d : β) : ∀ (l : List β) (i : Nat), f (nth d l i) = nth (f d) (l.map f) i
 | [], _ => rfl
 | _ :: _, 0 => rfl
 | _ :: l, i + 1 => nth_map f d l i
structure Ex where
 ev : {β : Type} → Ops β → β → List β → β
 snd : ∀ {α β : Type} {R : Rng α} {O : Ops β} {f : β → α}, Sound R O f → ∀ {one : β}, f one = R.one → ∀ l : List β, f (ev O one l) = ev (rops R) R.one (l.map f)
def Ex.v (i : Nat) : Ex where
 ev := fun O _ l => nth O.zero l i
 snd := by
  intro _ _ R O f S _ _ l
  show f (nth O.zero l i) = nth R.zero (l.map f) i
  rw [nth_map f, S.zero]
def Ex.z : Ex where
 ev := fun O _ _ => O.zero
 snd := by
  intro _ _ _ _ _ S _ _ _
  exact S.zero
def Ex.o : Ex where
 ev := fun _ one _ => one
 snd := by
  intro _ _ _ _ _ _ _ h _
  exact h
def Ex.a (x y : Ex) : Ex where
 ev := fun O one l => O.add (x.ev O one l) (y.ev O one l)
 snd := by
  intro _ _ R O f S _ h l
  show f (O.add _ _) = R.add _ _
  rw [S.add, x.snd S h l, y.snd S h l]
def Ex.m (x y : Ex) : Ex where
 ev := fun O one l => O.mul (x.ev O one l) (y.ev O one l)
 snd := by
  intro _ _ R O f S _ h l
  show f (O.mul _ _) = R.mul _ _
  rw [S.mul, x.snd S h l, y.snd S h l]
def Ex.n (x : Ex) : Ex where
 ev := fun O one l => O.neg (x.ev O one l)
 snd := by
  intro _ _ R O f S _ h l
  show f (O.neg _) = R.neg _
  rw [S.neg, x.snd S h l]
def exo : Ops Ex where
 add := Ex.a
 mul := Ex.m
 zero := Ex.z
 neg := Ex.n
 isz := fun _ => false
theorem Ex.eqs {α β : Type} {R : Rng α} {O : Ops β} {f : β → α} (S : Sound R O f) {one : β} (h1 : f one = R.one) (l : List β) (x y : Ex) (h : O.isz (osub O (x.ev O one l) (y.ev O one l)) = true) : x.ev (rops R) R.one (l.map f) = y.ev (rops R) R.one (l.map f) := by
 rw [← x.snd S h1 l, ← y.snd S h1 l]
 exact eq_of S h
theorem ring_c {α : Type} (R : Rng α) (b x1 x2 y1 y2 : α) (h1 : R.mul y1 y1 = side R b x1) (h2 : R.mul y2 y2 = side R b x2) (x y : Ex)
  (h : e2.isz (osub e2 (x.ev e2 ((c1, []), ([], [])) [((cb, []), ([], [])), ((cx1, []), ([], [])), ((cx2, []), ([], [])), (([], c1), ([], [])), (([], []), (c1, []))]) (y.ev e2 ((c1, []), ([], [])) [((cb, []), ([], [])), ((cx1, []), ([], [])), ((cx2, []), ([], [])), (([], c1), ([], [])), (([], []), (c1, []))])) = true) :
  x.ev (rops R) R.one [b, x1, x2, y1, y2] = y.ev (rops R) R.one [b, x1, x2, y1, y2] := by
 have hz : v4 R b x1 x2 R.zero [] = R.zero := rfl
 have e := Ex.eqs (k2 R b x1 x2 R.zero y1 y2 h1 h2) (one := ((c1, []), ([], []))) (by
  show R.add (R.add (v4 R b x1 x2 R.zero c1) (R.mul y1 (v4 R b x1 x2 R.zero []))) (R.mul y2 (R.add (v4 R b x1 x2 R.zero []) (R.mul y1 (v4 R b x1 x2 R.zero [])))) = R.one
  simp only [hz, w_1, R.mul_zero, R.add_zero]) _ x y h
 simp only [List.map_cons, List.map_nil, u2, u1, xev, hz, w_b, w_1, w_x1, w_x2, R.mul_zero, R.add_zero, R.zero_add, R.mul_one] at e
 exact e
/-! Any eight numbers. -/
abbrev P5 := List P4
abbrev P6 := List P5
abbrev P7 := List P6
abbrev P8 := List P7
def o5 := lops o4
def o6 := lops o5
def o7 := lops o6
def o8 := lops o7
def f1 : P8 := [[[[[[[[0, 1]]]]]]]]
def f2 : P8 := [[[[[[[[], [1]]]]]]]]
def f3 : P8 := [[[[[[[], [[1]]]]]]]]
def f4 : P8 := [[[[[[], [[[1]]]]]]]]
def f5 : P8 := [[[[[], [[[[1]]]]]]]]
def f6 : P8 := [[[[], [[[[[1]]]]]]]]
def f7 : P8 := [[[], [[[[[[1]]]]]]]]
def f8 : P8 := [[], [[[[[[[1]]]]]]]]
def f0 : P8 := [[[[[[[[1]]]]]]]]
theorem ring_f {α : Type} (R : Rng α) (a b c d e f g h : α) (x y : Ex) (hh : o8.isz (osub o8 (x.ev o8 f0 [f1, f2, f3, f4, f5, f6, f7, f8]) (y.ev o8 f0 [f1, f2, f3, f4, f5, f6, f7, f8])) = true) :
  x.ev (rops R) R.one [a, b, c, d, e, f, g, h] = y.ev (rops R) R.one [a, b, c, d, e, f, g, h] := by
 have S : Sound R o8 _ := lops_sound (lops_sound (lops_sound (lops_sound (lops_sound (lops_sound (lops_sound (lops_sound (iops_sound R) a) b) c) d) e) f) g) h
 have t := Ex.eqs S (one := f0) (by
  simp only [f0, lev, ic_1, R.mul_zero, R.add_zero]) _ x y hh
 simp only [List.map_cons, List.map_nil, f1, f2, f3, f4, f5, f6, f7, f8, lev, ic_0, ic_1, R.mul_zero, R.add_zero, R.zero_add, R.mul_one] at t
 exact t
end EC
end Go.Proofs.YtaomlijondiaoaaGreatDoor
end
section
namespace Go.Proofs.YtaomlijondiaoaaGreatDoor
namespace EC
structure Crv (α : Type) where
 R : Rng α
 inv : α → α
 b : α
 hinv : ∀ a, a ≠ R.zero → R.mul (inv a) a = R.one
 hb : ∀ t, side R b t ≠ R.zero
 h1 : R.one ≠ R.zero
 h2 : R.add R.one R.one ≠ R.zero
section
variable {α : Type} (C : Crv α)
theorem Crv.can {c a d : α} (hc : c ≠ C.R.zero) (h : C.R.mul c a = C.R.mul c d) : a = d := by
 have e := congrArg (C.R.mul (C.inv c)) h
 rw [← C.R.mul_assoc, ← C.R.mul_assoc, C.hinv c hc, C.R.one_mul, C.R.one_mul] at e
 exact e
theorem Crv.ne {a c : α} (ha : a ≠ C.R.zero) (hc : c ≠ C.R.zero) : C.R.mul a c ≠ C.R.zero := fun h => hc (C.can ha (h.trans (C.R.mul_zero a).symm))
theorem Crv.inv_ne {a : α} (ha : a ≠ C.R.zero) : C.inv a ≠ C.R.zero := fun h => C.h1 (by rw [← C.hinv a ha, h, C.R.zero_mul])
theorem Crv.two {a : α} (ha : a ≠ C.R.zero) : C.R.add a a ≠ C.R.zero := fun h => by
 have e : C.R.mul (C.R.add C.R.one C.R.one) a = C.R.add a a := by rw [C.R.add_mul, C.R.one_mul]
 exact C.ne C.h2 ha (e.trans h)
theorem Crv.sub_ne {a c : α} (h : a ≠ c) : C.R.add a (C.R.neg c) ≠ C.R.zero := fun e => h (by
 have e2 : C.R.add (C.R.add a (C.R.neg c)) c = C.R.add C.R.zero c := by rw [e]
 rw [C.R.add_assoc, C.R.neg_add, C.R.add_zero, C.R.zero_add] at e2
 exact e2)
def Crv.on : Option (α × α) → Prop
 | none => True
 | some (x, y) => C.R.mul y y = side C.R C.b x
def Crv.lift : Option (α × α) → Tri α
 | none => (C.R.zero, C.R.one, C.R.zero)
 | some (x, y) => (x, y, C.R.one)
def Crv.neg : Option (α × α) → Option (α × α)
 | none => none
 | some (x, y) => some (x, C.R.neg y)
abbrev Crv.tog (A B : Tri α) : Tri α := EC.tog (rops C.R) C.b A B
def Crv.sc (c : α) (T : Tri α) : Tri α := (C.R.mul c T.1, C.R.mul c T.2.1, C.R.mul c T.2.2)
def Crv.good (T : Tri α) : Prop := T.2.2 = C.R.zero → T.1 = C.R.zero ∧ T.2.1 ≠ C.R.zero
theorem Crv.y_ne {x y : α} (h : C.on (some (x, y))) : y ≠ C.R.zero := fun e => by
 have h' : C.R.mul y y = side C.R C.b x := h
 rw [e, C.R.mul_zero] at h'
 exact C.hb x h'.symm
open Ex in
theorem Crv.tog_comm (A B : Tri α) : C.tog A B = C.tog B A := by
 obtain ⟨x1, y1, z1⟩ := A
 obtain ⟨x2, y2, z2⟩ := B
 refine Prod.ext ?_ (Prod.ext ?_ ?_)
 ·exact ring_f C.R C.b x1 y1 z1 x2 y2 z2 C.b (EC.tog exo (v 0) (v 1, v 2, v 3) (v 4, v 5, v 6)).1 (EC.tog exo (v 0) (v 4, v 5, v 6) (v 1, v 2, v 3)).1 (by decide +kernel)
 ·exact ring_f C.R C.b x1 y1 z1 x2 y2 z2 C.b (EC.tog exo (v 0) (v 1, v 2, v 3) (v 4, v 5, v 6)).2.1 (EC.tog exo (v 0) (v 4, v 5, v 6) (v 1, v 2, v 3)).2.1 (by decide +kernel)
 ·exact ring_f C.R C.b x1 y1 z1 x2 y2 z2 C.b (EC.tog exo (v 0) (v 1, v 2, v 3) (v 4, v 5, v 6)).2.2 (EC.tog exo (v 0) (v 4, v 5, v 6) (v 1, v 2, v 3)).2.2 (by decide +kernel)
open Ex in
theorem Crv.tog_sc (c : α) (A B : Tri α) : C.tog (C.sc c A) B = C.sc (C.R.mul c c) (C.tog A B) := by
 obtain ⟨x1, y1, z1⟩ := A
 obtain ⟨x2, y2, z2⟩ := B
 refine Prod.ext ?_ (Prod.ext ?_ ?_)
 ·exact ring_f C.R C.b x1 y1 z1 x2 y2 z2 c (EC.tog exo (v 0) (m (v 7) (v 1), m (v 7) (v 2), m (v 7) (v 3)) (v 4, v 5, v 6)).1 (m (m (v 7) (v 7)) (EC.tog exo (v 0) (v 1, v 2, v 3) (v 4, v 5, v 6)).1) (by decide +kernel)
 ·exact ring_f C.R C.b x1 y1 z1 x2 y2 z2 c (EC.tog exo (v 0) (m (v 7) (v 1), m (v 7) (v 2), m (v 7) (v 3)) (v 4, v 5, v 6)).2.1 (m (m (v 7) (v 7)) (EC.tog exo (v 0) (v 1, v 2, v 3) (v 4, v 5, v 6)).2.1) (by decide +kernel)
 ·exact ring_f C.R C.b x1 y1 z1 x2 y2 z2 c (EC.tog exo (v 0) (m (v 7) (v 1), m (v 7) (v 2), m (v 7) (v 3)) (v 4, v 5, v 6)).2.2 (m (m (v 7) (v 7)) (EC.tog exo (v 0) (v 1, v 2, v 3) (v 4, v 5, v 6)).2.2) (by decide +kernel)
theorem Crv.tog_sc' (c : α) (A B : Tri α) : C.tog A (C.sc c B) = C.sc (C.R.mul c c) (C.tog A B) := by
 rw [C.tog_comm, C.tog_sc, C.tog_comm]
open Ex in
theorem Crv.tog_zero (B : Tri α) : C.tog (C.lift none) B = C.sc B.2.1 B := by
 obtain ⟨x2, y2, z2⟩ := B
 refine Prod.ext ?_ (Prod.ext ?_ ?_)
 ·exact ring_f C.R C.b x2 y2 z2 C.b C.b C.b C.b (EC.tog exo (v 0) (z, o, z) (v 1, v 2, v 3)).1 (m (v 2) (v 1)) (by decide +kernel)
 ·exact ring_f C.R C.b x2 y2 z2 C.b C.b C.b C.b (EC.tog exo (v 0) (z, o, z) (v 1, v 2, v 3)).2.1 (m (v 2) (v 2)) (by decide +kernel)
 ·exact ring_f C.R C.b x2 y2 z2 C.b C.b C.b C.b (EC.tog exo (v 0) (z, o, z) (v 1, v 2, v 3)).2.2 (m (v 2) (v 3)) (by decide +kernel)
theorem Crv.lift_good {P : Option (α × α)} : C.good (C.lift P) := by
 rcases P with _ | ⟨x, y⟩
 ·exact fun _ => ⟨rfl, C.h1⟩
 ·exact fun h => absurd h C.h1
theorem Crv.lift_y {P : Option (α × α)} (h : C.on P) : (C.lift P).2.1 ≠ C.R.zero := by
 rcases P with _ | ⟨x, y⟩
 ·exact C.h1
 ·exact C.y_ne h
theorem Crv.good_sc {c : α} (hc : c ≠ C.R.zero) {T : Tri α} (h : C.good T) : C.good (C.sc c T) := fun e => by
 have hz : T.2.2 = C.R.zero := C.can hc (e.trans (C.R.mul_zero c).symm)
 obtain ⟨hx, hy⟩ := h hz
 refine ⟨?_, C.ne hc hy⟩
 show C.R.mul c T.1 = _
 rw [hx, C.R.mul_zero]
theorem Crv.good_of {c : α} (hc : c ≠ C.R.zero) {T : Tri α} (h : C.good (C.sc c T)) : C.good T := fun e => by
 obtain ⟨hx, hy⟩ := h (by show C.R.mul c T.2.2 = _; rw [e, C.R.mul_zero])
 exact ⟨C.can hc (hx.trans (C.R.mul_zero c).symm), fun e2 => hy (by show C.R.mul c T.2.1 = _; rw [e2, C.R.mul_zero])⟩
open Ex in
theorem Crv.cube {E w : α} (hE : E ≠ C.R.zero) (h : C.R.add (C.R.mul w (C.R.mul w w)) (C.R.mul C.b (C.R.mul E (C.R.mul E E))) = C.R.zero) : False := by
 refine C.hb (C.R.mul w (C.inv E)) ?_
 refine C.can (C.ne hE (C.ne hE hE)) ?_
 rw [C.R.mul_zero, ← h]
 have e := ring_f C.R C.b E w (C.inv E) C.b C.b C.b C.b (m (m (v 1) (m (v 1) (v 1))) (a (m (m (v 2) (v 3)) (m (m (v 2) (v 3)) (m (v 2) (v 3)))) (v 0))) (a (m (m (v 2) (m (v 2) (v 2))) (m (m (v 3) (v 1)) (m (m (v 3) (v 1)) (m (v 3) (v 1))))) (m (v 0) (m (v 1) (m (v 1) (v 1))))) (by decide +kernel)
 refine Eq.trans e ?_
 show C.R.add (C.R.mul (C.R.mul w (C.R.mul w w)) (C.R.mul (C.R.mul (C.inv E) E) (C.R.mul (C.R.mul (C.inv E) E) (C.R.mul (C.inv E) E)))) (C.R.mul C.b (C.R.mul E (C.R.mul E E))) = _
 rw [C.hinv E hE, C.R.one_mul, C.R.one_mul, C.R.mul_one]
open Ex in
theorem Crv.good_tog {P Q : Option (α × α)} (hP : C.on P) (hQ : C.on Q) : C.good (C.tog (C.lift P) (C.lift Q)) := by
 rcases P with _ | ⟨x1, y1⟩
 ·rw [C.tog_zero]
  exact C.good_sc (C.lift_y hQ) C.lift_good
 rcases Q with _ | ⟨x2, y2⟩
 ·rw [C.tog_comm, C.tog_zero]
  exact C.good_sc (C.lift_y hP) C.lift_good
 intro hZ
 have hP' : C.R.mul y1 y1 = side C.R C.b x1 := hP
 have hQ' : C.R.mul y2 y2 = side C.R C.b x2 := hQ
 by_cases hx : x1 = x2
 ·subst hx
  have hm : C.R.mul (C.R.add y1 (C.R.neg y2)) (C.R.add y1 y2) = C.R.zero := by
   refine Eq.trans (ring_f C.R y1 y2 C.b C.b C.b C.b C.b C.b (m (a (v 0) (n (v 1))) (a (v 0) (v 1))) (a (m (v 0) (v 0)) (n (m (v 1) (v 1)))) (by decide +kernel)) ?_
   show C.R.add (C.R.mul y1 y1) (C.R.neg (C.R.mul y2 y2)) = _
   rw [hP', hQ', C.R.add_neg]
  by_cases hy : y1 = y2
  ·subst hy
   have e := ring_c C.R C.b x1 x1 y1 y1 hP' hP' (EC.tog exo (v 0) (v 1, v 3, o) (v 1, v 3, o)).2.2 (m (a (v 3) (v 3)) (m (a (v 3) (v 3)) (a (v 3) (v 3)))) (by decide +kernel)
   have h2 := C.two (C.y_ne hP)
   exact absurd (e.symm.trans hZ) (C.ne h2 (C.ne h2 h2))
  ·have hs : C.R.add y1 y2 = C.R.zero := C.can (C.sub_ne hy) (hm.trans (C.R.mul_zero _).symm)
   have hn : y2 = C.R.neg y1 := C.R.neg_eq hs
   subst hn
   refine ⟨ring_c C.R C.b x1 x1 y1 y1 hP' hP' (EC.tog exo (v 0) (v 1, v 3, o) (v 1, n (v 3), o)).1 z (by decide +kernel), fun hY => ?_⟩
   have h2 := C.two (C.y_ne hP)
   refine C.cube (C.ne h2 h2) (w := C.R.mul x1 (C.R.add (C.R.mul x1 (C.R.mul x1 x1)) (C.R.neg (C.R.add (C.R.add (C.R.add C.b C.b) (C.R.add C.b C.b)) (C.R.add (C.R.add C.b C.b) (C.R.add C.b C.b)))))) ?_
   have e := ring_c C.R C.b x1 x1 y1 y1 hP' hP' (a (m (m (v 1) (a (m (v 1) (m (v 1) (v 1))) (n (a (a (a (v 0) (v 0)) (a (v 0) (v 0))) (a (a (v 0) (v 0)) (a (v 0) (v 0))))))) (m (m (v 1) (a (m (v 1) (m (v 1) (v 1))) (n (a (a (a (v 0) (v 0)) (a (v 0) (v 0))) (a (a (v 0) (v 0)) (a (v 0) (v 0))))))) (m (v 1) (a (m (v 1) (m (v 1) (v 1))) (n (a (a (a (v 0) (v 0)) (a (v 0) (v 0))) (a (a (v 0) (v 0)) (a (v 0) (v 0))))))))) (m (v 0) (m (m (a (v 3) (v 3)) (a (v 3) (v 3))) (m (m (a (v 3) (v 3)) (a (v 3) (v 3))) (m (a (v 3) (v 3)) (a (v 3) (v 3)))))))
    (m (EC.tog exo (v 0) (v 1, v 3, o) (v 1, n (v 3), o)).2.1 (EC.tog exo (v 0) (v 1, v 3, o) (v 1, n (v 3), o)).2.1) (by decide +kernel)
   refine Eq.trans e ?_
   show C.R.mul (C.tog (x1, y1, C.R.one) (x1, C.R.neg y1, C.R.one)).2.1 (C.tog (x1, y1, C.R.one) (x1, C.R.neg y1, C.R.one)).2.1 = _
   have hY' : (C.tog (x1, y1, C.R.one) (x1, C.R.neg y1, C.R.one)).2.1 = C.R.zero := hY
   rw [hY', C.R.mul_zero]
 ·exfalso
  have hd := C.sub_ne hx
  refine C.cube (C.ne hd hd) (w := C.R.add (C.R.mul (C.R.add y1 y2) (C.R.add y1 y2)) (C.R.neg (C.R.mul (C.R.add x1 x2) (C.R.mul (C.R.add x1 (C.R.neg x2)) (C.R.add x1 (C.R.neg x2)))))) ?_
  have e := ring_c C.R C.b x1 x2 y1 y2 hP' hQ' (a (m (a (m (a (v 3) (v 4)) (a (v 3) (v 4))) (n (m (a (v 1) (v 2)) (m (a (v 1) (n (v 2))) (a (v 1) (n (v 2))))))) (m (a (m (a (v 3) (v 4)) (a (v 3) (v 4))) (n (m (a (v 1) (v 2)) (m (a (v 1) (n (v 2))) (a (v 1) (n (v 2))))))) (a (m (a (v 3) (v 4)) (a (v 3) (v 4))) (n (m (a (v 1) (v 2)) (m (a (v 1) (n (v 2))) (a (v 1) (n (v 2)))))))))
   (m (v 0) (m (m (a (v 1) (n (v 2))) (a (v 1) (n (v 2)))) (m (m (a (v 1) (n (v 2))) (a (v 1) (n (v 2)))) (m (a (v 1) (n (v 2))) (a (v 1) (n (v 2))))))))
   (m (EC.tog exo (v 0) (v 1, v 3, o) (v 2, v 4, o)).2.2 (EC.tog exo (v 0) (v 1, v 3, o) (v 2, v 4, o)).2.2) (by decide +kernel)
  refine Eq.trans e ?_
  show C.R.mul (C.tog (x1, y1, C.R.one) (x2, y2, C.R.one)).2.2 (C.tog (x1, y1, C.R.one) (x2, y2, C.R.one)).2.2 = _
  have hZ' : (C.tog (x1, y1, C.R.one) (x2, y2, C.R.one)).2.2 = C.R.zero := hZ
  rw [hZ', C.R.mul_zero]
theorem Crv.over {c z x : α} (hc : c ≠ C.R.zero) (hz : z ≠ C.R.zero) : C.R.mul (C.R.mul c x) (C.inv (C.R.mul c z)) = C.R.mul x (C.inv z) := by
 refine C.can (C.ne hc hz) ?_
 have e1 : C.R.mul (C.R.mul c z) (C.R.mul (C.R.mul c x) (C.inv (C.R.mul c z))) = C.R.mul (C.R.mul (C.inv (C.R.mul c z)) (C.R.mul c z)) (C.R.mul c x) := by
  rw [C.R.mul_comm (C.R.mul c x), ← C.R.mul_assoc, C.R.mul_comm (C.R.mul c z)]
 have e2 : C.R.mul (C.R.mul c z) (C.R.mul x (C.inv z)) = C.R.mul (C.R.mul (C.inv z) z) (C.R.mul c x) := by
  rw [C.R.mul_comm x, ← C.R.mul_assoc, C.R.mul_assoc c, C.R.mul_comm z, C.R.mul_comm c, C.R.mul_assoc]
 rw [e1, e2, C.hinv _ (C.ne hc hz), C.hinv z hz]
end
section
variable {α : Type} [DecidableEq α] (C : Crv α)
def Crv.lower (T : Tri α) : Option (α × α) := if T.2.2 = C.R.zero then none else some (C.R.mul T.1 (C.inv T.2.2), C.R.mul T.2.1 (C.inv T.2.2))
def Crv.add (P Q : Option (α × α)) : Option (α × α) := C.lower (C.tog (C.lift P) (C.lift Q))
theorem Crv.lower_none {T : Tri α} (h : T.2.2 = C.R.zero) : C.lower T = none := if_pos h
theorem Crv.lower_some {T : Tri α} (h : T.2.2 ≠ C.R.zero) : C.lower T = some (C.R.mul T.1 (C.inv T.2.2), C.R.mul T.2.1 (C.inv T.2.2)) := if_neg h
theorem Crv.lower_sc {c : α} (hc : c ≠ C.R.zero) (T : Tri α) : C.lower (C.sc c T) = C.lower T := by
 by_cases hz : T.2.2 = C.R.zero
 ·rw [C.lower_none hz, C.lower_none (show C.R.mul c T.2.2 = C.R.zero by rw [hz, C.R.mul_zero])]
 ·rw [C.lower_some hz, C.lower_some (T := C.sc c T) (C.ne hc hz)]
  show some (C.R.mul (C.R.mul c T.1) (C.inv (C.R.mul c T.2.2)), C.R.mul (C.R.mul c T.2.1) (C.inv (C.R.mul c T.2.2))) = _
  rw [C.over hc hz, C.over hc hz]
theorem Crv.lower_lift (P : Option (α × α)) : C.lower (C.lift P) = P := by
 rcases P with _ | ⟨x, y⟩
 ·exact C.lower_none rfl
 ·rw [C.lower_some (T := C.lift (some (x, y))) C.h1]
  have e : C.inv C.R.one = C.R.one := by
   have := C.hinv C.R.one C.h1
   rw [C.R.mul_one] at this
   exact this
  show some (C.R.mul x (C.inv C.R.one), C.R.mul y (C.inv C.R.one)) = _
  rw [e, C.R.mul_one, C.R.mul_one]
theorem Crv.lift_lower {T : Tri α} (h : C.good T) : ∃ c, c ≠ C.R.zero ∧ C.lift (C.lower T) = C.sc c T := by
 by_cases hz : T.2.2 = C.R.zero
 ·obtain ⟨hx, hy⟩ := h hz
  refine ⟨C.inv T.2.1, C.inv_ne hy, ?_⟩
  rw [C.lower_none hz]
  show (C.R.zero, C.R.one, C.R.zero) = (C.R.mul _ T.1, C.R.mul _ T.2.1, C.R.mul _ T.2.2)
  rw [hx, hz, C.R.mul_zero, C.hinv _ hy]
 ·refine ⟨C.inv T.2.2, C.inv_ne hz, ?_⟩
  rw [C.lower_some hz]
  show (C.R.mul T.1 _, C.R.mul T.2.1 _, C.R.one) = (C.R.mul _ T.1, C.R.mul _ T.2.1, C.R.mul _ T.2.2)
  rw [C.hinv _ hz, C.R.mul_comm T.1, C.R.mul_comm T.2.1]
theorem Crv.comm (P Q : Option (α × α)) : C.add P Q = C.add Q P := by unfold Crv.add; rw [C.tog_comm]
theorem Crv.zero_add {Q : Option (α × α)} (h : C.on Q) : C.add none Q = Q := by
 unfold Crv.add
 rw [C.tog_zero, C.lower_sc (C.lift_y h), C.lower_lift]
theorem Crv.add_zero {Q : Option (α × α)} (h : C.on Q) : C.add Q none = Q := by rw [C.comm, C.zero_add h]
open Ex in
theorem Crv.add_neg (P : Option (α × α)) : C.add P (C.neg P) = none := by
 rcases P with _ | ⟨x, y⟩
 ·exact C.zero_add (Q := none) trivial
 ·exact C.lower_none (ring_f C.R C.b x y C.b C.b C.b C.b C.b (EC.tog exo (v 0) (v 1, v 2, o) (v 1, n (v 2), o)).2.2 z (by decide +kernel))
open Ex in
theorem Crv.add_on {P Q : Option (α × α)} (hP : C.on P) (hQ : C.on Q) : C.on (C.add P Q) := by
 rcases P with _ | ⟨x1, y1⟩
 ·rw [C.zero_add hQ]; exact hQ
 rcases Q with _ | ⟨x2, y2⟩
 ·rw [C.add_zero hP]; exact hP
 have hP' : C.R.mul y1 y1 = side C.R C.b x1 := hP
 have hQ' : C.R.mul y2 y2 = side C.R C.b x2 := hQ
 have e := ring_c C.R C.b x1 x2 y1 y2 hP' hQ' (m (m (EC.tog exo (v 0) (v 1, v 3, o) (v 2, v 4, o)).2.1 (EC.tog exo (v 0) (v 1, v 3, o) (v 2, v 4, o)).2.1) (EC.tog exo (v 0) (v 1, v 3, o) (v 2, v 4, o)).2.2)
  (a (m (EC.tog exo (v 0) (v 1, v 3, o) (v 2, v 4, o)).1 (m (EC.tog exo (v 0) (v 1, v 3, o) (v 2, v 4, o)).1 (EC.tog exo (v 0) (v 1, v 3, o) (v 2, v 4, o)).1)) (m (v 0) (m (EC.tog exo (v 0) (v 1, v 3, o) (v 2, v 4, o)).2.2 (m (EC.tog exo (v 0) (v 1, v 3, o) (v 2, v 4, o)).2.2 (EC.tog exo (v 0) (v 1, v 3, o) (v 2, v 4, o)).2.2)))) (by decide +kernel)
 unfold Crv.add
 generalize hT : C.tog (C.lift (some (x1, y1))) (C.lift (some (x2, y2))) = T
 have e' : C.R.mul (C.R.mul T.2.1 T.2.1) T.2.2 = C.R.add (C.R.mul T.1 (C.R.mul T.1 T.1)) (C.R.mul C.b (C.R.mul T.2.2 (C.R.mul T.2.2 T.2.2))) := by
  rw [← hT]; exact e
 clear e hT
 by_cases hz : T.2.2 = C.R.zero
 ·rw [C.lower_none hz]; trivial
 ·rw [C.lower_some hz]
  obtain ⟨X, Y, Z⟩ := T
  have hz' : Z ≠ C.R.zero := hz
  have e2 : C.R.mul (C.R.mul Y Y) Z = C.R.add (C.R.mul X (C.R.mul X X)) (C.R.mul C.b (C.R.mul Z (C.R.mul Z Z))) := e'
  show C.R.mul (C.R.mul Y (C.inv Z)) (C.R.mul Y (C.inv Z)) = C.R.add (C.R.mul (C.R.mul X (C.inv Z)) (C.R.mul (C.R.mul X (C.inv Z)) (C.R.mul X (C.inv Z)))) C.b
  refine C.can (C.ne hz' (C.ne hz' hz')) ?_
  refine Eq.trans (ring_f C.R C.b X Y Z (C.inv Z) C.b C.b C.b (m (m (v 3) (m (v 3) (v 3))) (m (m (v 2) (v 4)) (m (v 2) (v 4)))) (m (m (m (v 2) (v 2)) (v 3)) (m (m (v 4) (v 3)) (m (v 4) (v 3)))) (by decide +kernel)) ?_
  refine Eq.trans ?_ (ring_f C.R C.b X Y Z (C.inv Z) C.b C.b C.b (a (m (m (v 1) (m (v 1) (v 1))) (m (m (v 4) (v 3)) (m (m (v 4) (v 3)) (m (v 4) (v 3))))) (m (v 0) (m (v 3) (m (v 3) (v 3))))) (m (m (v 3) (m (v 3) (v 3))) (a (m (m (v 1) (v 4)) (m (m (v 1) (v 4)) (m (v 1) (v 4)))) (v 0))) (by decide +kernel))
  show C.R.mul (C.R.mul (C.R.mul Y Y) Z) (C.R.mul (C.R.mul (C.inv Z) Z) (C.R.mul (C.inv Z) Z)) = C.R.add (C.R.mul (C.R.mul X (C.R.mul X X)) (C.R.mul (C.R.mul (C.inv Z) Z) (C.R.mul (C.R.mul (C.inv Z) Z) (C.R.mul (C.inv Z) Z)))) (C.R.mul C.b (C.R.mul Z (C.R.mul Z Z)))
  rw [C.hinv Z hz', C.R.one_mul, C.R.one_mul, C.R.mul_one, C.R.mul_one]
  exact e2
theorem Crv.same {S T : Tri α} (hS : C.good S) (hT : C.good T) (h1 : C.R.mul S.1 T.2.2 = C.R.mul S.2.2 T.1) (h2 : C.R.mul S.2.1 T.2.2 = C.R.mul S.2.2 T.2.1) : C.lower S = C.lower T := by
 by_cases hs : S.2.2 = C.R.zero
 ·have ht : T.2.2 = C.R.zero := by
   obtain ⟨_, hy⟩ := hS hs
   rw [hs, C.R.zero_mul] at h2
   exact C.can hy (h2.trans (C.R.mul_zero _).symm)
  rw [C.lower_none hs, C.lower_none ht]
 ·by_cases ht : T.2.2 = C.R.zero
  ·obtain ⟨_, hy⟩ := hT ht
   rw [ht, C.R.mul_zero] at h2
   exact absurd (C.can hs (h2.symm.trans (C.R.mul_zero _).symm)) hy
  ·rw [C.lower_some hs, C.lower_some ht]
   have q : ∀ x y : α, C.R.mul x T.2.2 = C.R.mul S.2.2 y → C.R.mul x (C.inv S.2.2) = C.R.mul y (C.inv T.2.2) := fun x y h => by
    have e := C.over (c := T.2.2) (z := S.2.2) (x := x) ht hs
    rw [← e, C.R.mul_comm T.2.2 x, h, C.R.mul_comm T.2.2 S.2.2, C.over hs ht]
   rw [q _ _ h1, q _ _ h2]
theorem Crv.assoc {P Q U : Option (α × α)} (hP : C.on P) (hQ : C.on Q) (hU : C.on U) : C.add (C.add P Q) U = C.add P (C.add Q U) := by
 rcases P with _ | ⟨x1, y1⟩
 ·rw [C.zero_add hQ, C.zero_add (C.add_on hQ hU)]
 rcases Q with _ | ⟨x2, y2⟩
 ·rw [C.add_zero hP, C.zero_add hU]
 rcases U with _ | ⟨x3, y3⟩
 ·rw [C.add_zero (C.add_on hP hQ), C.add_zero hQ]
 obtain ⟨h1, h2⟩ := tog_assoc C.R C.b x1 x2 x3 y1 y2 y3 hP hQ hU
 obtain ⟨c, hc, ec⟩ := C.lift_lower (C.good_tog hP hQ)
 obtain ⟨d, hd, ed⟩ := C.lift_lower (C.good_tog hQ hU)
 have gl := C.good_tog (C.add_on hP hQ) hU
 have gr := C.good_tog hP (C.add_on hQ hU)
 have el : C.tog (C.lift (C.add (some (x1, y1)) (some (x2, y2)))) (C.lift (some (x3, y3))) = C.sc (C.R.mul c c) (C.tog (C.tog (C.lift (some (x1, y1))) (C.lift (some (x2, y2)))) (C.lift (some (x3, y3)))) := by
  unfold Crv.add
  rw [ec, C.tog_sc]
 have er : C.tog (C.lift (some (x1, y1))) (C.lift (C.add (some (x2, y2)) (some (x3, y3)))) = C.sc (C.R.mul d d) (C.tog (C.lift (some (x1, y1))) (C.tog (C.lift (some (x2, y2))) (C.lift (some (x3, y3))))) := by
  unfold Crv.add
  rw [ed, C.tog_sc']
 rw [el] at gl
 rw [er] at gr
 show C.lower (C.tog (C.lift (C.add (some (x1, y1)) (some (x2, y2)))) (C.lift (some (x3, y3)))) = C.lower (C.tog (C.lift (some (x1, y1))) (C.lift (C.add (some (x2, y2)) (some (x3, y3)))))
 rw [el, er, C.lower_sc (C.ne hc hc), C.lower_sc (C.ne hd hd)]
 exact C.same (C.good_of (C.ne hc hc) gl) (C.good_of (C.ne hd hd) gr) h1 h2
end
end EC
end Go.Proofs.YtaomlijondiaoaaGreatDoor
end
section
namespace Go.Proofs.YtaomlijondiaoaaGreatDoor
namespace EC
section
variable {β : Type _} (O : Ops β)
def od (a : β) : β := O.add a a
def twi (b : β) (p : Tri β) : Tri β :=
 let yy := O.mul p.2.1 p.2.1
 let yz := O.mul p.2.1 p.2.2
 let zz3 := o3 O (O.mul b (O.mul p.2.2 p.2.2))
 let yy8 := od O (od O (od O yy))
 let less := osub O yy (o3 O zz3)
 let more := O.add yy zz3
 (od O (O.mul less (O.mul p.1 p.2.1)), O.add (O.mul less more) (O.mul yy8 zz3), O.mul yy8 yz)
end
section
variable {α : Type} (C : Crv α)
open Ex in
theorem Crv.twi_sc (c : α) (A : Tri α) : twi (rops C.R) C.b (C.sc c A) = C.sc (C.R.mul (C.R.mul c c) (C.R.mul c c)) (twi (rops C.R) C.b A) := by
 obtain ⟨x1, y1, z1⟩ := A
 refine Prod.ext ?_ (Prod.ext ?_ ?_)
 ·exact ring_f C.R C.b x1 y1 z1 c C.b C.b C.b (twi exo (v 0) (m (v 4) (v 1), m (v 4) (v 2), m (v 4) (v 3))).1 (m (m (m (v 4) (v 4)) (m (v 4) (v 4))) (twi exo (v 0) (v 1, v 2, v 3)).1) (by decide +kernel)
 ·exact ring_f C.R C.b x1 y1 z1 c C.b C.b C.b (twi exo (v 0) (m (v 4) (v 1), m (v 4) (v 2), m (v 4) (v 3))).2.1 (m (m (m (v 4) (v 4)) (m (v 4) (v 4))) (twi exo (v 0) (v 1, v 2, v 3)).2.1) (by decide +kernel)
 ·exact ring_f C.R C.b x1 y1 z1 c C.b C.b C.b (twi exo (v 0) (m (v 4) (v 1), m (v 4) (v 2), m (v 4) (v 3))).2.2 (m (m (m (v 4) (v 4)) (m (v 4) (v 4))) (twi exo (v 0) (v 1, v 2, v 3)).2.2) (by decide +kernel)
open Ex in
theorem Crv.twi_tog {x y : α} (h : C.on (some (x, y))) : twi (rops C.R) C.b (x, y, C.R.one) = C.tog (x, y, C.R.one) (x, y, C.R.one) := by
 have h' : C.R.mul y y = side C.R C.b x := h
 refine Prod.ext ?_ (Prod.ext ?_ ?_)
 ·exact ring_c C.R C.b x x y y h' h' (twi exo (v 0) (v 1, v 3, o)).1 (EC.tog exo (v 0) (v 1, v 3, o) (v 1, v 3, o)).1 (by decide +kernel)
 ·exact ring_c C.R C.b x x y y h' h' (twi exo (v 0) (v 1, v 3, o)).2.1 (EC.tog exo (v 0) (v 1, v 3, o) (v 1, v 3, o)).2.1 (by decide +kernel)
 ·exact ring_c C.R C.b x x y y h' h' (twi exo (v 0) (v 1, v 3, o)).2.2 (EC.tog exo (v 0) (v 1, v 3, o) (v 1, v 3, o)).2.2 (by decide +kernel)
theorem Crv.sc_sc (c d : α) (T : Tri α) : C.sc c (C.sc d T) = C.sc (C.R.mul c d) T := by
 show (C.R.mul c (C.R.mul d _), C.R.mul c (C.R.mul d _), C.R.mul c (C.R.mul d _)) = (C.R.mul (C.R.mul c d) _, C.R.mul (C.R.mul c d) _, C.R.mul (C.R.mul c d) _)
 rw [C.R.mul_assoc, C.R.mul_assoc, C.R.mul_assoc]
theorem Crv.sc_one (T : Tri α) : C.sc C.R.one T = T := by
 show (C.R.mul _ T.1, C.R.mul _ T.2.1, C.R.mul _ T.2.2) = T
 rw [C.R.one_mul, C.R.one_mul, C.R.one_mul]
def Crv.rep (T : Tri α) (P : Option (α × α)) : Prop := ∃ c, c ≠ C.R.zero ∧ T = C.sc c (C.lift P)
theorem Crv.rep_lift (P : Option (α × α)) : C.rep (C.lift P) P := ⟨C.R.one, C.h1, (C.sc_one _).symm⟩
theorem Crv.rep_sc {T : Tri α} {P : Option (α × α)} {c : α} (hc : c ≠ C.R.zero) (h : C.rep T P) : C.rep (C.sc c T) P := by
 obtain ⟨d, hd, e⟩ := h
 exact ⟨C.R.mul c d, C.ne hc hd, by rw [e, C.sc_sc]⟩
end
section
variable {α : Type} [DecidableEq α] (C : Crv α)
theorem Crv.rep_lower {T : Tri α} {P : Option (α × α)} (h : C.rep T P) : C.lower T = P := by
 obtain ⟨c, hc, e⟩ := h
 rw [e, C.lower_sc hc, C.lower_lift]
theorem Crv.rep_of {T : Tri α} (h : C.good T) : C.rep T (C.lower T) := by
 obtain ⟨c, hc, e⟩ := C.lift_lower h
 refine ⟨C.inv c, C.inv_ne hc, ?_⟩
 rw [e, C.sc_sc, C.hinv c hc, C.sc_one]
theorem Crv.rep_tog {A B : Tri α} {P Q : Option (α × α)} (hA : C.rep A P) (hB : C.rep B Q) (hP : C.on P) (hQ : C.on Q) : C.rep (C.tog A B) (C.add P Q) := by
 obtain ⟨c, hc, rfl⟩ := hA
 obtain ⟨d, hd, rfl⟩ := hB
 rw [C.tog_sc, C.tog_sc', C.sc_sc]
 exact C.rep_sc (C.ne (C.ne hc hc) (C.ne hd hd)) (C.rep_of (C.good_tog hP hQ))
def Crv.twice (A : Tri α) : Tri α := if A.2.2 = C.R.zero then A else twi (rops C.R) C.b A
theorem Crv.rep_twice {A : Tri α} {P : Option (α × α)} (hA : C.rep A P) (hP : C.on P) : C.rep (C.twice A) (C.add P P) := by
 obtain ⟨c, hc, rfl⟩ := hA
 rcases P with _ | ⟨x, y⟩
 ·unfold Crv.twice
  rw [if_pos (show (C.sc c (C.lift none)).2.2 = C.R.zero from C.R.mul_zero c), C.zero_add (Q := none) trivial]
  exact ⟨c, hc, rfl⟩
 ·unfold Crv.twice
  rw [if_neg (show (C.sc c (C.lift (some (x, y)))).2.2 ≠ C.R.zero from C.ne hc C.h1), C.twi_sc]
  refine C.rep_sc (C.ne (C.ne hc hc) (C.ne hc hc)) ?_
  show C.rep (twi (rops C.R) C.b (x, y, C.R.one)) _
  rw [C.twi_tog hP]
  exact C.rep_of (C.good_tog hP hP)
def Crv.times (P : Option (α × α)) : Nat → Option (α × α)
 | 0 => none
 | n + 1 => C.add (Crv.times P n) P
theorem Crv.times_on {P : Option (α × α)} (h : C.on P) : ∀ n, C.on (C.times P n)
 | 0 => trivial
 | n + 1 => C.add_on (Crv.times_on h n) h
theorem Crv.times_add {P : Option (α × α)} (h : C.on P) (m : Nat) : ∀ n, C.times P (m + n) = C.add (C.times P m) (C.times P n)
 | 0 => (C.add_zero (C.times_on h m)).symm
 | n + 1 => by
  show C.add (C.times P (m + n)) P = C.add (C.times P m) (C.add (C.times P n) P)
  rw [Crv.times_add h m n, C.assoc (C.times_on h m) (C.times_on h n) h]
theorem Crv.times_one {P : Option (α × α)} (h : C.on P) : C.times P 1 = P := C.zero_add h
theorem Crv.times_mul {P : Option (α × α)} (h : C.on P) (m : Nat) : ∀ n, C.times P (m * n) = C.times (C.times P m) n
 | 0 => rfl
 | n + 1 => by
  rw [Nat.mul_succ, C.times_add h, Crv.times_mul h m n]
  rfl
end
end EC
end Go.Proofs.YtaomlijondiaoaaGreatDoor
end
section
namespace Go.Proofs.YtaomlijondiaoaaGreatDoor
namespace EC
open Ex in
def pairR {α : Type} (R : Rng α) : Rng (α × α) where
 add := fun f g => (R.add f.1 g.1, R.add f.2 g.2)
 mul := fun f g => (R.add (R.mul f.1 g.1) (R.neg (R.mul f.2 g.2)), R.add (R.mul f.1 g.2) (R.mul f.2 g.1))
 zero := (R.zero, R.zero)
 one := (R.one, R.zero)
 neg := fun f => (R.neg f.1, R.neg f.2)
 add_comm := fun f g => Prod.ext (R.add_comm _ _) (R.add_comm _ _)
 add_assoc := fun f g h => Prod.ext (R.add_assoc _ _ _) (R.add_assoc _ _ _)
 zero_add := fun f => Prod.ext (R.zero_add _) (R.zero_add _)
 neg_add := fun f => Prod.ext (R.neg_add _) (R.neg_add _)
 mul_comm := fun f g => Prod.ext
  (ring_f R f.1 f.2 g.1 g.2 R.zero R.zero R.zero R.zero (a (m (v 0) (v 2)) (n (m (v 1) (v 3)))) (a (m (v 2) (v 0)) (n (m (v 3) (v 1)))) (by decide +kernel))
  (ring_f R f.1 f.2 g.1 g.2 R.zero R.zero R.zero R.zero (a (m (v 0) (v 3)) (m (v 1) (v 2))) (a (m (v 2) (v 1)) (m (v 3) (v 0))) (by decide +kernel))
 mul_assoc := fun f g h => Prod.ext
  (ring_f R f.1 f.2 g.1 g.2 h.1 h.2 R.zero R.zero (a (m (a (m (v 0) (v 2)) (n (m (v 1) (v 3)))) (v 4)) (n (m (a (m (v 0) (v 3)) (m (v 1) (v 2))) (v 5)))) (a (m (v 0) (a (m (v 2) (v 4)) (n (m (v 3) (v 5))))) (n (m (v 1) (a (m (v 2) (v 5)) (m (v 3) (v 4)))))) (by decide +kernel))
  (ring_f R f.1 f.2 g.1 g.2 h.1 h.2 R.zero R.zero (a (m (a (m (v 0) (v 2)) (n (m (v 1) (v 3)))) (v 5)) (m (a (m (v 0) (v 3)) (m (v 1) (v 2))) (v 4))) (a (m (v 0) (a (m (v 2) (v 5)) (m (v 3) (v 4)))) (m (v 1) (a (m (v 2) (v 4)) (n (m (v 3) (v 5)))))) (by decide +kernel))
 one_mul := fun f => Prod.ext
  (ring_f R f.1 f.2 R.zero R.zero R.zero R.zero R.zero R.zero (a (m o (v 0)) (n (m z (v 1)))) (v 0) (by decide +kernel))
  (ring_f R f.1 f.2 R.zero R.zero R.zero R.zero R.zero R.zero (a (m o (v 1)) (m z (v 0))) (v 1) (by decide +kernel))
 mul_add := fun f g h => Prod.ext
  (ring_f R f.1 f.2 g.1 g.2 h.1 h.2 R.zero R.zero (a (m (v 0) (a (v 2) (v 4))) (n (m (v 1) (a (v 3) (v 5))))) (a (a (m (v 0) (v 2)) (n (m (v 1) (v 3)))) (a (m (v 0) (v 4)) (n (m (v 1) (v 5))))) (by decide +kernel))
  (ring_f R f.1 f.2 g.1 g.2 h.1 h.2 R.zero R.zero (a (m (v 0) (a (v 3) (v 5))) (m (v 1) (a (v 2) (v 4)))) (a (a (m (v 0) (v 3)) (m (v 1) (v 2))) (a (m (v 0) (v 5)) (m (v 1) (v 4)))) (by decide +kernel))
def pinv {α : Type} (R : Rng α) (inv : α → α) (a : α × α) : α × α :=
 (R.mul a.1 (inv (R.add (R.mul a.1 a.1) (R.mul a.2 a.2))), R.neg (R.mul a.2 (inv (R.add (R.mul a.1 a.1) (R.mul a.2 a.2)))))
open Ex in
theorem pinv_mul {α : Type} (R : Rng α) (inv : α → α) (hinv : ∀ a, a ≠ R.zero → R.mul (inv a) a = R.one) (hn : ∀ x y, R.add (R.mul x x) (R.mul y y) = R.zero → x = R.zero ∧ y = R.zero) (f : α × α) (ha : f ≠ (pairR R).zero) : (pairR R).mul (pinv R inv f) f = (pairR R).one := by
 obtain ⟨x, y⟩ := f
 have hd : R.add (R.mul x x) (R.mul y y) ≠ R.zero := fun h => ha (by
  obtain ⟨h1, h2⟩ := hn x y h
  rw [h1, h2]
  rfl)
 have e := hinv _ hd
 refine Prod.ext ?_ ?_
 ·refine Eq.trans (ring_f R x y (inv (R.add (R.mul x x) (R.mul y y))) R.zero R.zero R.zero R.zero R.zero (a (m (m (v 0) (v 2)) (v 0)) (n (m (n (m (v 1) (v 2))) (v 1)))) (m (v 2) (a (m (v 0) (v 0)) (m (v 1) (v 1)))) (by decide +kernel)) e
 ·exact ring_f R x y (inv (R.add (R.mul x x) (R.mul y y))) R.zero R.zero R.zero R.zero R.zero (a (m (m (v 0) (v 2)) (v 1)) (m (n (m (v 1) (v 2))) (v 0))) z (by decide +kernel)
end EC
end Go.Proofs.YtaomlijondiaoaaGreatDoor
end
section
namespace Go.Proofs.YtaomlijondiaoaaGreatDoor
open Go.RowKit
namespace Rg
theorem inv_ex {n a : Nat} (ok : Ok n) (hg : Nat.gcd n a = 1) : ∃ x, x < n ∧ x * a % n = 1 := by
 have key : ∀ (m : Nat) (z : WS), z.o + z.r = m → WI n a z → ∃ x, x < n ∧ x * a % n = 1 := by
  intro m
  induction m using Nat.strongRecOn with
  | _ m ih =>
   intro z hz I
   obtain ⟨o, r, u, v, h, t⟩ := z
   simp only at hz
   by_cases hr : r = 0
   ·subst hr
    have ho : o = 1 := by
     have h1 : Nat.gcd o 0 = Nat.gcd n a := I.gcd
     rw [Nat.gcd_zero_right] at h1
     rw [h1]; exact hg
    cases t with
    | true => exact ⟨_, Nat.mod_lt _ ok.pos, end_true ok I ho⟩
    | false => exact ⟨_, Nat.mod_lt _ ok.pos, end_false ok I ho⟩
   ·have hrb : r < big := by have h1 : r ≤ n := I.rn; have := ok.big; omega
    obtain ⟨k, r1, hk, er, hr1, _⟩ := trailing_any hrb hr
    obtain ⟨p1, p2, _⟩ := I.facts hr er
    obtain ⟨i1, i2⟩ := I.next hr er hr1
    have hle : r1 ≤ r := by rw [er]; exact Nat.le_mul_of_pos_right _ (Nat.two_pow_pos k)
    by_cases hl : r1 < o
    ·exact ih (r1 + (o - r1)) (by omega) _ rfl (i1 hl)
    ·exact ih (o + (r1 - o)) (by omega) _ rfl (i2 hl)
 exact key _ ⟨n, a % n, 0, 1, 0, false⟩ rfl (WI.start ok)
theorem invm_spec {n a : Nat} (ok : Ok n) (hg : Nat.gcd n a = 1) : invm n a < n ∧ invm n a * a % n = 1 := by
 obtain ⟨x, hx, h1⟩ := inv_ex ok hg
 rw [invm_eq hx h1]
 exact ⟨hx, h1⟩
end Rg
end Go.Proofs.YtaomlijondiaoaaGreatDoor
end
section
namespace Go.Proofs.YtaomlijondiaoaaGreatDoor
open Go.RowKit
namespace Rg
open NT
abbrev Fp := {n : Nat // n < pB}
theorem pB_pos : 0 < pB := pB_prm.pos
theorem pB_one : 1 < pB := pB_prm.1
theorem pB_four_lt : 4 < pB := by decide +kernel
def fpR : EC.Rng Fp where
 add := fun a b => ⟨(a.1 + b.1) % pB, Nat.mod_lt _ pB_pos⟩
 mul := fun a b => ⟨a.1 * b.1 % pB, Nat.mod_lt _ pB_pos⟩
 zero := ⟨0, pB_pos⟩
 one := ⟨1, pB_one⟩
 neg := fun a => ⟨(pB - a.1) % pB, Nat.mod_lt _ pB_pos⟩
 add_comm := fun a b => Subtype.ext (by dsimp only; rw [Nat.add_comm])
 add_assoc := fun a b c => Subtype.ext (by dsimp only; rw [Nat.mod_add_mod, Nat.add_mod_mod, Nat.add_assoc])
 zero_add := fun a => Subtype.ext (by dsimp only; rw [Nat.zero_add, Nat.mod_eq_of_lt a.2])
 neg_add := fun a => Subtype.ext (by
  dsimp only
  rw [Nat.mod_add_mod, Nat.sub_add_cancel (Nat.le_of_lt a.2), Nat.mod_self])
 mul_comm := fun a b => Subtype.ext (by dsimp only; rw [Nat.mul_comm])
 mul_assoc := fun a b c => Subtype.ext (by dsimp only; rw [Nat.mod_mul_mod, Nat.mul_mod_mod, Nat.mul_assoc])
 one_mul := fun a => Subtype.ext (by dsimp only; rw [Nat.one_mul, Nat.mod_eq_of_lt a.2])
 mul_add := fun a b c => Subtype.ext (by dsimp only; rw [Nat.mul_mod_mod, Nat.mul_add, Nat.add_mod])
def fpI (a : Fp) : Fp := ⟨invm pB a.1 % pB, Nat.mod_lt _ pB_pos⟩
theorem fp_gcd {a : Fp} (h : a ≠ fpR.zero) : Nat.gcd pB a.1 = 1 := by
 refine pB_prm.cop (fun hd => h ?_)
 refine Subtype.ext ?_
 show a.1 = 0
 have h2 := a.2
 rcases Nat.eq_zero_or_pos a.1 with h0 | h0
 ·exact h0
 ·have := Nat.le_of_dvd h0 hd
  omega
theorem fpI_val {a : Fp} (h : a ≠ fpR.zero) : (fpI a).1 = invm pB a.1 := Nat.mod_eq_of_lt (invm_spec pB_ok (fp_gcd h)).1
theorem fpI_mul (a : Fp) (h : a ≠ fpR.zero) : fpR.mul (fpI a) a = fpR.one := by
 refine Subtype.ext ?_
 show (fpI a).1 * a.1 % pB = 1
 rw [fpI_val h]
 exact (invm_spec pB_ok (fp_gcd h)).2
def fp4 : Fp := ⟨4, pB_four_lt⟩
theorem not_dv {k : Nat} (h0 : 0 < k) (h : k < pB) : ¬ Dv (k : Int) := fun hd => by
 have := Nat.le_of_dvd h0 ((dv_nat (k : Int)).1 hd)
 omega
theorem side_dv {t : Fp} (h : EC.side fpR fp4 t = fpR.zero) : Dv ((t.1 : Int) * ((t.1 : Int) * t.1) + 4) := by
 have e : (t.1 * (t.1 * t.1 % pB) % pB + 4) % pB = 0 := congrArg Subtype.val h
 rw [Nat.mul_mod_mod, Nat.mod_add_mod] at e
 have hd : (pB : Int) ∣ ((t.1 * (t.1 * t.1) + 4 : Nat) : Int) := Int.ofNat_dvd.2 (Nat.dvd_of_mod_eq_zero e)
 rw [Int.natCast_add, Int.natCast_mul, Int.natCast_mul] at hd
 exact hd
theorem fp_cube (t : Fp) : EC.side fpR fp4 t ≠ fpR.zero := fun h => by
 have hd := side_dv h
 have h2 : Dv (2 : Int) := two_cb (m := (t.1 : Int) * t.1) (k := 2) ((hd.mul ((t.1 : Int) * ((t.1 : Int) * t.1) - 4)).of (by grind))
 exact not_dv (k := 2) (by decide) (by decide +kernel) h2
theorem fp_two : fpR.add fpR.one fpR.one ≠ fpR.zero := fun h => by
 have e : (1 + 1) % pB = 0 := congrArg Subtype.val h
 revert e
 decide +kernel
theorem fp_one : fpR.one ≠ fpR.zero := fun h => absurd (congrArg Subtype.val h) (by decide)
def yC (I : Fp → Fp) : Prop := ∀ a, a ≠ fpR.zero → fpR.mul (I a) a = fpR.one
theorem inv1_ex : ∃ I, yC I := ⟨fpI, fpI_mul⟩
def K1 {I : Fp → Fp} (hI : yC I) : EC.Crv Fp := ⟨fpR, I, fp4, hI, fp_cube, fp_one, fp_two⟩
/-! Pairs. -/
abbrev Fq := Fp × Fp
theorem fp_norm (x y : Fp) (h : fpR.add (fpR.mul x x) (fpR.mul y y) = fpR.zero) : x = fpR.zero ∧ y = fpR.zero := by
 have e : (x.1 * x.1 % pB + y.1 * y.1 % pB) % pB = 0 := congrArg Subtype.val h
 rw [Nat.mod_add_mod, Nat.add_mod_mod] at e
 have hd : (pB : Int) ∣ ((x.1 * x.1 + y.1 * y.1 : Nat) : Int) := Int.ofNat_dvd.2 (Nat.dvd_of_mod_eq_zero e)
 rw [Int.natCast_add, Int.natCast_mul, Int.natCast_mul] at hd
 obtain ⟨h1, h2⟩ := norm0 (x := (x.1 : Int)) (y := (y.1 : Int)) hd
 have z : ∀ a : Fp, Dv (a.1 : Int) → a = fpR.zero := fun a ha => by
  refine Subtype.ext ?_
  show a.1 = 0
  rcases Nat.eq_zero_or_pos a.1 with h0 | h0
  ·exact h0
  ·exact absurd ha (not_dv h0 a.2)
 exact ⟨z x h1, z y h2⟩
def fqR : EC.Rng Fq := EC.pairR fpR
def fq4 : Fq := (fp4, fp4)
theorem fpz (a b : Fp) : (((fpR.add a b).1 : Nat) : Int) % pB = ((a.1 : Int) + b.1) % pB := by
 show (((a.1 + b.1) % pB : Nat) : Int) % pB = _
 rw [Int.natCast_emod, Int.emod_emod, Int.natCast_add]
theorem fpm (a b : Fp) : (((fpR.mul a b).1 : Nat) : Int) % pB = ((a.1 : Int) * b.1) % pB := by
 show (((a.1 * b.1) % pB : Nat) : Int) % pB = _
 rw [Int.natCast_emod, Int.emod_emod, Int.natCast_mul]
theorem fpn (a : Fp) : (((fpR.neg a).1 : Nat) : Int) % pB = (-(a.1 : Int)) % pB := by
 show (((pB - a.1) % pB : Nat) : Int) % pB = _
 rw [Int.natCast_emod, Int.emod_emod, Int.ofNat_sub (Nat.le_of_lt a.2), Int.sub_eq_add_neg, Int.add_emod_left]
def Cg (a : Fp) (x : Int) : Prop := Dv ((a.1 : Int) - x)
theorem cg_of {a : Fp} {x : Int} (h : ((a.1 : Nat) : Int) % pB = x % pB) : Cg a x := Int.dvd_of_emod_eq_zero (Int.emod_eq_emod_iff_emod_sub_eq_zero.1 h)
theorem cg_self (a : Fp) : Cg a a.1 := cg_of rfl
theorem Cg.add {a b : Fp} {x y : Int} (h : Cg a x) (k : Cg b y) : Cg (fpR.add a b) (x + y) := by
 have e : Dv (((fpR.add a b).1 : Int) - ((a.1 : Int) + b.1)) := cg_of (fpz a b)
 have h1 : Dv ((a.1 : Int) - x) := h
 have h2 : Dv ((b.1 : Int) - y) := k
 exact Dv.of ((e.add h1).add h2) (by omega)
theorem Cg.mul {a b : Fp} {x y : Int} (h : Cg a x) (k : Cg b y) : Cg (fpR.mul a b) (x * y) := by
 show Dv (((fpR.mul a b).1 : Int) - x * y)
 have e : Dv (((fpR.mul a b).1 : Int) - ((a.1 : Int) * b.1)) := cg_of (fpm a b)
 have h1 : Dv ((a.1 : Int) - x) := h
 have h2 : Dv ((b.1 : Int) - y) := k
 have h3 := h1.mulr (b.1 : Int)
 have h4 := h2.mul x
 clear h k h1 h2
 generalize ((fpR.mul a b).1 : Int) = m at *
 generalize (a.1 : Int) = u at *
 generalize (b.1 : Int) = v at *
 exact Dv.of ((e.add h3).add h4) (by grind)
theorem Cg.neg {a : Fp} {x : Int} (h : Cg a x) : Cg (fpR.neg a) (-x) := by
 have e : Dv (((fpR.neg a).1 : Int) - -(a.1 : Int)) := cg_of (fpn a)
 have h1 : Dv ((a.1 : Int) - x) := h
 exact Dv.of (e.sub h1) (by omega)
theorem Cg.zero {a : Fp} {x : Int} (h : Cg a x) (e : a = fpR.zero) : Dv x := by
 subst e
 exact ((dv_zero).sub h).of (by show 0 - (((0 : Nat) : Int) - x) = x; omega)
theorem fq_cube (t : Fq) : EC.side fqR fq4 t ≠ fqR.zero := fun h => by
 obtain ⟨x, y⟩ := t
 have cx := cg_self x
 have cy := cg_self y
 generalize (x.1 : Int) = X at cx
 generalize (y.1 : Int) = Y at cy
 have c4 : Cg fp4 4 := cg_self fp4
 have h1 := Cg.zero (((cx.mul ((cx.mul cx).add (cy.mul cy).neg)).add (cy.mul ((cx.mul cy).add (cy.mul cx))).neg).add c4) (congrArg Prod.fst h)
 have h2 := Cg.zero (((cx.mul ((cx.mul cy).add (cy.mul cx))).add (cy.mul ((cx.mul cx).add (cy.mul cy).neg))).add c4) (congrArg Prod.snd h)
 clear cx cy c4 h
 have h8 : Dv (8 : Int) := two_cb (m := (X * X + Y * Y) * (X * X + Y * Y)) (k := 8) (by
  have e := (h1.mulr (X * (X * X + -(Y * Y)) + -(Y * (X * Y + Y * X)) - 4)).add (h2.mulr (X * (X * Y + Y * X) + Y * (X * X + -(Y * Y)) - 4))
  have e2 := e.mulr ((X * X + Y * Y) * (X * X + Y * Y) * (X * X + Y * Y) + 32)
  exact e2.of (by grind))
 exact not_dv (k := 8) (by decide) (by decide +kernel) h8
theorem fq_one : fqR.one ≠ fqR.zero := fun h => fp_one (congrArg Prod.fst h)
theorem fq_two : fqR.add fqR.one fqR.one ≠ fqR.zero := fun h => fp_two (congrArg Prod.fst h)
def K2 {I : Fp → Fp} (hI : yC I) : EC.Crv Fq := ⟨fqR, EC.pinv fpR I, fq4, fun a h => EC.pinv_mul fpR I hI fp_norm a h, fq_cube, fq_one, fq_two⟩
end Rg
end Go.Proofs.YtaomlijondiaoaaGreatDoor
end
