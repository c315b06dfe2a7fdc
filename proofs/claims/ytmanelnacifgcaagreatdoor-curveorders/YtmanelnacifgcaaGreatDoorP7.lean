/- Texts of the proof, joined. -/
import Derived.Test.YtmanelnacifgcaaGreatDoorP6
set_option maxRecDepth 100000
section
namespace Go.Proofs.YtmanelnacifgcaaGreatDoor
open Go.RowKit
namespace Rg
theorem zero_1 {α : Type} {en : α → Nat} {fa fs fm : α → α → α} {fi : α → α} {z u b : α} {g : Nat} {tn : Value} (_C : Fd1 g en fa fs fm fi z) (w : World) (hm : Mm w [(g, zV pB), (2, dtab)]) :
  Calls Tryz.prog 89 #[.agg (G1 g tn (en u) (en b)).toArray] w (Rt w (V [0, en u, 0])) := by
 have H0 : Hid (_ ∧ _) := ⟨hm, Below.refl w.heap.size w⟩
 clear hm
 go_enter Tryz.func89, Tryz.ntmps89
 refine wp_seq ?_
 refine zB 2 [.made (G1 g tn (en u) (en b)) 82, .made (cel [0, 0, 0]) 124] (sB H0) ?ho1 ?he1
 case ho1 => exact am (zS rfl rfl) (am (ex_madeTN rfl) trivial)
 intro J w1 l hM hl
 have H1 : Hid (Mm w1 ([(J 0, G1 g tn (en u) (en b)), (J 1, cel [0, 0, 0])] ++ _) ∧ _) := wB H0 hM hl [0, 1]
 have o1_0 := vB H0 hM hl 0
 have o1_1 := vB H0 hM hl 1
 clear hM hl l
 generalize J 0 = J1_0 at H1 o1_0 ⊢
 generalize J 1 = J1_1 at H1 o1_1 ⊢
 clear J
 refine rN (wp_seq ?_)
 refine zC 4 [.q (PT J1_0 0), .q (PT J1_0 5), .q (N (en u)), .q (V [0, en u, 0])] H1 ?ho2 ?he2
 case ho2 => exact ag (ag (bN 0 (ak (fun J => ⟨rfl, fun w' _ => ex_buildTNy rfl rfl⟩) trivial)))
 intro _ w2 H2
 clear H1
 refine zF (l := [4]) rfl ?_
 refine sF 1 [0, en u, 0] [_, _, _, _] H2 o1_1 As124 fun w3 H3 => ?_
 clear H2
 refine zE (zA (wp_ret ?_))
 repeat (first | refine zK ?_ | refine zH ?_)
 have hf0 := cel_var (k := 3) H3.out.1 1 rfl Ai124 As124 rfl
 refine bodyPost_ret (v := V [0, en u, 0]) (by simp [results, Tryz.results89, asAddr, hf0]) rfl ?_
 exact ⟨rfl, H3.out.2⟩
theorem liftT_1 {α : Type} {en : α → Nat} {fa fs fm : α → α → α} {fi : α → α} {z u b : α} {g : Nat} {tn : Value} (C : Fd1 g en fa fs fm fi z) (x y : Nat) (w : World) (hm : Mm w [(g, zV pB), (2, dtab)]) :
  Calls Tryz.prog 74 #[.agg (G1 g tn (en u) (en b)).toArray, .agg (yC x y true).toArray] w (Rt w (V [0, en u, 0])) := by
 have H0 : Hid (_ ∧ _) := ⟨hm, Below.refl w.heap.size w⟩
 clear hm
 go_enter Tryz.func74, Tryz.ntmps74
 refine wp_seq ?_
 refine zB 3 [.made (G1 g tn (en u) (en b)) 82, .made (yC x y true) 85, .made (cel [0, 0, 0]) 124] (sB H0) ?ho1 ?he1
 case ho1 => exact am (zS rfl rfl) (am (zS rfl rfl) (am (ex_madeTN rfl) trivial))
 intro J w1 l hM hl
 have H1 : Hid (Mm w1 ([(J 0, G1 g tn (en u) (en b)), (J 1, yC x y true), (J 2, cel [0, 0, 0])] ++ _) ∧ _) := wB H0 hM hl [0, 1, 2]
 have o1_0 := vB H0 hM hl 0
 have o1_1 := vB H0 hM hl 1
 have o1_2 := vB H0 hM hl 2
 clear hM hl l
 generalize J 0 = J1_0 at H1 o1_0 ⊢
 generalize J 1 = J1_1 at H1 o1_1 ⊢
 generalize J 2 = J1_2 at H1 o1_2 ⊢
 clear J
 refine rN (wp_seq (wp_seq ?_))
 refine zC 2 [.q (PT J1_1 12), .q (.bool true)] H1 ?ho2 ?he2
 case ho2 => exact ag (bC 1 Ai4 trivial)
 intro _ w2 H2
 clear H1
 refine rN (wp_cond_true rfl (wp_seq ?_))
 refine zC 2 [.q (.agg (G1 g tn (en u) (en b)).toArray), .call (V [0, en u, 0])] H2 ?ho3 ?he3
 case ho3 => exact bT 0 Ai82 As82 (ac (fun w' h => eC call89 (zero_1 C w' (h.two 3 4 rfl rfl (by decide)))) trivial)
 intro _ w3 H3
 clear H2
 refine zF (l := [2]) rfl ?_
 refine sF 2 [0, en u, 0] [_, _, _, _, _] H3 o1_2 As124 fun w4 H4 => ?_
 clear H3
 refine zE (zA (wp_ret ?_))
 repeat (first | refine zK ?_ | refine zH ?_)
 have hf0 := cel_var (k := 3) H4.out.1 2 rfl Ai124 As124 rfl
 refine bodyPost_ret (v := V [0, en u, 0]) (by simp [results, Tryz.results74, asAddr, hf0]) rfl ?_
 exact ⟨rfl, H4.out.2⟩
theorem liftF_1 {α : Type} {en : α → Nat} {fa fs fm : α → α → α} {fi : α → α} {z u b : α} {g : Nat} {tn : Value} (_C : Fd1 g en fa fs fm fi z) (x y : Nat) (w : World) (hm : Mm w [(g, zV pB), (2, dtab)]) :
  Calls Tryz.prog 74 #[.agg (G1 g tn (en u) (en b)).toArray, .agg (yC x y false).toArray] w (Rt w (V [x, y, en u])) := by
 have H0 : Hid (_ ∧ _) := ⟨hm, Below.refl w.heap.size w⟩
 clear hm
 go_enter Tryz.func74, Tryz.ntmps74
 refine wp_seq ?_
 refine zB 3 [.made (G1 g tn (en u) (en b)) 82, .made (yC x y false) 85, .made (cel [0, 0, 0]) 124] (sB H0) ?ho1 ?he1
 case ho1 => exact am (zS rfl rfl) (am (zS rfl rfl) (am (ex_madeTN rfl) trivial))
 intro J w1 l hM hl
 have H1 : Hid (Mm w1 ([(J 0, G1 g tn (en u) (en b)), (J 1, yC x y false), (J 2, cel [0, 0, 0])] ++ _) ∧ _) := wB H0 hM hl [0, 1, 2]
 have o1_0 := vB H0 hM hl 0
 have o1_1 := vB H0 hM hl 1
 have o1_2 := vB H0 hM hl 2
 clear hM hl l
 generalize J 0 = J1_0 at H1 o1_0 ⊢
 generalize J 1 = J1_1 at H1 o1_1 ⊢
 generalize J 2 = J1_2 at H1 o1_2 ⊢
 clear J
 refine rN (wp_seq (wp_seq ?_))
 refine zC 2 [.q (PT J1_1 12), .q (.bool false)] H1 ?ho2 ?he2
 case ho2 => exact ag (bC 1 Ai4 trivial)
 intro _ w2 H2
 clear H1
 refine rN (wp_cond_false rfl ?_)
 refine wp_skip (zA (wp_seq ?_))
 refine zC 8 [.q (PT J1_1 0), .q (N x), .q (PT J1_1 6), .q (N y), .q (PT J1_0 0), .q (PT J1_0 5), .q (N (en u)), .q (V [x, y, en u])] H2 ?ho3 ?he3
 case ho3 => exact ag (bN 1 (ag (bN 1 (ag (ag (bN 0 (ak (fun J => ⟨rfl, fun w' _ => ex_buildTN rfl rfl rfl rfl⟩) trivial)))))))
 intro _ w3 H3
 clear H2
 refine zF (l := [8]) rfl ?_
 refine sF 2 [x, y, en u] [_, _, _, _, _] H3 o1_2 As124 fun w4 H4 => ?_
 clear H3
 refine zE (zA (wp_ret ?_))
 repeat (first | refine zK ?_ | refine zH ?_)
 have hf0 := cel_var (k := 3) H4.out.1 2 rfl Ai124 As124 rfl
 refine bodyPost_ret (v := V [x, y, en u]) (by simp [results, Tryz.results74, asAddr, hf0]) rfl ?_
 exact ⟨rfl, H4.out.2⟩
theorem isZero_1 (x y t : Nat) (bz : Bool) (hz : ∀ w, (Op.equalIn 10000 24 (N t) (N 0)).run Tryz.prog w = .ok bz w) (w : World) :
  Calls Tryz.prog 118 #[V [x, y, t]] w (Rt w (.bool bz)) := by
 have H0 : Hid (_ ∧ _) := ⟨Mm.nil w, Below.refl w.heap.size w⟩
 have HZ : Hid _ := hz
 clear hz
 go_enter Tryz.func118, Tryz.ntmps118
 refine wp_seq ?_
 refine zB 2 [.made (cel [x, y, t]) 124, .q (.bool false)] (sB H0) ?ho1 ?he1
 case ho1 => exact am (ex_boxA rfl rfl) (ar trivial)
 intro J w1 l hM hl
 have H1 : Hid (Mm w1 [(J 0, cel [x, y, t])] ∧ _) := wB H0 hM hl [0]
 have o1_0 := vB H0 hM hl 0
 clear hM hl l
 generalize J 0 = J1_0 at H1 o1_0 ⊢
 clear J
 refine rN (wp_seq ?_)
 refine zB 1 [.made zero6 24] (sB H1) ?ho2 ?he2
 case ho2 => exact am (zL rfl) trivial
 intro J w2 l hM hl
 have H2 : Hid (Mm w2 ([(J 0, zero6)] ++ _) ∧ _) := wB H1 hM hl [0]
 have o2_0 := vB H1 hM hl 0
 clear hM hl l H1
 generalize J 0 = J2_0 at H2 o2_0 ⊢
 clear J
 refine rN (wp_seq ?_)
 refine zC 5 [.q (PT J1_0 12), .q (N t), .q (N 0), .q (.bool bz), .q (.bool bz)] H2 ?ho3 ?he3
 case ho3 => exact ag (aq (fun w' h => zT (i := 2) h 1 rfl rfl rfl rfl) (aq (fun w' h => yG (v := 0) h 0 rfl rfl rfl zero_take) (ak (fun J => ⟨rfl, fun w' _ => exec_eq6 HZ.out rfl rfl rfl⟩) (ar trivial))))
 intro _ w3 H3
 clear H2
 refine rN (wp_ret ?_)
 repeat (first | refine zK ?_ | refine zH ?_)
 refine bodyPost_ret (v := .bool bz) (by simp [results, Tryz.results118, go_sem, *]) rfl ?_
 exact ⟨rfl, H3.out.2⟩
theorem lowerT_1 {α : Type} {en : α → Nat} {fa fs fm : α → α → α} {fi : α → α} {z u b : α} {g : Nat} {tn : Value} (_C : Fd1 g en fa fs fm fi z) (x y t : Nat) (hz : ∀ w, (Op.equalIn 10000 24 (N t) (N 0)).run Tryz.prog w = .ok true w) (w : World) (hm : Mm w [(g, zV pB), (2, dtab)]) :
  Calls Tryz.prog 87 #[.agg (G1 g tn (en u) (en b)).toArray, V [x, y, t]] w (Rt w (.agg (yC 0 0 true).toArray)) := by
 have H0 : Hid (_ ∧ _) := ⟨hm, Below.refl w.heap.size w⟩
 clear hm
 have HZ : Hid _ := hz
 clear hz
 go_enter Tryz.func87, Tryz.ntmps87
 refine wp_seq ?_
 refine zB 3 [.made (G1 g tn (en u) (en b)) 82, .made (cel [x, y, t]) 124, .made (yC 0 0 false) 85] (sB H0) ?ho1 ?he1
 case ho1 => exact am (zS rfl rfl) (am (ex_boxA rfl rfl) (am (ex_madePN rfl) trivial))
 intro J w1 l hM hl
 have H1 : Hid (Mm w1 ([(J 0, G1 g tn (en u) (en b)), (J 1, cel [x, y, t]), (J 2, yC 0 0 false)] ++ _) ∧ _) := wB H0 hM hl [0, 1, 2]
 have o1_0 := vB H0 hM hl 0
 have o1_1 := vB H0 hM hl 1
 have o1_2 := vB H0 hM hl 2
 clear hM hl l
 generalize J 0 = J1_0 at H1 o1_0 ⊢
 generalize J 1 = J1_1 at H1 o1_1 ⊢
 generalize J 2 = J1_2 at H1 o1_2 ⊢
 clear J
 refine rN (wp_seq (wp_seq ?_))
 refine zC 2 [.q (V [x, y, t]), .call (.bool true)] H1 ?ho2 ?he2
 case ho2 => exact bA 0 3 1 Ai124 As124 (ac (fun w' h => eC call118 (isZero_1 _ _ _ true HZ.out w')) trivial)
 intro _ w2 H2
 clear H1
 refine rN (wp_cond_true rfl (wp_seq ?_))
 refine zC 1 [.q (.agg (yC 0 0 true).toArray)] H2 ?ho3 ?he3
 case ho3 => exact ak (fun J => ⟨rfl, fun w' _ => ex_buildPNt rfl rfl⟩) trivial
 intro _ w3 H3
 clear H2
 refine zF (l := [1]) rfl ?_
 refine sG rfl (fun h => ex_storeT (vs := yC 0 0 true) h 2 rfl rfl rfl rfl As85 rfl (Nat.le_of_ble_eq_true rfl)) 2 [_, _, (_, yC 0 0 true), _, _] H3 o1_2 fun w4 H4 => ?_
 clear H3
 refine zE (zA (wp_ret ?_))
 repeat (first | refine zK ?_ | refine zH ?_)
 have hf0 := var_T H4.out.1 2 rfl Ai85 As85 rfl
 refine bodyPost_ret (v := .agg (yC 0 0 true).toArray) (by simp [results, Tryz.results87, asAddr, hf0]) rfl ?_
 exact ⟨rfl, H4.out.2⟩
theorem lowerF_1 {α : Type} {en : α → Nat} {fa fs fm : α → α → α} {fi : α → α} {z u b : α} {g : Nat} {tn : Value} (C : Fd1 g en fa fs fm fi z) (x y t : α) (hz : ∀ w, (Op.equalIn 10000 24 (N (en t)) (N 0)).run Tryz.prog w = .ok false w) (ht : t ≠ z) (w : World) (hm : Mm w [(g, zV pB), (2, dtab)]) :
  Calls Tryz.prog 87 #[.agg (G1 g tn (en u) (en b)).toArray, V [en x, en y, en t]] w (Rt w (.agg (yC (en (fm x (fi t))) (en (fm y (fi t))) false).toArray)) := by
 have H0 : Hid (_ ∧ _) := ⟨hm, Below.refl w.heap.size w⟩
 clear hm
 have HZ : Hid _ := hz
 clear hz
 have HT : Hid _ := ht
 clear ht
 go_enter Tryz.func87, Tryz.ntmps87
 refine wp_seq ?_
 refine zB 3 [.made (G1 g tn (en u) (en b)) 82, .made (cel [en x, en y, en t]) 124, .made (yC 0 0 false) 85] (sB H0) ?ho1 ?he1
 case ho1 => exact am (zS rfl rfl) (am (ex_boxA rfl rfl) (am (ex_madePN rfl) trivial))
 intro J w1 l hM hl
 have H1 : Hid (Mm w1 ([(J 0, G1 g tn (en u) (en b)), (J 1, cel [en x, en y, en t]), (J 2, yC 0 0 false)] ++ _) ∧ _) := wB H0 hM hl [0, 1, 2]
 have o1_0 := vB H0 hM hl 0
 have o1_1 := vB H0 hM hl 1
 have o1_2 := vB H0 hM hl 2
 clear hM hl l
 generalize J 0 = J1_0 at H1 o1_0 ⊢
 generalize J 1 = J1_1 at H1 o1_1 ⊢
 generalize J 2 = J1_2 at H1 o1_2 ⊢
 clear J
 refine rN (wp_seq (wp_seq ?_))
 refine zC 2 [.q (V [en x, en y, en t]), .call (.bool false)] H1 ?ho2 ?he2
 case ho2 => exact bA 0 3 1 Ai124 As124 (ac (fun w' h => eC call118 (isZero_1 _ _ _ false HZ.out w')) trivial)
 intro _ w2 H2
 clear H1
 refine rN (wp_cond_false rfl ?_)
 refine wp_skip (zA (wp_seq ?_))
 refine zB 12 [.q (PT J1_0 0), .q (PT J1_0 3), .q (.func (.func 71) #[PT g 0] #[]), .q (PT J1_1 12), .q (N (en t)), .call (.tuple #[N (en (fi t)), .int .i64 0]), .q (.tuple #[N (en (fi t)), .int .i64 0]), .q (N (en (fi t))), .q (.int .i64 0), .made zero6 24, .laid 9 zero6 (zD (en (fi t))), .q (.int .i64 0)] (sB H2) ?ho3 ?he3 (hL := ?hL3)
 case hL3 => exact ⟨⟨_, rfl⟩, trivial⟩
 case ho3 => exact ag (ag (bC 0 Tryz.isAgg77 (ag (aq (fun w' h => zT (i := 2) h 1 rfl rfl rfl rfl) (ac (fun w' h => ⟨71, #[PT g 0, N (en t)], zJ rfl call71 rfl (mpn rfl) rfl, C.ci _ w' HT.out (h.two 3 4 rfl rfl (by decide))⟩) (ar (ag (ag (am (zL rfl) (ak (fun J => ⟨rfl, rfl, rfl, fun w' h => zR h rfl rfl rfl⟩) (ar trivial)))))))))))
 intro J w3 l hM hl
 have H3 : Hid (Mm w3 ([(J 9, zD (en (fi t)))] ++ _) ∧ _) := wB H2 hM hl [9]
 have o3_9 := vB H2 hM hl 9
 clear hM hl l H2
 generalize J 9 = J3_9 at H3 o3_9 ⊢
 clear J
 refine rN (wp_seq ?_)
 refine zN 15 [.q (PT J1_0 0), .q (PT J1_0 2), .q (.func (.func 70) #[PT g 0] #[]), .q (PT J1_1 0), .q (N (en x)), .q (N (en (fi t))), .call (N (en (fm x (fi t)))), .q (PT J1_0 0), .q (PT J1_0 2), .q (.func (.func 70) #[PT g 0] #[]), .q (PT J1_1 6), .q (N (en y)), .q (N (en (fi t))), .call (N (en (fm y (fi t)))), .q (.agg (yC (en (fm x (fi t))) (en (fm y (fi t))) false).toArray)] H3 ?ho4 ?he4
 case ho4 => exact ag (ag (bC 1 Ai76 (ag (aq (fun w' h => zT (i := 0) h 2 rfl rfl rfl rfl) (bN 0 (ac (fun w' h => ⟨70, #[PT g 0, N (en x), N (en (fi t))], zJ rfl call70 rfl (mpn rfl) rfl, C.cm _ _ w' (h.two 4 5 rfl rfl (by decide))⟩) (ag (ag (bC 1 Ai76 (ag (aq (fun w' h => zT (i := 1) h 2 rfl rfl rfl rfl) (bN 0 (ac (fun w' h => ⟨70, #[PT g 0, N (en y), N (en (fi t))], zJ rfl call70 rfl (mpn rfl) rfl, C.cm _ _ w' (h.two 4 5 rfl rfl (by decide))⟩) (ak (fun J => ⟨rfl, fun w' _ => ex_buildPNxy rfl rfl rfl⟩) trivial))))))))))))))
 intro _ w4 H4
 clear H3
 refine zF (l := [15]) rfl ?_
 refine sG rfl (fun h => ex_storeT (vs := yC (en (fm x (fi t))) (en (fm y (fi t))) false) h 3 rfl rfl rfl rfl As85 rfl (Nat.le_of_ble_eq_true rfl)) 3 [_, _, _, (_, yC (en (fm x (fi t))) (en (fm y (fi t))) false), _, _] H4 o1_2 fun w5 H5 => ?_
 clear H4
 refine zE (zA (wp_ret ?_))
 repeat (first | refine zK ?_ | refine zH ?_)
 have hf0 := var_T H5.out.1 3 rfl Ai85 As85 rfl
 refine bodyPost_ret (v := .agg (yC (en (fm x (fi t))) (en (fm y (fi t))) false).toArray) (by simp [results, Tryz.results87, asAddr, hf0]) rfl ?_
 exact ⟨rfl, H5.out.2⟩
set_option maxHeartbeats 4000000 in
theorem togetherV_1 {α : Type} {en : α → Nat} {fa fs fm : α → α → α} {fi : α → α} {z u b : α} {g : Nat} {tn : Value} (C : Fd1 g en fa fs fm fi z) (x1 y1 z1 x2 y2 z2 : α) (v1 v2 v3 v4 v5 v6 v7 v8 v9 v10 v11 v12 v13 v14 v15 v16 v17 v18 v19 v20 v21 v22 v23 v24 v25 v26 v27 v28 v29 v30 v31 v32 v33 v34 : α) (hv1 : fm x1 x2 = v1) (hv2 : fm y1 y2 = v2) (hv3 : fm z1 z2 = v3) (hv4 : fa x1 y1 = v4) (hv5 : fa x2 y2 = v5) (hv6 : fm v4 v5 = v6) (hv7 : fa v1 v2 = v7) (hv8 : fs v6 v7 = v8) (hv9 : fa y1 z1 = v9) (hv10 : fa y2 z2 = v10) (hv11 : fm v9 v10 = v11) (hv12 : fa v2 v3 = v12) (hv13 : fs v11 v12 = v13) (hv14 : fa x1 z1 = v14) (hv15 : fa x2 z2 = v15) (hv16 : fm v14 v15 = v16) (hv17 : fa v1 v3 = v17) (hv18 : fs v16 v17 = v18) (hv19 : fa (fa v1 v1) v1 = v19) (hv20 : fm b v18 = v20) (hv21 : fa (fa v20 v20) v20 = v21) (hv22 : fm b v3 = v22) (hv23 : fa (fa v22 v22) v22 = v23) (hv24 : fs v2 v23 = v24) (hv25 : fa v2 v23 = v25) (hv26 : fm v24 v8 = v26) (hv27 : fm v13 v21 = v27) (hv28 : fs v26 v27 = v28) (hv29 : fm v24 v25 = v29) (hv30 : fm v19 v21 = v30) (hv31 : fa v29 v30 = v31) (hv32 : fm v25 v13 = v32) (hv33 : fm v19 v8 = v33) (hv34 : fa v32 v33 = v34) (w : World) (hm : Mm w [(g, zV pB), (2, dtab)]) :
  Calls Tryz.prog 88 #[.agg (G1 g tn (en u) (en b)).toArray, V [en x1, en y1, en z1], V [en x2, en y2, en z2]] w (Rt w (V [en v28, en v31, en v34])) := by
 have H0 : Hid (_ ∧ _) := ⟨hm, Below.refl w.heap.size w⟩
 clear hm
 have HV1 : Hid _ := hv1
 clear hv1
 have HV2 : Hid _ := hv2
 clear hv2
 have HV3 : Hid _ := hv3
 clear hv3
 have HV4 : Hid _ := hv4
 clear hv4
 have HV5 : Hid _ := hv5
 clear hv5
 have HV6 : Hid _ := hv6
 clear hv6
 have HV7 : Hid _ := hv7
 clear hv7
 have HV8 : Hid _ := hv8
 clear hv8
 have HV9 : Hid _ := hv9
 clear hv9
 have HV10 : Hid _ := hv10
 clear hv10
 have HV11 : Hid _ := hv11
 clear hv11
 have HV12 : Hid _ := hv12
 clear hv12
 have HV13 : Hid _ := hv13
 clear hv13
 have HV14 : Hid _ := hv14
 clear hv14
 have HV15 : Hid _ := hv15
 clear hv15
 have HV16 : Hid _ := hv16
 clear hv16
 have HV17 : Hid _ := hv17
 clear hv17
 have HV18 : Hid _ := hv18
 clear hv18
 have HV19 : Hid _ := hv19
 clear hv19
 have HV20 : Hid _ := hv20
 clear hv20
 have HV21 : Hid _ := hv21
 clear hv21
 have HV22 : Hid _ := hv22
 clear hv22
 have HV23 : Hid _ := hv23
 clear hv23
 have HV24 : Hid _ := hv24
 clear hv24
 have HV25 : Hid _ := hv25
 clear hv25
 have HV26 : Hid _ := hv26
 clear hv26
 have HV27 : Hid _ := hv27
 clear hv27
 have HV28 : Hid _ := hv28
 clear hv28
 have HV29 : Hid _ := hv29
 clear hv29
 have HV30 : Hid _ := hv30
 clear hv30
 have HV31 : Hid _ := hv31
 clear hv31
 have HV32 : Hid _ := hv32
 clear hv32
 have HV33 : Hid _ := hv33
 clear hv33
 have HV34 : Hid _ := hv34
 clear hv34
 go_enter Tryz.func88, Tryz.ntmps88
 refine wp_seq ?_
 refine zB 4 [.made (G1 g tn (en u) (en b)) 82, .made (cel [en x1, en y1, en z1]) 124, .made (cel [en x2, en y2, en z2]) 124, .made (cel [0, 0, 0]) 124] (sB H0) ?ho1 ?he1
 case ho1 => exact am (zS rfl rfl) (am (ex_boxA rfl rfl) (am (ex_boxA rfl rfl) (am (ex_madeTN rfl) trivial)))
 intro J w1 l hM hl
 have H1 : Hid (Mm w1 ([(J 0, G1 g tn (en u) (en b)), (J 1, cel [en x1, en y1, en z1]), (J 2, cel [en x2, en y2, en z2]), (J 3, cel [0, 0, 0])] ++ _) ∧ _) := wB H0 hM hl [0, 1, 2, 3]
 have o1_0 := vB H0 hM hl 0
 have o1_1 := vB H0 hM hl 1
 have o1_2 := vB H0 hM hl 2
 have o1_3 := vB H0 hM hl 3
 clear hM hl l
 generalize J 0 = J1_0 at H1 o1_0 ⊢
 generalize J 1 = J1_1 at H1 o1_1 ⊢
 generalize J 2 = J1_2 at H1 o1_2 ⊢
 generalize J 3 = J1_3 at H1 o1_3 ⊢
 clear J
 refine rN (wp_seq ?_)
 refine zQ 30 [.q (PT J1_0 0), .q (PT J1_0 2), .q (.func (.func 70) #[PT g 0] #[]), .q (PT J1_1 0), .q (N (en x1)), .q (PT J1_2 0), .q (N (en x2)), .call (N (en v1)), .q (PT J1_0 0), .q (PT J1_0 2), .q (.func (.func 70) #[PT g 0] #[]), .q (PT J1_1 6), .q (N (en y1)), .q (PT J1_2 6), .q (N (en y2)), .call (N (en v2)), .q (PT J1_0 0), .q (PT J1_0 2), .q (.func (.func 70) #[PT g 0] #[]), .q (PT J1_1 12), .q (N (en z1)), .q (PT J1_2 12), .q (N (en z2)), .call (N (en v3)), .made zero6 24, .made zero6 24, .made zero6 24, .laid 24 zero6 (zD (en v1)), .laid 25 zero6 (zD (en v2)), .laid 26 zero6 (zD (en v3))] (sB H1) ?ho2 ?he2 (hL := ?hL2)
 case hL2 => exact ⟨⟨_, rfl⟩, ⟨_, rfl⟩, ⟨_, rfl⟩, trivial⟩
 case ho2 => exact ag (ag (bC 0 Ai76 (ag (aq (fun w' h => zT (i := 0) h 1 rfl rfl rfl rfl) (ag (aq (fun w' h => zT (i := 0) h 2 rfl rfl rfl rfl) (ac (fun w' h => ⟨70, #[PT g 0, N (en x1), N (en x2)], zJ rfl call70 rfl (mpn rfl) rfl, C.km HV1.out w' (h.two 4 5 rfl rfl (by decide))⟩) (ag (ag (bC 0 Ai76 (ag (aq (fun w' h => zT (i := 1) h 1 rfl rfl rfl rfl) (ag (aq (fun w' h => zT (i := 1) h 2 rfl rfl rfl rfl) (ac (fun w' h => ⟨70, #[PT g 0, N (en y1), N (en y2)], zJ rfl call70 rfl (mpn rfl) rfl, C.km HV2.out w' (h.two 4 5 rfl rfl (by decide))⟩) (ag (ag (bC 0 Ai76 (ag (aq (fun w' h => zT (i := 2) h 1 rfl rfl rfl rfl) (ag (aq (fun w' h => zT (i := 2) h 2 rfl rfl rfl rfl) (ac (fun w' h => ⟨70, #[PT g 0, N (en z1), N (en z2)], zJ rfl call70 rfl (mpn rfl) rfl, C.km HV3.out w' (h.two 4 5 rfl rfl (by decide))⟩) (am (zL rfl) (am (zL rfl) (am (zL rfl) (ak (fun J => ⟨rfl, rfl, rfl, fun w' h => zR h rfl rfl rfl⟩) (ak (fun J => ⟨rfl, rfl, rfl, fun w' h => zR h rfl rfl rfl⟩) (ak (fun J => ⟨rfl, rfl, rfl, fun w' h => zR h rfl rfl rfl⟩) trivial)))))))))))))))))))))))))))))
 intro J w2 l hM hl
 have H2 : Hid (Mm w2 ([(J 24, zD (en v1)), (J 25, zD (en v2)), (J 26, zD (en v3))] ++ _) ∧ _) := wB H1 hM hl [24, 25, 26]
 have o2_24 := vB H1 hM hl 24
 have o2_25 := vB H1 hM hl 25
 have o2_26 := vB H1 hM hl 26
 clear hM hl l H1
 generalize J 24 = J2_24 at H2 o2_24 ⊢
 generalize J 25 = J2_25 at H2 o2_25 ⊢
 generalize J 26 = J2_26 at H2 o2_26 ⊢
 clear J
 refine rN (wp_seq ?_)
 refine zQ 32 [.q (PT J1_0 0), .q (PT J1_0 1), .q (.func (.func 69) #[PT g 0] #[]), .q (PT J1_0 0), .q (PT J1_0 2), .q (.func (.func 70) #[PT g 0] #[]), .q (PT J1_0 0), .q (PT J1_0 0), .q (.func (.func 68) #[PT g 0] #[]), .q (PT J1_1 0), .q (N (en x1)), .q (PT J1_1 6), .q (N (en y1)), .call (N (en v4)), .q (PT J1_0 0), .q (PT J1_0 0), .q (.func (.func 68) #[PT g 0] #[]), .q (PT J1_2 0), .q (N (en x2)), .q (PT J1_2 6), .q (N (en y2)), .call (N (en v5)), .call (N (en v6)), .q (PT J1_0 0), .q (PT J1_0 0), .q (.func (.func 68) #[PT g 0] #[]), .q (N (en v1)), .q (N (en v2)), .call (N (en v7)), .call (N (en v8)), .made zero6 24, .laid 30 zero6 (zD (en v8))] (sB H2) ?ho3 ?he3 (hL := ?hL3)
 case hL3 => exact ⟨⟨_, rfl⟩, trivial⟩
 case ho3 => exact ag (ag (bC 3 Ai76 (ag (ag (bC 3 Ai76 (ag (ag (bC 3 Ai76 (ag (aq (fun w' h => zT (i := 0) h 4 rfl rfl rfl rfl) (ag (aq (fun w' h => zT (i := 1) h 4 rfl rfl rfl rfl) (ac (fun w' h => ⟨68, #[PT g 0, N (en x1), N (en y1)], zJ rfl call68 rfl (mpn rfl) rfl, C.ka HV4.out w' (h.two 7 8 rfl rfl (by decide))⟩) (ag (ag (bC 3 Ai76 (ag (aq (fun w' h => zT (i := 0) h 5 rfl rfl rfl rfl) (ag (aq (fun w' h => zT (i := 1) h 5 rfl rfl rfl rfl) (ac (fun w' h => ⟨68, #[PT g 0, N (en x2), N (en y2)], zJ rfl call68 rfl (mpn rfl) rfl, C.ka HV5.out w' (h.two 7 8 rfl rfl (by decide))⟩) (ac (fun w' h => ⟨70, #[PT g 0, N (en v4), N (en v5)], zJ rfl call70 rfl (mpn rfl) rfl, C.km HV6.out w' (h.two 7 8 rfl rfl (by decide))⟩) (ag (ag (bC 3 Ai76 (bN 0 (bN 1 (ac (fun w' h => ⟨68, #[PT g 0, N (en v1), N (en v2)], zJ rfl call68 rfl (mpn rfl) rfl, C.ka HV7.out w' (h.two 7 8 rfl rfl (by decide))⟩) (ac (fun w' h => ⟨69, #[PT g 0, N (en v6), N (en v7)], zJ rfl call69 rfl (mpn rfl) rfl, C.ks HV8.out w' (h.two 7 8 rfl rfl (by decide))⟩) (am (zL rfl) (ak (fun J => ⟨rfl, rfl, rfl, fun w' h => zR h rfl rfl rfl⟩) trivial)))))))))))))))))))))))))))))))
 intro J w3 l hM hl
 have H3 : Hid (Mm w3 ([(J 30, zD (en v8))] ++ _) ∧ _) := wB H2 hM hl [30]
 have o3_30 := vB H2 hM hl 30
 clear hM hl l H2
 generalize J 30 = J3_30 at H3 o3_30 ⊢
 clear J
 refine rN (wp_seq ?_)
 refine zQ 32 [.q (PT J1_0 0), .q (PT J1_0 1), .q (.func (.func 69) #[PT g 0] #[]), .q (PT J1_0 0), .q (PT J1_0 2), .q (.func (.func 70) #[PT g 0] #[]), .q (PT J1_0 0), .q (PT J1_0 0), .q (.func (.func 68) #[PT g 0] #[]), .q (PT J1_1 6), .q (N (en y1)), .q (PT J1_1 12), .q (N (en z1)), .call (N (en v9)), .q (PT J1_0 0), .q (PT J1_0 0), .q (.func (.func 68) #[PT g 0] #[]), .q (PT J1_2 6), .q (N (en y2)), .q (PT J1_2 12), .q (N (en z2)), .call (N (en v10)), .call (N (en v11)), .q (PT J1_0 0), .q (PT J1_0 0), .q (.func (.func 68) #[PT g 0] #[]), .q (N (en v2)), .q (N (en v3)), .call (N (en v12)), .call (N (en v13)), .made zero6 24, .laid 30 zero6 (zD (en v13))] (sB H3) ?ho4 ?he4 (hL := ?hL4)
 case hL4 => exact ⟨⟨_, rfl⟩, trivial⟩
 case ho4 => exact ag (ag (bC 4 Ai76 (ag (ag (bC 4 Ai76 (ag (ag (bC 4 Ai76 (ag (aq (fun w' h => zT (i := 1) h 5 rfl rfl rfl rfl) (ag (aq (fun w' h => zT (i := 2) h 5 rfl rfl rfl rfl) (ac (fun w' h => ⟨68, #[PT g 0, N (en y1), N (en z1)], zJ rfl call68 rfl (mpn rfl) rfl, C.ka HV9.out w' (h.two 8 9 rfl rfl (by decide))⟩) (ag (ag (bC 4 Ai76 (ag (aq (fun w' h => zT (i := 1) h 6 rfl rfl rfl rfl) (ag (aq (fun w' h => zT (i := 2) h 6 rfl rfl rfl rfl) (ac (fun w' h => ⟨68, #[PT g 0, N (en y2), N (en z2)], zJ rfl call68 rfl (mpn rfl) rfl, C.ka HV10.out w' (h.two 8 9 rfl rfl (by decide))⟩) (ac (fun w' h => ⟨70, #[PT g 0, N (en v9), N (en v10)], zJ rfl call70 rfl (mpn rfl) rfl, C.km HV11.out w' (h.two 8 9 rfl rfl (by decide))⟩) (ag (ag (bC 4 Ai76 (bN 2 (bN 3 (ac (fun w' h => ⟨68, #[PT g 0, N (en v2), N (en v3)], zJ rfl call68 rfl (mpn rfl) rfl, C.ka HV12.out w' (h.two 8 9 rfl rfl (by decide))⟩) (ac (fun w' h => ⟨69, #[PT g 0, N (en v11), N (en v12)], zJ rfl call69 rfl (mpn rfl) rfl, C.ks HV13.out w' (h.two 8 9 rfl rfl (by decide))⟩) (am (zL rfl) (ak (fun J => ⟨rfl, rfl, rfl, fun w' h => zR h rfl rfl rfl⟩) trivial)))))))))))))))))))))))))))))))
 intro J w4 l hM hl
 have H4 : Hid (Mm w4 ([(J 30, zD (en v13))] ++ _) ∧ _) := wB H3 hM hl [30]
 have o4_30 := vB H3 hM hl 30
 clear hM hl l H3
 generalize J 30 = J4_30 at H4 o4_30 ⊢
 clear J
 refine rN (wp_seq ?_)
 refine zQ 32 [.q (PT J1_0 0), .q (PT J1_0 1), .q (.func (.func 69) #[PT g 0] #[]), .q (PT J1_0 0), .q (PT J1_0 2), .q (.func (.func 70) #[PT g 0] #[]), .q (PT J1_0 0), .q (PT J1_0 0), .q (.func (.func 68) #[PT g 0] #[]), .q (PT J1_1 0), .q (N (en x1)), .q (PT J1_1 12), .q (N (en z1)), .call (N (en v14)), .q (PT J1_0 0), .q (PT J1_0 0), .q (.func (.func 68) #[PT g 0] #[]), .q (PT J1_2 0), .q (N (en x2)), .q (PT J1_2 12), .q (N (en z2)), .call (N (en v15)), .call (N (en v16)), .q (PT J1_0 0), .q (PT J1_0 0), .q (.func (.func 68) #[PT g 0] #[]), .q (N (en v1)), .q (N (en v3)), .call (N (en v17)), .call (N (en v18)), .made zero6 24, .laid 30 zero6 (zD (en v18))] (sB H4) ?ho5 ?he5 (hL := ?hL5)
 case hL5 => exact ⟨⟨_, rfl⟩, trivial⟩
 case ho5 => exact ag (ag (bC 5 Ai76 (ag (ag (bC 5 Ai76 (ag (ag (bC 5 Ai76 (ag (aq (fun w' h => zT (i := 0) h 6 rfl rfl rfl rfl) (ag (aq (fun w' h => zT (i := 2) h 6 rfl rfl rfl rfl) (ac (fun w' h => ⟨68, #[PT g 0, N (en x1), N (en z1)], zJ rfl call68 rfl (mpn rfl) rfl, C.ka HV14.out w' (h.two 9 10 rfl rfl (by decide))⟩) (ag (ag (bC 5 Ai76 (ag (aq (fun w' h => zT (i := 0) h 7 rfl rfl rfl rfl) (ag (aq (fun w' h => zT (i := 2) h 7 rfl rfl rfl rfl) (ac (fun w' h => ⟨68, #[PT g 0, N (en x2), N (en z2)], zJ rfl call68 rfl (mpn rfl) rfl, C.ka HV15.out w' (h.two 9 10 rfl rfl (by decide))⟩) (ac (fun w' h => ⟨70, #[PT g 0, N (en v14), N (en v15)], zJ rfl call70 rfl (mpn rfl) rfl, C.km HV16.out w' (h.two 9 10 rfl rfl (by decide))⟩) (ag (ag (bC 5 Ai76 (bN 2 (bN 4 (ac (fun w' h => ⟨68, #[PT g 0, N (en v1), N (en v3)], zJ rfl call68 rfl (mpn rfl) rfl, C.ka HV17.out w' (h.two 9 10 rfl rfl (by decide))⟩) (ac (fun w' h => ⟨69, #[PT g 0, N (en v16), N (en v17)], zJ rfl call69 rfl (mpn rfl) rfl, C.ks HV18.out w' (h.two 9 10 rfl rfl (by decide))⟩) (am (zL rfl) (ak (fun J => ⟨rfl, rfl, rfl, fun w' h => zR h rfl rfl rfl⟩) trivial)))))))))))))))))))))))))))))))
 intro J w5 l hM hl
 have H5 : Hid (Mm w5 ([(J 30, zD (en v18))] ++ _) ∧ _) := wB H4 hM hl [30]
 have o5_30 := vB H4 hM hl 30
 clear hM hl l H4
 generalize J 30 = J5_30 at H5 o5_30 ⊢
 clear J
 refine rN (wp_seq ?_)
 refine zQ 27 [.q (.agg (G1 g tn (en u) (en b)).toArray), .q (N (en v1)), .call (N (en v19)), .q (.agg (G1 g tn (en u) (en b)).toArray), .q (PT J1_0 0), .q (PT J1_0 2), .q (.func (.func 70) #[PT g 0] #[]), .q (PT J1_0 11), .q (N (en b)), .q (N (en v18)), .call (N (en v20)), .call (N (en v21)), .q (.agg (G1 g tn (en u) (en b)).toArray), .q (PT J1_0 0), .q (PT J1_0 2), .q (.func (.func 70) #[PT g 0] #[]), .q (PT J1_0 11), .q (N (en b)), .q (N (en v3)), .call (N (en v22)), .call (N (en v23)), .made zero6 24, .made zero6 24, .made zero6 24, .laid 21 zero6 (zD (en v19)), .laid 22 zero6 (zD (en v21)), .laid 23 zero6 (zD (en v23))] (sB H5) ?ho6 ?he6 (hL := ?hL6)
 case hL6 => exact ⟨⟨_, rfl⟩, ⟨_, rfl⟩, ⟨_, rfl⟩, trivial⟩
 case ho6 => exact bT 6 Ai82 As82 (bN 3 (ac (fun w' h => eC call119 (thriceN_1 C HV19.out w' (h.two 10 11 rfl rfl (by decide)))) (bT 6 Ai82 As82 (ag (ag (bC 6 Ai76 (ag (bN 6 (bN 0 (ac (fun w' h => ⟨70, #[PT g 0, N (en b), N (en v18)], zJ rfl call70 rfl (mpn rfl) rfl, C.km HV20.out w' (h.two 10 11 rfl rfl (by decide))⟩) (ac (fun w' h => eC call119 (thriceN_1 C HV21.out w' (h.two 10 11 rfl rfl (by decide)))) (bT 6 Ai82 As82 (ag (ag (bC 6 Ai76 (ag (bN 6 (bN 5 (ac (fun w' h => ⟨70, #[PT g 0, N (en b), N (en v3)], zJ rfl call70 rfl (mpn rfl) rfl, C.km HV22.out w' (h.two 10 11 rfl rfl (by decide))⟩) (ac (fun w' h => eC call119 (thriceN_1 C HV23.out w' (h.two 10 11 rfl rfl (by decide)))) (am (zL rfl) (am (zL rfl) (am (zL rfl) (ak (fun J => ⟨rfl, rfl, rfl, fun w' h => zR h rfl rfl rfl⟩) (ak (fun J => ⟨rfl, rfl, rfl, fun w' h => zR h rfl rfl rfl⟩) (ak (fun J => ⟨rfl, rfl, rfl, fun w' h => zR h rfl rfl rfl⟩) trivial))))))))))))))))))))))))))
 intro J w6 l hM hl
 have H6 : Hid (Mm w6 ([(J 21, zD (en v19)), (J 22, zD (en v21)), (J 23, zD (en v23))] ++ _) ∧ _) := wB H5 hM hl [21, 22, 23]
 have o6_21 := vB H5 hM hl 21
 have o6_22 := vB H5 hM hl 22
 have o6_23 := vB H5 hM hl 23
 clear hM hl l H5
 generalize J 21 = J6_21 at H6 o6_21 ⊢
 generalize J 22 = J6_22 at H6 o6_22 ⊢
 generalize J 23 = J6_23 at H6 o6_23 ⊢
 clear J
 refine rN (wp_seq ?_)
 refine zQ 16 [.q (PT J1_0 0), .q (PT J1_0 1), .q (.func (.func 69) #[PT g 0] #[]), .q (N (en v2)), .q (N (en v23)), .call (N (en v24)), .q (PT J1_0 0), .q (PT J1_0 0), .q (.func (.func 68) #[PT g 0] #[]), .q (N (en v2)), .q (N (en v23)), .call (N (en v25)), .made zero6 24, .made zero6 24, .laid 12 zero6 (zD (en v24)), .laid 13 zero6 (zD (en v25))] (sB H6) ?ho7 ?he7 (hL := ?hL7)
 case hL7 => exact ⟨⟨_, rfl⟩, ⟨_, rfl⟩, trivial⟩
 case ho7 => exact ag (ag (bC 9 Ai76 (bN 7 (bN 2 (ac (fun w' h => ⟨69, #[PT g 0, N (en v2), N (en v23)], zJ rfl call69 rfl (mpn rfl) rfl, C.ks HV24.out w' (h.two 13 14 rfl rfl (by decide))⟩) (ag (ag (bC 9 Ai76 (bN 7 (bN 2 (ac (fun w' h => ⟨68, #[PT g 0, N (en v2), N (en v23)], zJ rfl call68 rfl (mpn rfl) rfl, C.ka HV25.out w' (h.two 13 14 rfl rfl (by decide))⟩) (am (zL rfl) (am (zL rfl) (ak (fun J => ⟨rfl, rfl, rfl, fun w' h => zR h rfl rfl rfl⟩) (ak (fun J => ⟨rfl, rfl, rfl, fun w' h => zR h rfl rfl rfl⟩) trivial)))))))))))))))
 intro J w7 l hM hl
 have H7 : Hid (Mm w7 ([(J 12, zD (en v24)), (J 13, zD (en v25))] ++ _) ∧ _) := wB H6 hM hl [12, 13]
 have o7_12 := vB H6 hM hl 12
 have o7_13 := vB H6 hM hl 13
 clear hM hl l H6
 generalize J 12 = J7_12 at H7 o7_12 ⊢
 generalize J 13 = J7_13 at H7 o7_13 ⊢
 clear J
 refine rN (wp_seq ?_)
 refine zN 49 [.q (PT J1_0 0), .q (PT J1_0 1), .q (.func (.func 69) #[PT g 0] #[]), .q (PT J1_0 0), .q (PT J1_0 2), .q (.func (.func 70) #[PT g 0] #[]), .q (N (en v24)), .q (N (en v8)), .call (N (en v26)), .q (PT J1_0 0), .q (PT J1_0 2), .q (.func (.func 70) #[PT g 0] #[]), .q (N (en v13)), .q (N (en v21)), .call (N (en v27)), .call (N (en v28)), .q (PT J1_0 0), .q (PT J1_0 0), .q (.func (.func 68) #[PT g 0] #[]), .q (PT J1_0 0), .q (PT J1_0 2), .q (.func (.func 70) #[PT g 0] #[]), .q (N (en v24)), .q (N (en v25)), .call (N (en v29)), .q (PT J1_0 0), .q (PT J1_0 2), .q (.func (.func 70) #[PT g 0] #[]), .q (N (en v19)), .q (N (en v21)), .call (N (en v30)), .call (N (en v31)), .q (PT J1_0 0), .q (PT J1_0 0), .q (.func (.func 68) #[PT g 0] #[]), .q (PT J1_0 0), .q (PT J1_0 2), .q (.func (.func 70) #[PT g 0] #[]), .q (N (en v25)), .q (N (en v13)), .call (N (en v32)), .q (PT J1_0 0), .q (PT J1_0 2), .q (.func (.func 70) #[PT g 0] #[]), .q (N (en v19)), .q (N (en v8)), .call (N (en v33)), .call (N (en v34)), .q (V [en v28, en v31, en v34])] H7 ?ho8 ?he8 (hL := ?hL8)
 case hL8 => exact trivial
 case ho8 => exact ag (ag (bC 11 Ai76 (ag (ag (bC 11 Ai76 (bN 0 (bN 7 (ac (fun w' h => ⟨70, #[PT g 0, N (en v24), N (en v8)], zJ rfl call70 rfl (mpn rfl) rfl, C.km HV26.out w' (h.two 15 16 rfl rfl (by decide))⟩) (ag (ag (bC 11 Ai76 (bN 6 (bN 3 (ac (fun w' h => ⟨70, #[PT g 0, N (en v13), N (en v21)], zJ rfl call70 rfl (mpn rfl) rfl, C.km HV27.out w' (h.two 15 16 rfl rfl (by decide))⟩) (ac (fun w' h => ⟨69, #[PT g 0, N (en v26), N (en v27)], zJ rfl call69 rfl (mpn rfl) rfl, C.ks HV28.out w' (h.two 15 16 rfl rfl (by decide))⟩) (ag (ag (bC 11 Ai76 (ag (ag (bC 11 Ai76 (bN 0 (bN 1 (ac (fun w' h => ⟨70, #[PT g 0, N (en v24), N (en v25)], zJ rfl call70 rfl (mpn rfl) rfl, C.km HV29.out w' (h.two 15 16 rfl rfl (by decide))⟩) (ag (ag (bC 11 Ai76 (bN 2 (bN 3 (ac (fun w' h => ⟨70, #[PT g 0, N (en v19), N (en v21)], zJ rfl call70 rfl (mpn rfl) rfl, C.km HV30.out w' (h.two 15 16 rfl rfl (by decide))⟩) (ac (fun w' h => ⟨68, #[PT g 0, N (en v29), N (en v30)], zJ rfl call68 rfl (mpn rfl) rfl, C.ka HV31.out w' (h.two 15 16 rfl rfl (by decide))⟩) (ag (ag (bC 11 Ai76 (ag (ag (bC 11 Ai76 (bN 1 (bN 6 (ac (fun w' h => ⟨70, #[PT g 0, N (en v25), N (en v13)], zJ rfl call70 rfl (mpn rfl) rfl, C.km HV32.out w' (h.two 15 16 rfl rfl (by decide))⟩) (ag (ag (bC 11 Ai76 (bN 2 (bN 7 (ac (fun w' h => ⟨70, #[PT g 0, N (en v19), N (en v8)], zJ rfl call70 rfl (mpn rfl) rfl, C.km HV33.out w' (h.two 15 16 rfl rfl (by decide))⟩) (ac (fun w' h => ⟨68, #[PT g 0, N (en v32), N (en v33)], zJ rfl call68 rfl (mpn rfl) rfl, C.ka HV34.out w' (h.two 15 16 rfl rfl (by decide))⟩) (ak (fun J => ⟨rfl, fun w' _ => ex_buildTN rfl rfl rfl rfl⟩) trivial))))))))))))))))))))))))))))))))))))))))))))))))
 intro _ w8 H8
 clear H7
 refine zF (l := [49]) rfl ?_
 refine sF 14 [en v28, en v31, en v34] [_, _, _, _, _, _, _, _, _, _, _, _, _, _, _, _, _] H8 o1_3 As124 fun w9 H9 => ?_
 clear H8
 refine zE (zA (wp_ret ?_))
 repeat (first | refine zK ?_ | refine zH ?_)
 have hf0 := cel_var (k := 3) H9.out.1 14 rfl Ai124 As124 rfl
 refine bodyPost_ret (v := V [en v28, en v31, en v34]) (by simp [results, Tryz.results88, asAddr, hf0]) rfl ?_
 exact ⟨rfl, H9.out.2⟩
theorem twiceT_1 {α : Type} {en : α → Nat} {fa fs fm : α → α → α} {fi : α → α} {z u b : α} {g : Nat} {tn : Value} (_C : Fd1 g en fa fs fm fi z) (x y t : Nat) (hz : ∀ w, (Op.equalIn 10000 24 (N t) (N 0)).run Tryz.prog w = .ok true w) (w : World) (hm : Mm w [(g, zV pB), (2, dtab)]) :
  Calls Tryz.prog 109 #[.agg (G1 g tn (en u) (en b)).toArray, V [x, y, t]] w (Rt w (V [x, y, t])) := by
 have H0 : Hid (_ ∧ _) := ⟨hm, Below.refl w.heap.size w⟩
 clear hm
 have HZ : Hid _ := hz
 clear hz
 go_enter Tryz.func109, Tryz.ntmps109
 refine wp_seq ?_
 refine zB 3 [.made (G1 g tn (en u) (en b)) 82, .made (cel [x, y, t]) 124, .made (cel [0, 0, 0]) 124] (sB H0) ?ho1 ?he1
 case ho1 => exact am (zS rfl rfl) (am (ex_boxA rfl rfl) (am (ex_madeTN rfl) trivial))
 intro J w1 l hM hl
 have H1 : Hid (Mm w1 ([(J 0, G1 g tn (en u) (en b)), (J 1, cel [x, y, t]), (J 2, cel [0, 0, 0])] ++ _) ∧ _) := wB H0 hM hl [0, 1, 2]
 have o1_0 := vB H0 hM hl 0
 have o1_1 := vB H0 hM hl 1
 have o1_2 := vB H0 hM hl 2
 clear hM hl l
 generalize J 0 = J1_0 at H1 o1_0 ⊢
 generalize J 1 = J1_1 at H1 o1_1 ⊢
 generalize J 2 = J1_2 at H1 o1_2 ⊢
 clear J
 refine rN (wp_seq (wp_seq ?_))
 refine zC 2 [.q (V [x, y, t]), .call (.bool true)] H1 ?ho2 ?he2
 case ho2 => exact bA 0 3 1 Ai124 As124 (ac (fun w' h => eC call118 (isZero_1 _ _ _ true HZ.out w')) trivial)
 intro _ w2 H2
 clear H1
 refine rN (wp_cond_true rfl (wp_seq ?_))
 refine zC 1 [.q (V [x, y, t])] H2 ?ho3 ?he3
 case ho3 => exact bA 0 3 1 Ai124 As124 trivial
 intro _ w3 H3
 clear H2
 refine zF (l := [1]) rfl ?_
 refine sF 2 [x, y, t] [_, _, _, _, _] H3 o1_2 As124 fun w4 H4 => ?_
 clear H3
 refine zE (zA (wp_ret ?_))
 repeat (first | refine zK ?_ | refine zH ?_)
 have hf0 := cel_var (k := 3) H4.out.1 2 rfl Ai124 As124 rfl
 refine bodyPost_ret (v := V [x, y, t]) (by simp [results, Tryz.results109, asAddr, hf0]) rfl ?_
 exact ⟨rfl, H4.out.2⟩
set_option maxHeartbeats 4000000 in
theorem twiceV_1 {α : Type} {en : α → Nat} {fa fs fm : α → α → α} {fi : α → α} {z u b : α} {g : Nat} {tn : Value} (C : Fd1 g en fa fs fm fi z) (x y t : α) (hz : ∀ w, (Op.equalIn 10000 24 (N (en t)) (N 0)).run Tryz.prog w = .ok false w) (v1 v2 v3 v4 v5 v6 v7 v8 v9 v10 v11 v12 v13 v14 v15 v16 v17 v18 : α) (hv1 : fm y y = v1) (hv2 : fm y t = v2) (hv3 : fm t t = v3) (hv4 : fm b v3 = v4) (hv5 : fa (fa v4 v4) v4 = v5) (hv6 : fa v1 v1 = v6) (hv7 : fa v6 v6 = v7) (hv8 : fa v7 v7 = v8) (hv9 : fa (fa v5 v5) v5 = v9) (hv10 : fs v1 v9 = v10) (hv11 : fa v1 v5 = v11) (hv12 : fm x y = v12) (hv13 : fm v10 v12 = v13) (hv14 : fa v13 v13 = v14) (hv15 : fm v10 v11 = v15) (hv16 : fm v8 v5 = v16) (hv17 : fa v15 v16 = v17) (hv18 : fm v8 v2 = v18) (w : World) (hm : Mm w [(g, zV pB), (2, dtab)]) :
  Calls Tryz.prog 109 #[.agg (G1 g tn (en u) (en b)).toArray, V [en x, en y, en t]] w (Rt w (V [en v14, en v17, en v18])) := by
 have H0 : Hid (_ ∧ _) := ⟨hm, Below.refl w.heap.size w⟩
 clear hm
 have HZ : Hid _ := hz
 clear hz
 have HV1 : Hid _ := hv1
 clear hv1
 have HV2 : Hid _ := hv2
 clear hv2
 have HV3 : Hid _ := hv3
 clear hv3
 have HV4 : Hid _ := hv4
 clear hv4
 have HV5 : Hid _ := hv5
 clear hv5
 have HV6 : Hid _ := hv6
 clear hv6
 have HV7 : Hid _ := hv7
 clear hv7
 have HV8 : Hid _ := hv8
 clear hv8
 have HV9 : Hid _ := hv9
 clear hv9
 have HV10 : Hid _ := hv10
 clear hv10
 have HV11 : Hid _ := hv11
 clear hv11
 have HV12 : Hid _ := hv12
 clear hv12
 have HV13 : Hid _ := hv13
 clear hv13
 have HV14 : Hid _ := hv14
 clear hv14
 have HV15 : Hid _ := hv15
 clear hv15
 have HV16 : Hid _ := hv16
 clear hv16
 have HV17 : Hid _ := hv17
 clear hv17
 have HV18 : Hid _ := hv18
 clear hv18
 go_enter Tryz.func109, Tryz.ntmps109
 refine wp_seq ?_
 refine zB 3 [.made (G1 g tn (en u) (en b)) 82, .made (cel [en x, en y, en t]) 124, .made (cel [0, 0, 0]) 124] (sB H0) ?ho1 ?he1
 case ho1 => exact am (zS rfl rfl) (am (ex_boxA rfl rfl) (am (ex_madeTN rfl) trivial))
 intro J w1 l hM hl
 have H1 : Hid (Mm w1 ([(J 0, G1 g tn (en u) (en b)), (J 1, cel [en x, en y, en t]), (J 2, cel [0, 0, 0])] ++ _) ∧ _) := wB H0 hM hl [0, 1, 2]
 have o1_0 := vB H0 hM hl 0
 have o1_1 := vB H0 hM hl 1
 have o1_2 := vB H0 hM hl 2
 clear hM hl l
 generalize J 0 = J1_0 at H1 o1_0 ⊢
 generalize J 1 = J1_1 at H1 o1_1 ⊢
 generalize J 2 = J1_2 at H1 o1_2 ⊢
 clear J
 refine rN (wp_seq (wp_seq ?_))
 refine zC 2 [.q (V [en x, en y, en t]), .call (.bool false)] H1 ?ho2 ?he2
 case ho2 => exact bA 0 3 1 Ai124 As124 (ac (fun w' h => eC call118 (isZero_1 _ _ _ false HZ.out w')) trivial)
 intro _ w2 H2
 clear H1
 refine rN (wp_cond_false rfl ?_)
 refine wp_skip (zA (wp_seq ?_))
 refine zQ 20 [.q (PT J1_0 0), .q (PT J1_0 2), .q (.func (.func 70) #[PT g 0] #[]), .q (PT J1_1 6), .q (N (en y)), .q (PT J1_1 6), .q (N (en y)), .call (N (en v1)), .q (PT J1_0 0), .q (PT J1_0 2), .q (.func (.func 70) #[PT g 0] #[]), .q (PT J1_1 6), .q (N (en y)), .q (PT J1_1 12), .q (N (en t)), .call (N (en v2)), .made zero6 24, .made zero6 24, .laid 16 zero6 (zD (en v1)), .laid 17 zero6 (zD (en v2))] (sB H2) ?ho3 ?he3 (hL := ?hL3)
 case hL3 => exact ⟨⟨_, rfl⟩, ⟨_, rfl⟩, trivial⟩
 case ho3 => exact ag (ag (bC 0 Ai76 (ag (aq (fun w' h => zT (i := 1) h 1 rfl rfl rfl rfl) (ag (aq (fun w' h => zT (i := 1) h 1 rfl rfl rfl rfl) (ac (fun w' h => ⟨70, #[PT g 0, N (en y), N (en y)], zJ rfl call70 rfl (mpn rfl) rfl, C.km HV1.out w' (h.two 3 4 rfl rfl (by decide))⟩) (ag (ag (bC 0 Ai76 (ag (aq (fun w' h => zT (i := 1) h 1 rfl rfl rfl rfl) (ag (aq (fun w' h => zT (i := 2) h 1 rfl rfl rfl rfl) (ac (fun w' h => ⟨70, #[PT g 0, N (en y), N (en t)], zJ rfl call70 rfl (mpn rfl) rfl, C.km HV2.out w' (h.two 3 4 rfl rfl (by decide))⟩) (am (zL rfl) (am (zL rfl) (ak (fun J => ⟨rfl, rfl, rfl, fun w' h => zR h rfl rfl rfl⟩) (ak (fun J => ⟨rfl, rfl, rfl, fun w' h => zR h rfl rfl rfl⟩) trivial)))))))))))))))))))
 intro J w3 l hM hl
 have H3 : Hid (Mm w3 ([(J 16, zD (en v1)), (J 17, zD (en v2))] ++ _) ∧ _) := wB H2 hM hl [16, 17]
 have o3_16 := vB H2 hM hl 16
 have o3_17 := vB H2 hM hl 17
 clear hM hl l H2
 generalize J 16 = J3_16 at H3 o3_16 ⊢
 generalize J 17 = J3_17 at H3 o3_17 ⊢
 clear J
 refine rN (wp_seq ?_)
 refine zQ 18 [.q (.agg (G1 g tn (en u) (en b)).toArray), .q (PT J1_0 0), .q (PT J1_0 2), .q (.func (.func 70) #[PT g 0] #[]), .q (PT J1_0 11), .q (N (en b)), .q (PT J1_0 0), .q (PT J1_0 2), .q (.func (.func 70) #[PT g 0] #[]), .q (PT J1_1 12), .q (N (en t)), .q (PT J1_1 12), .q (N (en t)), .call (N (en v3)), .call (N (en v4)), .call (N (en v5)), .made zero6 24, .laid 16 zero6 (zD (en v5))] (sB H3) ?ho4 ?he4 (hL := ?hL4)
 case hL4 => exact ⟨⟨_, rfl⟩, trivial⟩
 case ho4 => exact bT 2 Ai82 As82 (ag (ag (bC 2 Ai76 (ag (bN 2 (ag (ag (bC 2 Ai76 (ag (aq (fun w' h => zT (i := 2) h 3 rfl rfl rfl rfl) (ag (aq (fun w' h => zT (i := 2) h 3 rfl rfl rfl rfl) (ac (fun w' h => ⟨70, #[PT g 0, N (en t), N (en t)], zJ rfl call70 rfl (mpn rfl) rfl, C.km HV3.out w' (h.two 5 6 rfl rfl (by decide))⟩) (ac (fun w' h => ⟨70, #[PT g 0, N (en b), N (en v3)], zJ rfl call70 rfl (mpn rfl) rfl, C.km HV4.out w' (h.two 5 6 rfl rfl (by decide))⟩) (ac (fun w' h => eC call119 (thriceN_1 C HV5.out w' (h.two 5 6 rfl rfl (by decide)))) (am (zL rfl) (ak (fun J => ⟨rfl, rfl, rfl, fun w' h => zR h rfl rfl rfl⟩) trivial)))))))))))))))))
 intro J w4 l hM hl
 have H4 : Hid (Mm w4 ([(J 16, zD (en v5))] ++ _) ∧ _) := wB H3 hM hl [16]
 have o4_16 := vB H3 hM hl 16
 clear hM hl l H3
 generalize J 16 = J4_16 at H4 o4_16 ⊢
 clear J
 refine rN (wp_seq ?_)
 refine zQ 9 [.q (.agg (G1 g tn (en u) (en b)).toArray), .q (.agg (G1 g tn (en u) (en b)).toArray), .q (.agg (G1 g tn (en u) (en b)).toArray), .q (N (en v1)), .call (N (en v6)), .call (N (en v7)), .call (N (en v8)), .made zero6 24, .laid 7 zero6 (zD (en v8))] (sB H4) ?ho5 ?he5 (hL := ?hL5)
 case hL5 => exact ⟨⟨_, rfl⟩, trivial⟩
 case ho5 => exact bT 3 Ai82 As82 (bT 3 Ai82 As82 (bT 3 Ai82 As82 (bN 1 (ac (fun w' h => eC call135 (doubleN_1 C HV6.out w' (h.two 6 7 rfl rfl (by decide)))) (ac (fun w' h => eC call135 (doubleN_1 C HV7.out w' (h.two 6 7 rfl rfl (by decide)))) (ac (fun w' h => eC call135 (doubleN_1 C HV8.out w' (h.two 6 7 rfl rfl (by decide)))) (am (zL rfl) (ak (fun J => ⟨rfl, rfl, rfl, fun w' h => zR h rfl rfl rfl⟩) trivial))))))))
 intro J w5 l hM hl
 have H5 : Hid (Mm w5 ([(J 7, zD (en v8))] ++ _) ∧ _) := wB H4 hM hl [7]
 have o5_7 := vB H4 hM hl 7
 clear hM hl l H4
 generalize J 7 = J5_7 at H5 o5_7 ⊢
 clear J
 refine rN (wp_seq ?_)
 refine zQ 18 [.q (PT J1_0 0), .q (PT J1_0 1), .q (.func (.func 69) #[PT g 0] #[]), .q (N (en v1)), .q (.agg (G1 g tn (en u) (en b)).toArray), .q (N (en v5)), .call (N (en v9)), .call (N (en v10)), .q (PT J1_0 0), .q (PT J1_0 0), .q (.func (.func 68) #[PT g 0] #[]), .q (N (en v1)), .q (N (en v5)), .call (N (en v11)), .made zero6 24, .made zero6 24, .laid 14 zero6 (zD (en v10)), .laid 15 zero6 (zD (en v11))] (sB H5) ?ho6 ?he6 (hL := ?hL6)
 case hL6 => exact ⟨⟨_, rfl⟩, ⟨_, rfl⟩, trivial⟩
 case ho6 => exact ag (ag (bC 4 Ai76 (bN 2 (bT 4 Ai82 As82 (bN 1 (ac (fun w' h => eC call119 (thriceN_1 C HV9.out w' (h.two 7 8 rfl rfl (by decide)))) (ac (fun w' h => ⟨69, #[PT g 0, N (en v1), N (en v9)], zJ rfl call69 rfl (mpn rfl) rfl, C.ks HV10.out w' (h.two 7 8 rfl rfl (by decide))⟩) (ag (ag (bC 4 Ai76 (bN 2 (bN 1 (ac (fun w' h => ⟨68, #[PT g 0, N (en v1), N (en v5)], zJ rfl call68 rfl (mpn rfl) rfl, C.ka HV11.out w' (h.two 7 8 rfl rfl (by decide))⟩) (am (zL rfl) (am (zL rfl) (ak (fun J => ⟨rfl, rfl, rfl, fun w' h => zR h rfl rfl rfl⟩) (ak (fun J => ⟨rfl, rfl, rfl, fun w' h => zR h rfl rfl rfl⟩) trivial)))))))))))))))))
 intro J w6 l hM hl
 have H6 : Hid (Mm w6 ([(J 14, zD (en v10)), (J 15, zD (en v11))] ++ _) ∧ _) := wB H5 hM hl [14, 15]
 have o6_14 := vB H5 hM hl 14
 have o6_15 := vB H5 hM hl 15
 clear hM hl l H5
 generalize J 14 = J6_14 at H6 o6_14 ⊢
 generalize J 15 = J6_15 at H6 o6_15 ⊢
 clear J
 refine rN (wp_seq ?_)
 refine zN 38 [.q (.agg (G1 g tn (en u) (en b)).toArray), .q (PT J1_0 0), .q (PT J1_0 2), .q (.func (.func 70) #[PT g 0] #[]), .q (N (en v10)), .q (PT J1_0 0), .q (PT J1_0 2), .q (.func (.func 70) #[PT g 0] #[]), .q (PT J1_1 0), .q (N (en x)), .q (PT J1_1 6), .q (N (en y)), .call (N (en v12)), .call (N (en v13)), .call (N (en v14)), .q (PT J1_0 0), .q (PT J1_0 0), .q (.func (.func 68) #[PT g 0] #[]), .q (PT J1_0 0), .q (PT J1_0 2), .q (.func (.func 70) #[PT g 0] #[]), .q (N (en v10)), .q (N (en v11)), .call (N (en v15)), .q (PT J1_0 0), .q (PT J1_0 2), .q (.func (.func 70) #[PT g 0] #[]), .q (N (en v8)), .q (N (en v5)), .call (N (en v16)), .call (N (en v17)), .q (PT J1_0 0), .q (PT J1_0 2), .q (.func (.func 70) #[PT g 0] #[]), .q (N (en v8)), .q (N (en v2)), .call (N (en v18)), .q (V [en v14, en v17, en v18])] H6 ?ho7 ?he7 (hL := ?hL7)
 case hL7 => exact trivial
 case ho7 => exact bT 6 Ai82 As82 (ag (ag (bC 6 Ai76 (bN 0 (ag (ag (bC 6 Ai76 (ag (aq (fun w' h => zT (i := 0) h 7 rfl rfl rfl rfl) (ag (aq (fun w' h => zT (i := 1) h 7 rfl rfl rfl rfl) (ac (fun w' h => ⟨70, #[PT g 0, N (en x), N (en y)], zJ rfl call70 rfl (mpn rfl) rfl, C.km HV12.out w' (h.two 9 10 rfl rfl (by decide))⟩) (ac (fun w' h => ⟨70, #[PT g 0, N (en v10), N (en v12)], zJ rfl call70 rfl (mpn rfl) rfl, C.km HV13.out w' (h.two 9 10 rfl rfl (by decide))⟩) (ac (fun w' h => eC call135 (doubleN_1 C HV14.out w' (h.two 9 10 rfl rfl (by decide)))) (ag (ag (bC 6 Ai76 (ag (ag (bC 6 Ai76 (bN 0 (bN 1 (ac (fun w' h => ⟨70, #[PT g 0, N (en v10), N (en v11)], zJ rfl call70 rfl (mpn rfl) rfl, C.km HV15.out w' (h.two 9 10 rfl rfl (by decide))⟩) (ag (ag (bC 6 Ai76 (bN 2 (bN 3 (ac (fun w' h => ⟨70, #[PT g 0, N (en v8), N (en v5)], zJ rfl call70 rfl (mpn rfl) rfl, C.km HV16.out w' (h.two 9 10 rfl rfl (by decide))⟩) (ac (fun w' h => ⟨68, #[PT g 0, N (en v15), N (en v16)], zJ rfl call68 rfl (mpn rfl) rfl, C.ka HV17.out w' (h.two 9 10 rfl rfl (by decide))⟩) (ag (ag (bC 6 Ai76 (bN 2 (bN 5 (ac (fun w' h => ⟨70, #[PT g 0, N (en v8), N (en v2)], zJ rfl call70 rfl (mpn rfl) rfl, C.km HV18.out w' (h.two 9 10 rfl rfl (by decide))⟩) (ak (fun J => ⟨rfl, fun w' _ => ex_buildTN rfl rfl rfl rfl⟩) trivial)))))))))))))))))))))))))))))))))))))
 intro _ w7 H7
 clear H6
 refine zF (l := [38]) rfl ?_
 refine sF 8 [en v14, en v17, en v18] [_, _, _, _, _, _, _, _, _, _, _] H7 o1_2 As124 fun w8 H8 => ?_
 clear H7
 refine zE (zA (wp_ret ?_))
 repeat (first | refine zK ?_ | refine zH ?_)
 have hf0 := cel_var (k := 3) H8.out.1 8 rfl Ai124 As124 rfl
 refine bodyPost_ret (v := V [en v14, en v17, en v18]) (by simp [results, Tryz.results109, asAddr, hf0]) rfl ?_
 exact ⟨rfl, H8.out.2⟩
theorem ex_shl1 {ρ : Operand → Value} {o : Oper} {x y : Operand} {a : Int} {w : World} (ho : o.op = .binOp .shl 22 x y 150) (hx : ρ x = .int .u64 a) (hy : ρ y = .int .u64 1) :
  (execOp ρ o).run Tryz.prog w = .ok (.value (.int .u64 (IntKind.u64.wrap (a * 2 ^ 1)))) w := by
 simp only [execOp, ho, hx, hy]
 clear ho hx hy
 go_simp
theorem ex_shr63 {ρ : Operand → Value} {o : Oper} {x y : Operand} {a : Int} {w : World} (ho : o.op = .binOp .shr 22 x y 150) (hx : ρ x = .int .u64 a) (hy : ρ y = .int .u64 63) :
  (execOp ρ o).run Tryz.prog w = .ok (.value (.int .u64 (a / 2 ^ 63))) w := by
 simp only [execOp, ho, hx, hy]
 clear ho hx hy
 go_simp
set_option maxHeartbeats 8000000 in
theorem byWord_1 {α : Type} {en : α → Nat} {fa fs fm : α → α → α} {fi : α → α} {z u b : α} {g : Nat} {tn : Value} (_C : Fd1 g en fa fs fm fi z) (tw tg : EC.Tri α → EC.Tri α) (T0 : EC.Tri α) (A : Nat → EC.Tri α) (wo : Nat → Int) (dg : Nat → Nat)
  (cz : ∀ w, Mm w [(g, zV pB), (2, dtab)] → Calls Tryz.prog 89 #[.agg (G1 g tn (en u) (en b)).toArray] w (Rt w (V [en ((A 0).1), en ((A 0).2.1), en ((A 0).2.2)])))
  (ctw : ∀ T w, Mm w [(g, zV pB), (2, dtab)] → Calls Tryz.prog 109 #[.agg (G1 g tn (en u) (en b)).toArray, V [en T.1, en T.2.1, en T.2.2]] w (Rt w (V [en ((tw T).1), en ((tw T).2.1), en ((tw T).2.2)])))
  (ctg : ∀ T w, Mm w [(g, zV pB), (2, dtab)] → Calls Tryz.prog 88 #[.agg (G1 g tn (en u) (en b)).toArray, V [en T.1, en T.2.1, en T.2.2], V [en T0.1, en T0.2.1, en T0.2.2]] w (Rt w (V [en ((tg T).1), en ((tg T).2.1), en ((tg T).2.2)])))
  (hd : ∀ k, wo k / 2 ^ 63 = ((dg k : Nat) : Int)) (hw : ∀ k, IntKind.u64.wrap (wo k * 2 ^ 1) = wo (k + 1))
  (ha0 : ∀ k, dg k ≠ 1 → tw (A k) = A (k + 1)) (ha1 : ∀ k, dg k = 1 → tg (tw (A k)) = A (k + 1)) (w : World) (hm : Mm w [(g, zV pB), (2, dtab)]) :
  Calls Tryz.prog 75 #[.agg (G1 g tn (en u) (en b)).toArray, V [en T0.1, en T0.2.1, en T0.2.2], .int .u64 (wo 0)] w (Rt w (V [en ((A 64).1), en ((A 64).2.1), en ((A 64).2.2)])) := by
 have H0 : Hid (_ ∧ _) := ⟨hm, Below.refl w.heap.size w⟩
 clear hm
 have CZ : Hid _ := cz
 clear cz
 have CTW : Hid _ := ctw
 clear ctw
 have CTG : Hid _ := ctg
 clear ctg
 have HD : Hid _ := hd
 clear hd
 have HW : Hid _ := hw
 clear hw
 have HA0 : Hid _ := ha0
 clear ha0
 have HA1 : Hid _ := ha1
 clear ha1
 go_enter Tryz.func75, Tryz.ntmps75
 refine wp_seq ?_
 refine zB 3 [.made (G1 g tn (en u) (en b)) 82, .made (cel [en T0.1, en T0.2.1, en T0.2.2]) 124, .made (cel [0, 0, 0]) 124] (sB H0) ?ho1 ?he1
 case ho1 => exact am (zS rfl rfl) (am (ex_boxA rfl rfl) (am (ex_madeTN rfl) trivial))
 intro J w1 l hM hl
 have H1 : Hid (Mm w1 ([(J 0, G1 g tn (en u) (en b)), (J 1, cel [en T0.1, en T0.2.1, en T0.2.2]), (J 2, cel [0, 0, 0])] ++ _) ∧ _) := wB H0 hM hl [0, 1, 2]
 have o1_0 := vB H0 hM hl 0
 have o1_1 := vB H0 hM hl 1
 have o1_2 := vB H0 hM hl 2
 clear hM hl l
 generalize J 0 = J1_0 at H1 o1_0 ⊢
 generalize J 1 = J1_1 at H1 o1_1 ⊢
 generalize J 2 = J1_2 at H1 o1_2 ⊢
 clear J
 refine rN (wp_seq ?_)
 refine zB 4 [.q (.agg (G1 g tn (en u) (en b)).toArray), .call (V [en ((A 0).1), en ((A 0).2.1), en ((A 0).2.2)]), .made (cel [0, 0, 0]) 124, .laid 2 (cel [0, 0, 0]) (cel [en ((A 0).1), en ((A 0).2.1), en ((A 0).2.2)])] (sB H1) ?ho2 ?he2 (hL := ?hL2)
 case hL2 => exact ⟨⟨_, rfl⟩, trivial⟩
 case ho2 => exact bT 0 Ai82 As82 (ac (fun w' h => eC call89 (CZ.out w' (h.two 3 4 rfl rfl (by decide)))) (am (ex_madeTN rfl) (ak (fun J => ⟨rfl, rfl, rfl, fun w' h => ex_laidA h rfl As124 rfl rfl rfl⟩) trivial)))
 intro J w2 l hM hl
 have H2 : Hid (Mm w2 ([(J 2, cel [en ((A 0).1), en ((A 0).2.1), en ((A 0).2.2)])] ++ _) ∧ _) := wB H1 hM hl [2]
 have o2_2 := vB H1 hM hl 2
 clear hM hl l H1
 generalize J 2 = J2_2 at H2 o2_2 ⊢
 clear J
 refine rN (wp_seq (wp_seq ?_))
 refine zC 1 [.q (.int .i64 0)] H2 ?ho3 ?he3
 case ho3 => exact ar trivial
 intro _ w3 H3
 clear H2
 refine rN (wp_block ?_)
 refine loop_ghost (α := Nat) (fun k a' w' => ∃ s0 : Nat → Value, a' = ⟨#[.agg (G1 g tn (en u) (en b)).toArray, V [en T0.1, en T0.2.1, en T0.2.2], .int .u64 (wo k), PT J1_0 0, PT J1_1 0, undef, PT J1_2 0, PT J2_2 0, .agg (G1 g tn (en u) (en b)).toArray, V [en ((A 0).1), en ((A 0).2.1), en ((A 0).2.2)], .int .i64 ((k : Nat) : Int), s0 11, s0 12, s0 13, s0 14, s0 15, s0 16, s0 17, s0 18, s0 19, s0 20, s0 21, s0 22, s0 23, s0 24, undef], []⟩ ∧ (Mm w' [(J2_2, cel [en ((A k).1), en ((A k).2.1), en ((A k).2.2)]), (J1_0, G1 g tn (en u) (en b)), (J1_1, cel [en T0.1, en T0.2.1, en T0.2.2]), (J1_2, cel [0, 0, 0]), (g, zV pB), (2, dtab)] ∧ Below w.heap.size w w') ∧ k ≤ 64) (fun k => 64 - k) 0 ?st0 ?rd0
 case st0 => exact ⟨(slotfn [ud, ud, ud, ud, ud, ud, ud, ud, ud, ud, ud, ud, ud, ud, ud, ud, ud, ud, ud, ud, ud, ud, ud, ud, ud]), rfl, ⟨H3.out.1, H3.out.2⟩, by omega⟩
 intro k a' w4 hI
 obtain ⟨s0, rfl, hMB, hk0⟩ := hI
 have H4 : Hid (_ ∧ _) := hMB
 clear hMB H3
 by_cases hlt0 : k < 64
 ·have hrd : True := trivial
  clear hrd
  by_cases hdz : dg k = 1
  ·have hrd : True := trivial
   clear hrd
   have hlt : k < 64 := by omega
   refine wp_seq ?_
   refine zC 1 [.q (.bool true)] H4 ?ho4 ?he4
   case ho4 => exact ak (by refine fun J => ⟨rfl, fun w' h => ?_⟩; clear h; go_simp <;> omega) trivial
   intro _ w5 H5
   clear H4
   refine rN (wp_seq ?_)
   refine wp_cond_true rfl (wp_skip ?_)
   refine zA (wp_seq ?_)
   refine wp_block (wp_seq ?_)
   refine zC 3 [.q (.agg (G1 g tn (en u) (en b)).toArray), .q (V [en ((A k).1), en ((A k).2.1), en ((A k).2.2)]), .call (V [en ((tw (A k)).1), en ((tw (A k)).2.1), en ((tw (A k)).2.2)])] H5 ?ho5 ?he5
   case ho5 => exact bT 1 Ai82 As82 (bA 0 3 0 Ai124 As124 (ac (fun w' h => eC call109 (CTW.out (A k) w' (h.two 4 5 rfl rfl (by decide)))) trivial))
   intro _ w6 H6
   clear H5
   refine zF (l := [3]) rfl ?_
   refine sF 0 [en ((tw (A k)).1), en ((tw (A k)).2.1), en ((tw (A k)).2.2)] [_, _, _, _, _, _] H6 o2_2 As124 fun w7 H7 => ?_
   clear H6
   refine zE (zA ?_)
   refine wp_seq (wp_seq ?_)
   refine zC 3 [.q (.int .u64 (wo k)), .q (.int .u64 ((dg k : Nat) : Int)), .q (.bool true)] H7 ?ho6 ?he6
   case ho6 => exact ar (ak (fun J => ⟨rfl, fun w' _ => by rw [← HD.out k]; exact ex_shr63 rfl rfl rfl⟩) (ak (by refine fun J => ⟨rfl, fun w' h => ?_⟩; clear h; go_simp <;> omega) trivial))
   intro _ w8 H8
   clear H7
   refine rN (wp_cond_true rfl ?_)
   refine zC 4 [.q (.agg (G1 g tn (en u) (en b)).toArray), .q (V [en ((tw (A k)).1), en ((tw (A k)).2.1), en ((tw (A k)).2.2)]), .q (V [en T0.1, en T0.2.1, en T0.2.2]), .call (V [en ((tg (tw (A k))).1), en ((tg (tw (A k))).2.1), en ((tg (tw (A k))).2.2)])] H8 ?ho7 ?he7
   case ho7 => exact bT 1 Ai82 As82 (bA 0 3 0 Ai124 As124 (bA 0 3 2 Ai124 As124 (ac (fun w' h => eC call88 (CTG.out (tw (A k)) w' (h.two 4 5 rfl rfl (by decide)))) trivial)))
   intro _ w9 H9
   clear H8
   refine zF (l := [4]) rfl ?_
   refine sF 0 [en ((tg (tw (A k))).1), en ((tg (tw (A k))).2.1), en ((tg (tw (A k))).2.2)] [_, _, _, _, _, _] H9 o2_2 As124 fun w10 H10 => ?_
   clear H9
   refine zE (zA ?_)
   refine zC 2 [.q (.int .u64 (wo k)), .q (.int .u64 (wo (k + 1)))] H10 ?ho8 ?he8
   case ho8 => exact ar (ak (fun J => ⟨rfl, fun w' _ => by rw [← HW.out k]; exact ex_shl1 rfl rfl rfl⟩) trivial)
   intro _ w11 H11
   clear H10
   refine zF (l := [2]) rfl ?_
   refine zG (d := 2) rfl rfl rfl rfl ?_
   simp only [Act.put, sa, sz, ss]
   refine zE (zI (zA ?_))
   refine zC 1 [.q (.int .i64 ((k + 1 : Nat) : Int))] H11 ?ho9 ?he9
   case ho9 => exact ak (by refine fun J => ⟨rfl, fun w' h => ?_⟩; clear h; go_simp; rw [IntKind.wrap_i64]; omega) trivial
   intro _ w12 H12
   clear H11
   refine zF (l := [1]) rfl ?_
   refine zG (d := 10) rfl rfl rfl rfl ?_
   simp only [Act.put, sa, sz, ss]
   refine zE (zA ?_)
   exact ⟨k + 1, ⟨(slotfn [ud, ud, ud, ud, ud, ud, ud, ud, ud, ud, ud, .bool true, .agg (G1 g tn (en u) (en b)).toArray, V [en ((A k).1), en ((A k).2.1), en ((A k).2.2)], V [en ((tw (A k)).1), en ((tw (A k)).2.1), en ((tw (A k)).2.2)], .int .u64 (wo k), .int .u64 ((dg k : Nat) : Int), .bool true, .agg (G1 g tn (en u) (en b)).toArray, V [en ((tw (A k)).1), en ((tw (A k)).2.1), en ((tw (A k)).2.2)], V [en T0.1, en T0.2.1, en T0.2.2], V [en ((tg (tw (A k))).1), en ((tg (tw (A k))).2.1), en ((tg (tw (A k))).2.2)], .int .u64 (wo k), .int .u64 (wo (k + 1)), .int .i64 ((k + 1 : Nat) : Int)]), rfl, ⟨(H12.out.1).atk (by rw [HA1.out k hdz]), H12.out.2⟩, by omega⟩, by omega⟩
  ·have hrd : True := trivial
   clear hrd
   have hlt : k < 64 := by omega
   refine wp_seq ?_
   refine zC 1 [.q (.bool true)] H4 ?ho10 ?he10
   case ho10 => exact ak (by refine fun J => ⟨rfl, fun w' h => ?_⟩; clear h; go_simp <;> omega) trivial
   intro _ w13 H13
   clear H4
   refine rN (wp_seq ?_)
   refine wp_cond_true rfl (wp_skip ?_)
   refine zA (wp_seq ?_)
   refine wp_block (wp_seq ?_)
   refine zC 3 [.q (.agg (G1 g tn (en u) (en b)).toArray), .q (V [en ((A k).1), en ((A k).2.1), en ((A k).2.2)]), .call (V [en ((tw (A k)).1), en ((tw (A k)).2.1), en ((tw (A k)).2.2)])] H13 ?ho11 ?he11
   case ho11 => exact bT 1 Ai82 As82 (bA 0 3 0 Ai124 As124 (ac (fun w' h => eC call109 (CTW.out (A k) w' (h.two 4 5 rfl rfl (by decide)))) trivial))
   intro _ w14 H14
   clear H13
   refine zF (l := [3]) rfl ?_
   refine sF 0 [en ((tw (A k)).1), en ((tw (A k)).2.1), en ((tw (A k)).2.2)] [_, _, _, _, _, _] H14 o2_2 As124 fun w15 H15 => ?_
   clear H14
   refine zE (zA ?_)
   refine wp_seq (wp_seq ?_)
   refine zC 3 [.q (.int .u64 (wo k)), .q (.int .u64 ((dg k : Nat) : Int)), .q (.bool false)] H15 ?ho12 ?he12
   case ho12 => exact ar (ak (fun J => ⟨rfl, fun w' _ => by rw [← HD.out k]; exact ex_shr63 rfl rfl rfl⟩) (ak (by refine fun J => ⟨rfl, fun w' h => ?_⟩; clear h; go_simp <;> omega) trivial))
   intro _ w16 H16
   clear H15
   refine rN (wp_cond_false rfl ?_)
   refine wp_skip (zA ?_)
   refine zC 2 [.q (.int .u64 (wo k)), .q (.int .u64 (wo (k + 1)))] H16 ?ho13 ?he13
   case ho13 => exact ar (ak (fun J => ⟨rfl, fun w' _ => by rw [← HW.out k]; exact ex_shl1 rfl rfl rfl⟩) trivial)
   intro _ w17 H17
   clear H16
   refine zF (l := [2]) rfl ?_
   refine zG (d := 2) rfl rfl rfl rfl ?_
   simp only [Act.put, sa, sz, ss]
   refine zE (zI (zA ?_))
   refine zC 1 [.q (.int .i64 ((k + 1 : Nat) : Int))] H17 ?ho14 ?he14
   case ho14 => exact ak (by refine fun J => ⟨rfl, fun w' h => ?_⟩; clear h; go_simp; rw [IntKind.wrap_i64]; omega) trivial
   intro _ w18 H18
   clear H17
   refine zF (l := [1]) rfl ?_
   refine zG (d := 10) rfl rfl rfl rfl ?_
   simp only [Act.put, sa, sz, ss]
   refine zE (zA ?_)
   exact ⟨k + 1, ⟨(slotfn [ud, ud, ud, ud, ud, ud, ud, ud, ud, ud, ud, .bool true, .agg (G1 g tn (en u) (en b)).toArray, V [en ((A k).1), en ((A k).2.1), en ((A k).2.2)], V [en ((tw (A k)).1), en ((tw (A k)).2.1), en ((tw (A k)).2.2)], .int .u64 (wo k), .int .u64 ((dg k : Nat) : Int), .bool false, s0 18, s0 19, s0 20, s0 21, .int .u64 (wo k), .int .u64 (wo (k + 1)), .int .i64 ((k + 1 : Nat) : Int)]), rfl, ⟨(H18.out.1).atk (by rw [HA0.out k hdz]), H18.out.2⟩, by omega⟩, by omega⟩
 have hk64 : k = 64 := by omega
 subst hk64
 refine wp_seq ?_
 refine zC 1 [.q (.bool false)] H4 ?ho15 ?he15
 case ho15 => exact ak (by refine fun J => ⟨rfl, fun w' h => ?_⟩; clear h; go_simp <;> omega) trivial
 intro _ w19 H19
 clear H4
 refine rN (wp_seq (wp_cond_false rfl ?_))
 refine wp_exit ?_
 repeat refine zY ?_
 refine zU ?_
 refine zA (wp_seq ?_)
 refine zC 1 [.q (V [en ((A 64).1), en ((A 64).2.1), en ((A 64).2.2)])] H19 ?ho16 ?he16
 case ho16 => exact bA 0 3 0 Ai124 As124 trivial
 intro _ w20 H20
 clear H19
 refine zF (l := [1]) rfl ?_
 refine sF 3 [en ((A 64).1), en ((A 64).2.1), en ((A 64).2.2)] [_, _, _, _, _, _] H20 o1_2 As124 fun w21 H21 => ?_
 clear H20
 refine zE (zA (wp_ret ?_))
 repeat (first | refine zK ?_ | refine zH ?_)
 have hf0 := cel_var (k := 3) H21.out.1 3 rfl Ai124 As124 rfl
 refine bodyPost_ret (v := V [en ((A 64).1), en ((A 64).2.1), en ((A 64).2.2)]) (by simp [results, Tryz.results75, asAddr, hf0]) rfl ?_
 exact ⟨rfl, H21.out.2⟩
set_option maxHeartbeats 2000000 in
theorem turn_1 {α : Type} {en : α → Nat} {fa fs fm : α → α → α} {fi : α → α} {z : α} {g : Nat} (C : Fd1 g en fa fs fm fi z) (x t3 : α) (y gx gy : Nat) (w : World) (hm : Mm w [(g, zV pB), (2, dtab), (gx, [PT g 0]), (gy, zD (en t3))]) :
  Calls Tryz.prog 73 #[N (en x), N y, PT gx 0, PT gy 0] w (Rt w (.tuple #[N (en (fm x t3)), N y])) := by
 have H0 : Hid (_ ∧ _) := ⟨hm, Below.refl w.heap.size w⟩
 clear hm
 go_enter Tryz.func73, Tryz.ntmps73
 refine wp_seq ?_
 refine zB 4 [.made (zD (en x)) 24, .made (zD y) 24, .made zero6 24, .made zero6 24] (sB H0) ?ho1 ?he1
 case ho1 => exact am (yE rfl rfl) (am (yE rfl rfl) (am (zL rfl) (am (zL rfl) trivial)))
 intro J w1 l hM hl
 have H1 : Hid (Mm w1 ([(J 0, zD (en x)), (J 1, zD y), (J 2, zero6), (J 3, zero6)] ++ _) ∧ _) := wB H0 hM hl [0, 1, 2, 3]
 have o1_0 := vB H0 hM hl 0
 have o1_1 := vB H0 hM hl 1
 have o1_2 := vB H0 hM hl 2
 have o1_3 := vB H0 hM hl 3
 clear hM hl l
 generalize J 0 = J1_0 at H1 o1_0 ⊢
 generalize J 1 = J1_1 at H1 o1_1 ⊢
 generalize J 2 = J1_2 at H1 o1_2 ⊢
 generalize J 3 = J1_3 at H1 o1_3 ⊢
 clear J
 refine rN (wp_seq ?_)
 refine walk_put2 (by kernel_rfl) 5 [4] [.q (PT g 0), .q (N (en x)), .q (N (en t3)), .call (N (en (fm x t3))), .q (N y)] _ ?pre2 ?F2 _ ?hpre2 (fun J => ?hF2) (by kernel_rfl) rfl trivial (sB H1) ?ho2 ?hla2 ?he2
 case hpre2 => simp only [tk, tz]; rfl
 case hF2 => simp only [yF, Kind.val, Act.put, sa, sz, ss]; rfl
 case ho2 =>
  refine bC 6 Ai39 ?_
  refine bN 0 ?_
  refine bN 7 ?_
  refine ak (fun J => ⟨rfl, fun w' h => eC call70 (C.cm _ _ w' (h.two 4 5 rfl rfl (by decide)))⟩) ?_
  refine bN 1 ?_
  exact trivial
 case hla2 => exact rfl
 intro J w2 l hM hl
 have H2 := keepB H1 hM.below
 clear hM hl l H1 J
 have H3 : Hid (Mm (w2.setCells J1_2 0 (zD (en (fm x t3)))) [(J1_0, zD (en x)), (J1_1, zD y), (J1_2, zD (en (fm x t3))), (J1_3, zero6), (g, zV pB), (2, dtab), (gx, [PT g 0]), (gy, zD (en t3))] ∧ Below w.heap.size w (w2.setCells J1_2 0 (zD (en (fm x t3))))) := ⟨H2.out.1.put 2 (off := 0) (vs := zD (en (fm x t3))) rfl (Nat.le_of_ble_eq_true rfl), yD _ o1_2.out _ _ _ H2.out.2⟩
 refine ⟨_, zP H2.out.1 2 rfl rfl rfl rfl (Nat.le_of_ble_eq_true rfl), ⟨⟨_, _, rfl, rfl, rfl, yG H3.out.1 1 rfl rfl rfl rfl⟩, trivial⟩, ?_⟩
 clear H2
 generalize hgw : World.setCells _ _ _ _ = w3 at H3 ⊢
 clear hgw
 refine zF (l := [6]) rfl ?_
 refine sG rfl (fun h => zP h 3 rfl rfl rfl rfl (Nat.le_of_ble_eq_true rfl)) 3 [_, _, _, (_, zD y), _, _, _, _] H3 o1_3 fun w4 H4 => ?_
 clear H3
 refine zE (zA (wp_ret ?_))
 repeat (first | refine zK ?_ | refine zH ?_)
 have c0 := H4.out.1.get 2 rfl 0 rfl
 have c1 := H4.out.1.get 2 rfl 1 rfl
 have c2 := H4.out.1.get 2 rfl 2 rfl
 have c3 := H4.out.1.get 2 rfl 3 rfl
 have c4 := H4.out.1.get 2 rfl 4 rfl
 have c5 := H4.out.1.get 2 rfl 5 rfl
 have c1_0 := H4.out.1.get 3 rfl 0 rfl
 have c1_1 := H4.out.1.get 3 rfl 1 rfl
 have c1_2 := H4.out.1.get 3 rfl 2 rfl
 have c1_3 := H4.out.1.get 3 rfl 3 rfl
 have c1_4 := H4.out.1.get 3 rfl 4 rfl
 have c1_5 := H4.out.1.get 3 rfl 5 rfl
 refine bodyPost_ret (v := .tuple #[N (en (fm x t3)), N y]) (by simp [results, Tryz.results73, go_sem, *]) rfl ?_
 exact ⟨rfl, H4.out.2⟩
set_option maxHeartbeats 8000000 in
theorem byWord_2 {α : Type} {e0 e1 : α → Nat} {fa fs fm : α → α → α} {fi : α → α} {z u b : α} {tn : Value} (_C : Fd2 e0 e1 fa fs fm fi z) (tw tg : EC.Tri α → EC.Tri α) (T0 : EC.Tri α) (A : Nat → EC.Tri α) (wo : Nat → Int) (dg : Nat → Nat)
  (cz : ∀ w, Mm w [(2, dtab)] → Calls Tryz.prog 99 #[.agg (G2 tn (e0 u) (e1 u) (e0 b) (e1 b)).toArray] w (Rt w (V [e0 ((A 0).1), e1 ((A 0).1), e0 ((A 0).2.1), e1 ((A 0).2.1), e0 ((A 0).2.2), e1 ((A 0).2.2)])))
  (ctw : ∀ T w, Mm w [(2, dtab)] → Calls Tryz.prog 117 #[.agg (G2 tn (e0 u) (e1 u) (e0 b) (e1 b)).toArray, V [e0 T.1, e1 T.1, e0 T.2.1, e1 T.2.1, e0 T.2.2, e1 T.2.2]] w (Rt w (V [e0 ((tw T).1), e1 ((tw T).1), e0 ((tw T).2.1), e1 ((tw T).2.1), e0 ((tw T).2.2), e1 ((tw T).2.2)])))
  (ctg : ∀ T w, Mm w [(2, dtab)] → Calls Tryz.prog 100 #[.agg (G2 tn (e0 u) (e1 u) (e0 b) (e1 b)).toArray, V [e0 T.1, e1 T.1, e0 T.2.1, e1 T.2.1, e0 T.2.2, e1 T.2.2], V [e0 T0.1, e1 T0.1, e0 T0.2.1, e1 T0.2.1, e0 T0.2.2, e1 T0.2.2]] w (Rt w (V [e0 ((tg T).1), e1 ((tg T).1), e0 ((tg T).2.1), e1 ((tg T).2.1), e0 ((tg T).2.2), e1 ((tg T).2.2)])))
  (hd : ∀ k, wo k / 2 ^ 63 = ((dg k : Nat) : Int)) (hw : ∀ k, IntKind.u64.wrap (wo k * 2 ^ 1) = wo (k + 1))
  (ha0 : ∀ k, dg k ≠ 1 → tw (A k) = A (k + 1)) (ha1 : ∀ k, dg k = 1 → tg (tw (A k)) = A (k + 1)) (w : World) (hm : Mm w [(2, dtab)]) :
  Calls Tryz.prog 85 #[.agg (G2 tn (e0 u) (e1 u) (e0 b) (e1 b)).toArray, V [e0 T0.1, e1 T0.1, e0 T0.2.1, e1 T0.2.1, e0 T0.2.2, e1 T0.2.2], .int .u64 (wo 0)] w (Rt w (V [e0 ((A 64).1), e1 ((A 64).1), e0 ((A 64).2.1), e1 ((A 64).2.1), e0 ((A 64).2.2), e1 ((A 64).2.2)])) := by
 have H0 : Hid (_ ∧ _) := ⟨hm, Below.refl w.heap.size w⟩
 clear hm
 have CZ : Hid _ := cz
 clear cz
 have CTW : Hid _ := ctw
 clear ctw
 have CTG : Hid _ := ctg
 clear ctg
 have HD : Hid _ := hd
 clear hd
 have HW : Hid _ := hw
 clear hw
 have HA0 : Hid _ := ha0
 clear ha0
 have HA1 : Hid _ := ha1
 clear ha1
 go_enter Tryz.func85, Tryz.ntmps85
 refine wp_seq ?_
 refine zB 3 [.made (G2 tn (e0 u) (e1 u) (e0 b) (e1 b)) 93, .made (cel [e0 T0.1, e1 T0.1, e0 T0.2.1, e1 T0.2.1, e0 T0.2.2, e1 T0.2.2]) 129, .made (cel [0, 0, 0, 0, 0, 0]) 129] (sB H0) ?ho1 ?he1
 case ho1 => exact am (zS rfl rfl) (am (ex_boxA rfl rfl) (am (ex_madeTE rfl) trivial))
 intro J w1 l hM hl
 have H1 : Hid (Mm w1 ([(J 0, G2 tn (e0 u) (e1 u) (e0 b) (e1 b)), (J 1, cel [e0 T0.1, e1 T0.1, e0 T0.2.1, e1 T0.2.1, e0 T0.2.2, e1 T0.2.2]), (J 2, cel [0, 0, 0, 0, 0, 0])] ++ _) ∧ _) := wB H0 hM hl [0, 1, 2]
 have o1_0 := vB H0 hM hl 0
 have o1_1 := vB H0 hM hl 1
 have o1_2 := vB H0 hM hl 2
 clear hM hl l
 generalize J 0 = J1_0 at H1 o1_0 ⊢
 generalize J 1 = J1_1 at H1 o1_1 ⊢
 generalize J 2 = J1_2 at H1 o1_2 ⊢
 clear J
 refine rN (wp_seq ?_)
 refine zB 4 [.q (.agg (G2 tn (e0 u) (e1 u) (e0 b) (e1 b)).toArray), .call (V [e0 ((A 0).1), e1 ((A 0).1), e0 ((A 0).2.1), e1 ((A 0).2.1), e0 ((A 0).2.2), e1 ((A 0).2.2)]), .made (cel [0, 0, 0, 0, 0, 0]) 129, .laid 2 (cel [0, 0, 0, 0, 0, 0]) (cel [e0 ((A 0).1), e1 ((A 0).1), e0 ((A 0).2.1), e1 ((A 0).2.1), e0 ((A 0).2.2), e1 ((A 0).2.2)])] (sB H1) ?ho2 ?he2 (hL := ?hL2)
 case hL2 => exact ⟨⟨_, rfl⟩, trivial⟩
 case ho2 => exact bT 0 Ai93 As93 (ac (fun w' h => eC call99 (CZ.out w' (h.one 3 rfl))) (am (ex_madeTE rfl) (ak (fun J => ⟨rfl, rfl, rfl, fun w' h => ex_laidA h rfl As129 rfl rfl rfl⟩) trivial)))
 intro J w2 l hM hl
 have H2 : Hid (Mm w2 ([(J 2, cel [e0 ((A 0).1), e1 ((A 0).1), e0 ((A 0).2.1), e1 ((A 0).2.1), e0 ((A 0).2.2), e1 ((A 0).2.2)])] ++ _) ∧ _) := wB H1 hM hl [2]
 have o2_2 := vB H1 hM hl 2
 clear hM hl l H1
 generalize J 2 = J2_2 at H2 o2_2 ⊢
 clear J
 refine rN (wp_seq (wp_seq ?_))
 refine zC 1 [.q (.int .i64 0)] H2 ?ho3 ?he3
 case ho3 => exact ar trivial
 intro _ w3 H3
 clear H2
 refine rN (wp_block ?_)
 refine loop_ghost (α := Nat) (fun k a' w' => ∃ s0 : Nat → Value, a' = ⟨#[.agg (G2 tn (e0 u) (e1 u) (e0 b) (e1 b)).toArray, V [e0 T0.1, e1 T0.1, e0 T0.2.1, e1 T0.2.1, e0 T0.2.2, e1 T0.2.2], .int .u64 (wo k), PT J1_0 0, PT J1_1 0, undef, PT J1_2 0, PT J2_2 0, .agg (G2 tn (e0 u) (e1 u) (e0 b) (e1 b)).toArray, V [e0 ((A 0).1), e1 ((A 0).1), e0 ((A 0).2.1), e1 ((A 0).2.1), e0 ((A 0).2.2), e1 ((A 0).2.2)], .int .i64 ((k : Nat) : Int), s0 11, s0 12, s0 13, s0 14, s0 15, s0 16, s0 17, s0 18, s0 19, s0 20, s0 21, s0 22, s0 23, s0 24, undef], []⟩ ∧ (Mm w' [(J2_2, cel [e0 ((A k).1), e1 ((A k).1), e0 ((A k).2.1), e1 ((A k).2.1), e0 ((A k).2.2), e1 ((A k).2.2)]), (J1_0, G2 tn (e0 u) (e1 u) (e0 b) (e1 b)), (J1_1, cel [e0 T0.1, e1 T0.1, e0 T0.2.1, e1 T0.2.1, e0 T0.2.2, e1 T0.2.2]), (J1_2, cel [0, 0, 0, 0, 0, 0]), (2, dtab)] ∧ Below w.heap.size w w') ∧ k ≤ 64) (fun k => 64 - k) 0 ?st0 ?rd0
 case st0 => exact ⟨(slotfn [ud, ud, ud, ud, ud, ud, ud, ud, ud, ud, ud, ud, ud, ud, ud, ud, ud, ud, ud, ud, ud, ud, ud, ud, ud]), rfl, ⟨H3.out.1, H3.out.2⟩, by omega⟩
 intro k a' w4 hI
 obtain ⟨s0, rfl, hMB, hk0⟩ := hI
 have H4 : Hid (_ ∧ _) := hMB
 clear hMB H3
 by_cases hlt0 : k < 64
 ·have hrd : True := trivial
  clear hrd
  by_cases hdz : dg k = 1
  ·have hrd : True := trivial
   clear hrd
   have hlt : k < 64 := by omega
   refine wp_seq ?_
   refine zC 1 [.q (.bool true)] H4 ?ho4 ?he4
   case ho4 => exact ak (by refine fun J => ⟨rfl, fun w' h => ?_⟩; clear h; go_simp <;> omega) trivial
   intro _ w5 H5
   clear H4
   refine rN (wp_seq ?_)
   refine wp_cond_true rfl (wp_skip ?_)
   refine zA (wp_seq ?_)
   refine wp_block (wp_seq ?_)
   refine zC 3 [.q (.agg (G2 tn (e0 u) (e1 u) (e0 b) (e1 b)).toArray), .q (V [e0 ((A k).1), e1 ((A k).1), e0 ((A k).2.1), e1 ((A k).2.1), e0 ((A k).2.2), e1 ((A k).2.2)]), .call (V [e0 ((tw (A k)).1), e1 ((tw (A k)).1), e0 ((tw (A k)).2.1), e1 ((tw (A k)).2.1), e0 ((tw (A k)).2.2), e1 ((tw (A k)).2.2)])] H5 ?ho5 ?he5
   case ho5 => exact bT 1 Ai93 As93 (bA 0 6 0 Ai129 As129 (ac (fun w' h => eC call117 (CTW.out (A k) w' (h.one 4 rfl))) trivial))
   intro _ w6 H6
   clear H5
   refine zF (l := [3]) rfl ?_
   refine sF 0 [e0 ((tw (A k)).1), e1 ((tw (A k)).1), e0 ((tw (A k)).2.1), e1 ((tw (A k)).2.1), e0 ((tw (A k)).2.2), e1 ((tw (A k)).2.2)] [_, _, _, _, _] H6 o2_2 As129 fun w7 H7 => ?_
   clear H6
   refine zE (zA ?_)
   refine wp_seq (wp_seq ?_)
   refine zC 3 [.q (.int .u64 (wo k)), .q (.int .u64 ((dg k : Nat) : Int)), .q (.bool true)] H7 ?ho6 ?he6
   case ho6 => exact ar (ak (fun J => ⟨rfl, fun w' _ => by rw [← HD.out k]; exact ex_shr63 rfl rfl rfl⟩) (ak (by refine fun J => ⟨rfl, fun w' h => ?_⟩; clear h; go_simp <;> omega) trivial))
   intro _ w8 H8
   clear H7
   refine rN (wp_cond_true rfl ?_)
   refine zC 4 [.q (.agg (G2 tn (e0 u) (e1 u) (e0 b) (e1 b)).toArray), .q (V [e0 ((tw (A k)).1), e1 ((tw (A k)).1), e0 ((tw (A k)).2.1), e1 ((tw (A k)).2.1), e0 ((tw (A k)).2.2), e1 ((tw (A k)).2.2)]), .q (V [e0 T0.1, e1 T0.1, e0 T0.2.1, e1 T0.2.1, e0 T0.2.2, e1 T0.2.2]), .call (V [e0 ((tg (tw (A k))).1), e1 ((tg (tw (A k))).1), e0 ((tg (tw (A k))).2.1), e1 ((tg (tw (A k))).2.1), e0 ((tg (tw (A k))).2.2), e1 ((tg (tw (A k))).2.2)])] H8 ?ho7 ?he7
   case ho7 => exact bT 1 Ai93 As93 (bA 0 6 0 Ai129 As129 (bA 0 6 2 Ai129 As129 (ac (fun w' h => eC call100 (CTG.out (tw (A k)) w' (h.one 4 rfl))) trivial)))
   intro _ w9 H9
   clear H8
   refine zF (l := [4]) rfl ?_
   refine sF 0 [e0 ((tg (tw (A k))).1), e1 ((tg (tw (A k))).1), e0 ((tg (tw (A k))).2.1), e1 ((tg (tw (A k))).2.1), e0 ((tg (tw (A k))).2.2), e1 ((tg (tw (A k))).2.2)] [_, _, _, _, _] H9 o2_2 As129 fun w10 H10 => ?_
   clear H9
   refine zE (zA ?_)
   refine zC 2 [.q (.int .u64 (wo k)), .q (.int .u64 (wo (k + 1)))] H10 ?ho8 ?he8
   case ho8 => exact ar (ak (fun J => ⟨rfl, fun w' _ => by rw [← HW.out k]; exact ex_shl1 rfl rfl rfl⟩) trivial)
   intro _ w11 H11
   clear H10
   refine zF (l := [2]) rfl ?_
   refine zG (d := 2) rfl rfl rfl rfl ?_
   simp only [Act.put, sa, sz, ss]
   refine zE (zI (zA ?_))
   refine zC 1 [.q (.int .i64 ((k + 1 : Nat) : Int))] H11 ?ho9 ?he9
   case ho9 => exact ak (by refine fun J => ⟨rfl, fun w' h => ?_⟩; clear h; go_simp; rw [IntKind.wrap_i64]; omega) trivial
   intro _ w12 H12
   clear H11
   refine zF (l := [1]) rfl ?_
   refine zG (d := 10) rfl rfl rfl rfl ?_
   simp only [Act.put, sa, sz, ss]
   refine zE (zA ?_)
   exact ⟨k + 1, ⟨(slotfn [ud, ud, ud, ud, ud, ud, ud, ud, ud, ud, ud, .bool true, .agg (G2 tn (e0 u) (e1 u) (e0 b) (e1 b)).toArray, V [e0 ((A k).1), e1 ((A k).1), e0 ((A k).2.1), e1 ((A k).2.1), e0 ((A k).2.2), e1 ((A k).2.2)], V [e0 ((tw (A k)).1), e1 ((tw (A k)).1), e0 ((tw (A k)).2.1), e1 ((tw (A k)).2.1), e0 ((tw (A k)).2.2), e1 ((tw (A k)).2.2)], .int .u64 (wo k), .int .u64 ((dg k : Nat) : Int), .bool true, .agg (G2 tn (e0 u) (e1 u) (e0 b) (e1 b)).toArray, V [e0 ((tw (A k)).1), e1 ((tw (A k)).1), e0 ((tw (A k)).2.1), e1 ((tw (A k)).2.1), e0 ((tw (A k)).2.2), e1 ((tw (A k)).2.2)], V [e0 T0.1, e1 T0.1, e0 T0.2.1, e1 T0.2.1, e0 T0.2.2, e1 T0.2.2], V [e0 ((tg (tw (A k))).1), e1 ((tg (tw (A k))).1), e0 ((tg (tw (A k))).2.1), e1 ((tg (tw (A k))).2.1), e0 ((tg (tw (A k))).2.2), e1 ((tg (tw (A k))).2.2)], .int .u64 (wo k), .int .u64 (wo (k + 1)), .int .i64 ((k + 1 : Nat) : Int)]), rfl, ⟨(H12.out.1).atk (by rw [HA1.out k hdz]), H12.out.2⟩, by omega⟩, by omega⟩
  ·have hrd : True := trivial
   clear hrd
   have hlt : k < 64 := by omega
   refine wp_seq ?_
   refine zC 1 [.q (.bool true)] H4 ?ho10 ?he10
   case ho10 => exact ak (by refine fun J => ⟨rfl, fun w' h => ?_⟩; clear h; go_simp <;> omega) trivial
   intro _ w13 H13
   clear H4
   refine rN (wp_seq ?_)
   refine wp_cond_true rfl (wp_skip ?_)
   refine zA (wp_seq ?_)
   refine wp_block (wp_seq ?_)
   refine zC 3 [.q (.agg (G2 tn (e0 u) (e1 u) (e0 b) (e1 b)).toArray), .q (V [e0 ((A k).1), e1 ((A k).1), e0 ((A k).2.1), e1 ((A k).2.1), e0 ((A k).2.2), e1 ((A k).2.2)]), .call (V [e0 ((tw (A k)).1), e1 ((tw (A k)).1), e0 ((tw (A k)).2.1), e1 ((tw (A k)).2.1), e0 ((tw (A k)).2.2), e1 ((tw (A k)).2.2)])] H13 ?ho11 ?he11
   case ho11 => exact bT 1 Ai93 As93 (bA 0 6 0 Ai129 As129 (ac (fun w' h => eC call117 (CTW.out (A k) w' (h.one 4 rfl))) trivial))
   intro _ w14 H14
   clear H13
   refine zF (l := [3]) rfl ?_
   refine sF 0 [e0 ((tw (A k)).1), e1 ((tw (A k)).1), e0 ((tw (A k)).2.1), e1 ((tw (A k)).2.1), e0 ((tw (A k)).2.2), e1 ((tw (A k)).2.2)] [_, _, _, _, _] H14 o2_2 As129 fun w15 H15 => ?_
   clear H14
   refine zE (zA ?_)
   refine wp_seq (wp_seq ?_)
   refine zC 3 [.q (.int .u64 (wo k)), .q (.int .u64 ((dg k : Nat) : Int)), .q (.bool false)] H15 ?ho12 ?he12
   case ho12 => exact ar (ak (fun J => ⟨rfl, fun w' _ => by rw [← HD.out k]; exact ex_shr63 rfl rfl rfl⟩) (ak (by refine fun J => ⟨rfl, fun w' h => ?_⟩; clear h; go_simp <;> omega) trivial))
   intro _ w16 H16
   clear H15
   refine rN (wp_cond_false rfl ?_)
   refine wp_skip (zA ?_)
   refine zC 2 [.q (.int .u64 (wo k)), .q (.int .u64 (wo (k + 1)))] H16 ?ho13 ?he13
   case ho13 => exact ar (ak (fun J => ⟨rfl, fun w' _ => by rw [← HW.out k]; exact ex_shl1 rfl rfl rfl⟩) trivial)
   intro _ w17 H17
   clear H16
   refine zF (l := [2]) rfl ?_
   refine zG (d := 2) rfl rfl rfl rfl ?_
   simp only [Act.put, sa, sz, ss]
   refine zE (zI (zA ?_))
   refine zC 1 [.q (.int .i64 ((k + 1 : Nat) : Int))] H17 ?ho14 ?he14
   case ho14 => exact ak (by refine fun J => ⟨rfl, fun w' h => ?_⟩; clear h; go_simp; rw [IntKind.wrap_i64]; omega) trivial
   intro _ w18 H18
   clear H17
   refine zF (l := [1]) rfl ?_
   refine zG (d := 10) rfl rfl rfl rfl ?_
   simp only [Act.put, sa, sz, ss]
   refine zE (zA ?_)
   exact ⟨k + 1, ⟨(slotfn [ud, ud, ud, ud, ud, ud, ud, ud, ud, ud, ud, .bool true, .agg (G2 tn (e0 u) (e1 u) (e0 b) (e1 b)).toArray, V [e0 ((A k).1), e1 ((A k).1), e0 ((A k).2.1), e1 ((A k).2.1), e0 ((A k).2.2), e1 ((A k).2.2)], V [e0 ((tw (A k)).1), e1 ((tw (A k)).1), e0 ((tw (A k)).2.1), e1 ((tw (A k)).2.1), e0 ((tw (A k)).2.2), e1 ((tw (A k)).2.2)], .int .u64 (wo k), .int .u64 ((dg k : Nat) : Int), .bool false, s0 18, s0 19, s0 20, s0 21, .int .u64 (wo k), .int .u64 (wo (k + 1)), .int .i64 ((k + 1 : Nat) : Int)]), rfl, ⟨(H18.out.1).atk (by rw [HA0.out k hdz]), H18.out.2⟩, by omega⟩, by omega⟩
 have hk64 : k = 64 := by omega
 subst hk64
 refine wp_seq ?_
 refine zC 1 [.q (.bool false)] H4 ?ho15 ?he15
 case ho15 => exact ak (by refine fun J => ⟨rfl, fun w' h => ?_⟩; clear h; go_simp <;> omega) trivial
 intro _ w19 H19
 clear H4
 refine rN (wp_seq (wp_cond_false rfl ?_))
 refine wp_exit ?_
 repeat refine zY ?_
 refine zU ?_
 refine zA (wp_seq ?_)
 refine zC 1 [.q (V [e0 ((A 64).1), e1 ((A 64).1), e0 ((A 64).2.1), e1 ((A 64).2.1), e0 ((A 64).2.2), e1 ((A 64).2.2)])] H19 ?ho16 ?he16
 case ho16 => exact bA 0 6 0 Ai129 As129 trivial
 intro _ w20 H20
 clear H19
 refine zF (l := [1]) rfl ?_
 refine sF 3 [e0 ((A 64).1), e1 ((A 64).1), e0 ((A 64).2.1), e1 ((A 64).2.1), e0 ((A 64).2.2), e1 ((A 64).2.2)] [_, _, _, _, _] H20 o1_2 As129 fun w21 H21 => ?_
 clear H20
 refine zE (zA (wp_ret ?_))
 repeat (first | refine zK ?_ | refine zH ?_)
 have hf0 := cel_var (k := 6) H21.out.1 3 rfl Ai129 As129 rfl
 refine bodyPost_ret (v := V [e0 ((A 64).1), e1 ((A 64).1), e0 ((A 64).2.1), e1 ((A 64).2.1), e0 ((A 64).2.2), e1 ((A 64).2.2)]) (by simp [results, Tryz.results85, asAddr, hf0]) rfl ?_
 exact ⟨rfl, H21.out.2⟩
set_option maxHeartbeats 2000000 in
theorem turn_2 {α : Type} {e0 e1 : α → Nat} {fa fs fm : α → α → α} {fi : α → α} {z : α} (C : Fd2 e0 e1 fa fs fm fi z) (x y ox oy : α) (gx gy : Nat) (fc : α → α) (cc : ∀ x w, Calls Tryz.prog 83 #[V [e0 x, e1 x]] w (Rt w (V [e0 (fc x), e1 (fc x)]))) (w : World) (hm : Mm w [(2, dtab), (gx, cel [e0 ox, e1 ox]), (gy, cel [e0 oy, e1 oy])]) :
  Calls Tryz.prog 82 #[V [e0 x, e1 x], V [e0 y, e1 y], PT gx 0, PT gy 0] w (Rt w (.tuple #[V [e0 (fm (fc x) ox), e1 (fm (fc x) ox)], V [e0 (fm (fc y) oy), e1 (fm (fc y) oy)]])) := by
 have H0 : Hid (_ ∧ _) := ⟨hm, Below.refl w.heap.size w⟩
 clear hm
 have CC : Hid _ := cc
 clear cc
 go_enter Tryz.func82, Tryz.ntmps82
 refine wp_seq ?_
 refine zB 4 [.made (cel [e0 x, e1 x]) 33, .made (cel [e0 y, e1 y]) 33, .made (cel [0, 0]) 33, .made (cel [0, 0]) 33] (sB H0) ?ho1 ?he1
 case ho1 => exact am (ex_boxA rfl rfl) (am (ex_boxA rfl rfl) (am (yB rfl) (am (yB rfl) trivial)))
 intro J w1 l hM hl
 have H1 : Hid (Mm w1 ([(J 0, cel [e0 x, e1 x]), (J 1, cel [e0 y, e1 y]), (J 2, cel [0, 0]), (J 3, cel [0, 0])] ++ _) ∧ _) := wB H0 hM hl [0, 1, 2, 3]
 have o1_0 := vB H0 hM hl 0
 have o1_1 := vB H0 hM hl 1
 have o1_2 := vB H0 hM hl 2
 have o1_3 := vB H0 hM hl 3
 clear hM hl l
 generalize J 0 = J1_0 at H1 o1_0 ⊢
 generalize J 1 = J1_1 at H1 o1_1 ⊢
 generalize J 2 = J1_2 at H1 o1_2 ⊢
 generalize J 3 = J1_3 at H1 o1_3 ⊢
 clear J
 refine rN (wp_seq ?_)
 refine zN 8 [.q (V [e0 x, e1 x]), .call (V [e0 (fc x), e1 (fc x)]), .q (V [e0 ox, e1 ox]), .call (V [e0 (fm (fc x) ox), e1 (fm (fc x) ox)]), .q (V [e0 y, e1 y]), .call (V [e0 (fc y), e1 (fc y)]), .q (V [e0 oy, e1 oy]), .call (V [e0 (fm (fc y) oy), e1 (fm (fc y) oy)])] H1 ?ho2 ?he2
 case ho2 => exact bA 0 2 0 Ai33 As33 (ac (fun w' h => eC call83 (CC.out _ w')) (bA 0 2 5 Ai33 As33 (ac (fun w' h => eC call79 (C.cm _ _ w' (h.one 4 rfl))) (bA 0 2 1 Ai33 As33 (ac (fun w' h => eC call83 (CC.out _ w')) (bA 0 2 6 Ai33 As33 (ac (fun w' h => eC call79 (C.cm _ _ w' (h.one 4 rfl))) trivial)))))))
 intro _ w2 H2
 clear H1
 refine zF (l := [8, 9]) rfl ?_
 refine sF 2 [e0 (fm (fc x) ox), e1 (fm (fc x) ox)] [_, _, _, _, _, _, _] H2 o1_2 As33 fun w3 H3 => ?_
 clear H2
 refine sF 3 [e0 (fm (fc y) oy), e1 (fm (fc y) oy)] [_, _, _, _, _, _, _] H3 o1_3 As33 fun w4 H4 => ?_
 clear H3
 refine zE (zA (wp_ret ?_))
 repeat (first | refine zK ?_ | refine zH ?_)
 have hf0 := cel_var (k := 2) H4.out.1 2 rfl Ai33 As33 rfl
 have hf1 := cel_var (k := 2) H4.out.1 3 rfl Ai33 As33 rfl
 refine bodyPost_ret (v := .tuple #[V [e0 (fm (fc x) ox), e1 (fm (fc x) ox)], V [e0 (fm (fc y) oy), e1 (fm (fc y) oy)]]) (by simp [results, Tryz.results82, asAddr, hf0, hf1]) rfl ?_
 exact ⟨rfl, H4.out.2⟩
theorem inZ_2 {α : Type} {e0 e1 : α → Nat} {fa fs fm : α → α → α} {fi : α → α} {z u b : α} (_C : Fd2 e0 e1 fa fs fm fi z) (ox oy : α) (gx gy : Nat) (x0 x1 y0 y1 : Nat) (be : Bool) (ck : ∀ w, Mm w [(2, dtab)] → Calls Tryz.prog 57 #[.agg (G2 (.func (.func 82) #[] #[PT gx 0, PT gy 0]) (e0 u) (e1 u) (e0 b) (e1 b)).toArray, .agg (pc2 x0 x1 y0 y1 true).toArray] w (Rt w (.bool be))) (w : World) (hm : Mm w [(2, dtab), (gx, cel [e0 ox, e1 ox]), (gy, cel [e0 oy, e1 oy])]) :
  Calls Tryz.prog 44 #[.agg (G2 (.func (.func 82) #[] #[PT gx 0, PT gy 0]) (e0 u) (e1 u) (e0 b) (e1 b)).toArray, .agg (pc2 x0 x1 y0 y1 true).toArray] w (Rt w (.bool be)) := by
 have H0 : Hid (_ ∧ _) := ⟨hm, Below.refl w.heap.size w⟩
 clear hm
 have CK : Hid _ := ck
 clear ck
 go_enter Tryz.func44, Tryz.ntmps44
 refine wp_seq ?_
 refine zB 3 [.made (G2 (.func (.func 82) #[] #[PT gx 0, PT gy 0]) (e0 u) (e1 u) (e0 b) (e1 b)) 93, .made (pc2 x0 x1 y0 y1 true) 96, .q (.bool false)] (sB H0) ?ho1 ?he1
 case ho1 => exact am (zS rfl rfl) (am (zS rfl rfl) (ar trivial))
 intro J w1 l hM hl
 have H1 : Hid (Mm w1 ([(J 0, G2 (.func (.func 82) #[] #[PT gx 0, PT gy 0]) (e0 u) (e1 u) (e0 b) (e1 b)), (J 1, pc2 x0 x1 y0 y1 true)] ++ _) ∧ _) := wB H0 hM hl [0, 1]
 have o1_0 := vB H0 hM hl 0
 have o1_1 := vB H0 hM hl 1
 clear hM hl l
 generalize J 0 = J1_0 at H1 o1_0 ⊢
 generalize J 1 = J1_1 at H1 o1_1 ⊢
 clear J
 refine rN (wp_seq (wp_seq ?_))
 refine zC 8 [.q (PT J1_1 24), .q (.bool true), .q (.bool true), .gone, .gone, .gone, .gone, .q (.bool true)] H1 ?ho2 ?he2
 case ho2 => exact ag (bC 1 Ai4 (ar (ak (fun J => rfl) (ak (fun J => rfl) (ak (fun J => rfl) (ak (fun J => rfl) (ag trivial)))))))
 intro _ w2 H2
 clear H1
 refine rN (wp_cond_true rfl (wp_seq ?_))
 refine zC 4 [.q (.agg (G2 (.func (.func 82) #[] #[PT gx 0, PT gy 0]) (e0 u) (e1 u) (e0 b) (e1 b)).toArray), .q (.agg (pc2 x0 x1 y0 y1 true).toArray), .call (.bool be), .q (.bool be)] H2 ?ho3 ?he3
 case ho3 => exact bT 0 Ai93 As93 (bT 1 Ai96 As96 (ac (fun w' h => eC call57 (CK.out w' (h.one 2 rfl))) (ar trivial)))
 intro _ w3 H3
 clear H2
 refine rN (wp_ret ?_)
 repeat (first | refine zK ?_ | refine zH ?_)
 refine bodyPost_ret (v := .bool be) (by simp [results, Tryz.results44, go_sem, *]) rfl ?_
 exact ⟨rfl, H3.out.2⟩
theorem inN_2 {α : Type} {e0 e1 : α → Nat} {fa fs fm : α → α → α} {fi : α → α} {z u b : α} (_C : Fd2 e0 e1 fa fs fm fi z) (ox oy : α) (gx gy : Nat) (x0 x1 y0 y1 : Nat) (ck : ∀ w, Mm w [(2, dtab)] → Calls Tryz.prog 57 #[.agg (G2 (.func (.func 82) #[] #[PT gx 0, PT gy 0]) (e0 u) (e1 u) (e0 b) (e1 b)).toArray, .agg (pc2 x0 x1 y0 y1 false).toArray] w (Rt w (.bool false))) (w : World) (hm : Mm w [(2, dtab), (gx, cel [e0 ox, e1 ox]), (gy, cel [e0 oy, e1 oy])]) :
  Calls Tryz.prog 44 #[.agg (G2 (.func (.func 82) #[] #[PT gx 0, PT gy 0]) (e0 u) (e1 u) (e0 b) (e1 b)).toArray, .agg (pc2 x0 x1 y0 y1 false).toArray] w (Rt w (.bool false)) := by
 have H0 : Hid (_ ∧ _) := ⟨hm, Below.refl w.heap.size w⟩
 clear hm
 have CK : Hid _ := ck
 clear ck
 go_enter Tryz.func44, Tryz.ntmps44
 refine wp_seq ?_
 refine zB 3 [.made (G2 (.func (.func 82) #[] #[PT gx 0, PT gy 0]) (e0 u) (e1 u) (e0 b) (e1 b)) 93, .made (pc2 x0 x1 y0 y1 false) 96, .q (.bool false)] (sB H0) ?ho1 ?he1
 case ho1 => exact am (zS rfl rfl) (am (zS rfl rfl) (ar trivial))
 intro J w1 l hM hl
 have H1 : Hid (Mm w1 ([(J 0, G2 (.func (.func 82) #[] #[PT gx 0, PT gy 0]) (e0 u) (e1 u) (e0 b) (e1 b)), (J 1, pc2 x0 x1 y0 y1 false)] ++ _) ∧ _) := wB H0 hM hl [0, 1]
 have o1_0 := vB H0 hM hl 0
 have o1_1 := vB H0 hM hl 1
 clear hM hl l
 generalize J 0 = J1_0 at H1 o1_0 ⊢
 generalize J 1 = J1_1 at H1 o1_1 ⊢
 clear J
 refine rN (wp_seq (wp_seq ?_))
 refine zC 8 [.q (PT J1_1 24), .q (.bool false), .q (.bool false), .q (.agg (G2 (.func (.func 82) #[] #[PT gx 0, PT gy 0]) (e0 u) (e1 u) (e0 b) (e1 b)).toArray), .q (.agg (pc2 x0 x1 y0 y1 false).toArray), .call (.bool false), .q (.bool true), .q (.bool true)] H1 ?ho2 ?he2
 case ho2 => exact ag (bC 1 Ai4 (ar (bT 0 Ai93 As93 (bT 1 Ai96 As96 (ac (fun w' h => eC call57 (CK.out w' (h.one 2 rfl))) (ag (ag trivial)))))))
 intro _ w2 H2
 clear H1
 refine rN (wp_cond_true rfl (wp_seq ?_))
 refine zC 4 [.q (.agg (G2 (.func (.func 82) #[] #[PT gx 0, PT gy 0]) (e0 u) (e1 u) (e0 b) (e1 b)).toArray), .q (.agg (pc2 x0 x1 y0 y1 false).toArray), .call (.bool false), .q (.bool false)] H2 ?ho3 ?he3
 case ho3 => exact bT 0 Ai93 As93 (bT 1 Ai96 As96 (ac (fun w' h => eC call57 (CK.out w' (h.one 2 rfl))) (ar trivial)))
 intro _ w3 H3
 clear H2
 refine rN (wp_ret ?_)
 repeat (first | refine zK ?_ | refine zH ?_)
 refine bodyPost_ret (v := .bool false) (by simp [results, Tryz.results44, go_sem, *]) rfl ?_
 exact ⟨rfl, H3.out.2⟩
set_option maxHeartbeats 4000000 in
theorem inF_2 {α : Type} {e0 e1 : α → Nat} {fa fs fm : α → α → α} {fi : α → α} {z u b : α} (C : Fd2 e0 e1 fa fs fm fi z) (ox oy : α) (gx gy : Nat) (S0 S1 : EC.Tri α) (x y tx ty : α) (ck : ∀ w, Mm w [(2, dtab)] → Calls Tryz.prog 57 #[.agg (G2 (.func (.func 82) #[] #[PT gx 0, PT gy 0]) (e0 u) (e1 u) (e0 b) (e1 b)).toArray, .agg (pc2 (e0 x) (e1 x) (e0 y) (e1 y) false).toArray] w (Rt w (.bool true))) (cl : ∀ w, Mm w [(2, dtab)] → Calls Tryz.prog 84 #[.agg (G2 (.func (.func 82) #[] #[PT gx 0, PT gy 0]) (e0 u) (e1 u) (e0 b) (e1 b)).toArray, .agg (pc2 (e0 x) (e1 x) (e0 y) (e1 y) false).toArray] w (Rt w (V [e0 S0.1, e1 S0.1, e0 S0.2.1, e1 S0.2.1, e0 S0.2.2, e1 S0.2.2]))) (cw0 : ∀ w, Mm w [(2, dtab)] → Calls Tryz.prog 85 #[.agg (G2 (.func (.func 82) #[] #[PT gx 0, PT gy 0]) (e0 u) (e1 u) (e0 b) (e1 b)).toArray, V [e0 S0.1, e1 S0.1, e0 S0.2.1, e1 S0.2.1, e0 S0.2.2, e1 S0.2.2], .int .u64 15132376222941642752] w (Rt w (V [e0 S1.1, e1 S1.1, e0 S1.2.1, e1 S1.2.1, e0 S1.2.2, e1 S1.2.2]))) (ct : ∀ w, Mm w [(2, dtab), (gx, cel [e0 ox, e1 ox]), (gy, cel [e0 oy, e1 oy])] → Calls Tryz.prog 82 #[V [e0 x, e1 x], V [e0 y, e1 y], PT gx 0, PT gy 0] w (Rt w (.tuple #[V [e0 tx, e1 tx], V [e0 ty, e1 ty]]))) (ea : ∀ w, (Op.equalIn 10000 33 (V [e0 S1.1, e1 S1.1]) (V [e0 (fm tx S1.2.2), e1 (fm tx S1.2.2)])).run Tryz.prog w = .ok false w) (w : World) (hm : Mm w [(2, dtab), (gx, cel [e0 ox, e1 ox]), (gy, cel [e0 oy, e1 oy])]) :
  Calls Tryz.prog 44 #[.agg (G2 (.func (.func 82) #[] #[PT gx 0, PT gy 0]) (e0 u) (e1 u) (e0 b) (e1 b)).toArray, .agg (pc2 (e0 x) (e1 x) (e0 y) (e1 y) false).toArray] w (Rt w (.bool false)) := by
 have H0 : Hid (_ ∧ _) := ⟨hm, Below.refl w.heap.size w⟩
 clear hm
 have CK : Hid _ := ck
 clear ck
 have CL : Hid _ := cl
 clear cl
 have CW0 : Hid _ := cw0
 clear cw0
 have CT : Hid _ := ct
 clear ct
 have EA : Hid _ := ea
 clear ea
 go_enter Tryz.func44, Tryz.ntmps44
 refine wp_seq ?_
 refine zB 3 [.made (G2 (.func (.func 82) #[] #[PT gx 0, PT gy 0]) (e0 u) (e1 u) (e0 b) (e1 b)) 93, .made (pc2 (e0 x) (e1 x) (e0 y) (e1 y) false) 96, .q (.bool false)] (sB H0) ?ho1 ?he1
 case ho1 => exact am (zS rfl rfl) (am (zS rfl rfl) (ar trivial))
 intro J w1 l hM hl
 have H1 : Hid (Mm w1 ([(J 0, G2 (.func (.func 82) #[] #[PT gx 0, PT gy 0]) (e0 u) (e1 u) (e0 b) (e1 b)), (J 1, pc2 (e0 x) (e1 x) (e0 y) (e1 y) false)] ++ _) ∧ _) := wB H0 hM hl [0, 1]
 have o1_0 := vB H0 hM hl 0
 have o1_1 := vB H0 hM hl 1
 clear hM hl l
 generalize J 0 = J1_0 at H1 o1_0 ⊢
 generalize J 1 = J1_1 at H1 o1_1 ⊢
 clear J
 refine rN (wp_seq (wp_seq ?_))
 refine zC 8 [.q (PT J1_1 24), .q (.bool false), .q (.bool false), .q (.agg (G2 (.func (.func 82) #[] #[PT gx 0, PT gy 0]) (e0 u) (e1 u) (e0 b) (e1 b)).toArray), .q (.agg (pc2 (e0 x) (e1 x) (e0 y) (e1 y) false).toArray), .call (.bool true), .q (.bool false), .q (.bool false)] H1 ?ho2 ?he2
 case ho2 => exact ag (bC 1 Ai4 (ar (bT 0 Ai93 As93 (bT 1 Ai96 As96 (ac (fun w' h => eC call57 (CK.out w' (h.one 2 rfl))) (ag (ag trivial)))))))
 intro _ w2 H2
 clear H1
 refine rN (wp_cond_false rfl ?_)
 refine wp_skip (zA (wp_seq ?_))
 refine zB 5 [.q (.agg (G2 (.func (.func 82) #[] #[PT gx 0, PT gy 0]) (e0 u) (e1 u) (e0 b) (e1 b)).toArray), .q (.agg (pc2 (e0 x) (e1 x) (e0 y) (e1 y) false).toArray), .call (V [e0 S0.1, e1 S0.1, e0 S0.2.1, e1 S0.2.1, e0 S0.2.2, e1 S0.2.2]), .made (cel [0, 0, 0, 0, 0, 0]) 129, .laid 3 (cel [0, 0, 0, 0, 0, 0]) (cel [e0 S0.1, e1 S0.1, e0 S0.2.1, e1 S0.2.1, e0 S0.2.2, e1 S0.2.2])] (sB H2) ?ho3 ?he3 (hL := ?hL3)
 case hL3 => exact ⟨⟨_, rfl⟩, trivial⟩
 case ho3 => exact bT 0 Ai93 As93 (bT 1 Ai96 As96 (ac (fun w' h => eC call84 (CL.out w' (h.one 2 rfl))) (am (ex_madeTE rfl) (ak (fun J => ⟨rfl, rfl, rfl, fun w' h => ex_laidA h rfl As129 rfl rfl rfl⟩) trivial))))
 intro J w3 l hM hl
 have H3 : Hid (Mm w3 ([(J 3, cel [e0 S0.1, e1 S0.1, e0 S0.2.1, e1 S0.2.1, e0 S0.2.2, e1 S0.2.2])] ++ _) ∧ _) := wB H2 hM hl [3]
 have o3_3 := vB H2 hM hl 3
 clear hM hl l H2
 generalize J 3 = J3_3 at H3 o3_3 ⊢
 clear J
 refine rN (wp_seq (wp_seq ?_))
 refine zC 3 [.q (PT J1_0 30), .q (.int .i64 1), .q (.int .i64 0)] H3 ?ho4 ?he4
 case ho4 => exact ag (bC 1 Ai3 (ar trivial))
 intro _ w4 H4
 clear H3
 refine rN (wp_block ?_)
 refine wp_loop_rounds 2 ?_
 refine zM (n := 1) ?_
 refine wp_seq ?_
 refine zC 1 [.q (.bool true)] H4 ?ho5 ?he5
 case ho5 => exact ag trivial
 intro _ w5 H5
 clear H4
 refine rN (wp_seq ?_)
 refine wp_cond_true rfl (wp_skip ?_)
 refine zA (wp_seq (wp_block ?_))
 refine zC 3 [.q (.agg (G2 (.func (.func 82) #[] #[PT gx 0, PT gy 0]) (e0 u) (e1 u) (e0 b) (e1 b)).toArray), .q (V [e0 S0.1, e1 S0.1, e0 S0.2.1, e1 S0.2.1, e0 S0.2.2, e1 S0.2.2]), .call (V [e0 S1.1, e1 S1.1, e0 S1.2.1, e1 S1.2.1, e0 S1.2.2, e1 S1.2.2])] H5 ?ho6 ?he6
 case ho6 => exact bT 1 Ai93 As93 (bA 0 6 0 Ai129 As129 (ac (fun w' h => eC call85 (CW0.out w' (h.one 3 rfl))) trivial))
 intro _ w6 H6
 clear H5
 refine zF (l := [3]) rfl ?_
 refine sF 0 [e0 S1.1, e1 S1.1, e0 S1.2.1, e1 S1.2.1, e0 S1.2.2, e1 S1.2.2] [_, _, _, _, _, _] H6 o3_3 As129 fun w7 H7 => ?_
 clear H6
 refine zE (zI (zA ?_))
 refine zC 1 [.q (.int .i64 1)] H7 ?ho7 ?he7
 case ho7 => exact av trivial
 intro _ w8 H8
 clear H7
 refine zF (l := [1]) rfl ?_
 refine zG (d := 24) rfl rfl rfl rfl ?_
 simp only [Act.put, sa, sz, ss]
 refine zE (zA ?_)
 refine zM (n := 0) ?_
 refine wp_seq ?_
 refine zC 1 [.q (.bool false)] H8 ?ho8 ?he8
 case ho8 => exact ag trivial
 intro _ w9 H9
 clear H8
 refine rN (wp_seq (wp_cond_false rfl ?_))
 refine wp_exit ?_
 repeat refine zY ?_
 refine zU ?_
 refine zA (wp_seq ?_)
 refine zB 14 [.q (PT J1_0 29), .q (.func (.func 82) #[] #[PT gx 0, PT gy 0]), .q (PT J1_1 0), .q (V [e0 x, e1 x]), .q (PT J1_1 12), .q (V [e0 y, e1 y]), .call (.tuple #[V [e0 tx, e1 tx], V [e0 ty, e1 ty]]), .q (.tuple #[V [e0 tx, e1 tx], V [e0 ty, e1 ty]]), .q (V [e0 tx, e1 tx]), .q (V [e0 ty, e1 ty]), .made (cel [0, 0]) 33, .made (cel [0, 0]) 33, .laid 10 (cel [0, 0]) (cel [e0 tx, e1 tx]), .laid 11 (cel [0, 0]) (cel [e0 ty, e1 ty])] (sB H9) ?ho9 ?he9 (hL := ?hL9)
 case hL9 => exact ⟨⟨_, rfl⟩, ⟨_, rfl⟩, trivial⟩
 case ho9 => exact ag (bC 1 Tryz.isAgg91 (ag (bT 2 Ai33 As33 (ag (bT 2 Ai33 As33 (ac (fun w' h => ⟨82, #[V [e0 x, e1 x], V [e0 y, e1 y], PT gx 0, PT gy 0], zJ rfl call82 rfl (mpn rfl) rfl, CT.out w' (h.pick [3, 4, 5] rfl (by decide))⟩) (ar (ag (ag (am (yB rfl) (am (yB rfl) (ak (fun J => ⟨rfl, rfl, rfl, fun w' h => ex_laidA h rfl As33 rfl rfl rfl⟩) (ak (fun J => ⟨rfl, rfl, rfl, fun w' h => ex_laidA h rfl As33 rfl rfl rfl⟩) trivial)))))))))))))
 intro J w10 l hM hl
 have H10 : Hid (Mm w10 ([(J 10, cel [e0 tx, e1 tx]), (J 11, cel [e0 ty, e1 ty])] ++ _) ∧ _) := wB H9 hM hl [10, 11]
 have o9_10 := vB H9 hM hl 10
 have o9_11 := vB H9 hM hl 11
 clear hM hl l H9
 generalize J 10 = J9_10 at H10 o9_10 ⊢
 generalize J 11 = J9_11 at H10 o9_11 ⊢
 clear J
 refine rN (wp_seq ?_)
 refine zN 25 [.q (PT J3_3 0), .q (V [e0 S1.1, e1 S1.1]), .q (PT J1_0 0), .q (PT J1_0 2), .q (.func (.func 79) #[] #[]), .q (V [e0 tx, e1 tx]), .q (PT J3_3 24), .q (V [e0 S1.2.2, e1 S1.2.2]), .call (V [e0 (fm tx S1.2.2), e1 (fm tx S1.2.2)]), .q (.bool false), .q (.bool false), .gone, .gone, .gone, .gone, .gone, .gone, .gone, .gone, .gone, .gone, .gone, .gone, .q (.bool false), .q (.bool false)] H10 ?ho10 ?he10 (hL := ?hL10)
 case hL10 => exact trivial
 case ho10 => exact ag (bA 0 2 2 Ai33 As33 (ag (ag (bC 3 Ai86 (bA 0 2 0 Ai33 As33 (ag (bA 4 2 2 Ai33 As33 (ac (fun w' h => ⟨79, #[V [e0 tx, e1 tx], V [e0 S1.2.2, e1 S1.2.2]], zJ rfl call79 rfl (mpn rfl) rfl, C.cm _ _ w' (h.one 5 rfl)⟩) (ak (fun J => ⟨rfl, fun w' _ => exec_eqT33 EA.out rfl rfl rfl⟩) (ar (ak (fun J => rfl) (ak (fun J => rfl) (ak (fun J => rfl) (ak (fun J => rfl) (ak (fun J => rfl) (ak (fun J => rfl) (ak (fun J => rfl) (ak (fun J => rfl) (ak (fun J => rfl) (ak (fun J => rfl) (ak (fun J => rfl) (ak (fun J => rfl) (ag (ar trivial))))))))))))))))))))))))
 intro _ w11 H11
 clear H10
 refine rN (wp_ret ?_)
 repeat (first | refine zK ?_ | refine zH ?_)
 refine bodyPost_ret (v := .bool false) (by simp [results, Tryz.results44, go_sem, *]) rfl ?_
 exact ⟨rfl, H11.out.2⟩
set_option maxHeartbeats 4000000 in
theorem inT_2 {α : Type} {e0 e1 : α → Nat} {fa fs fm : α → α → α} {fi : α → α} {z u b : α} (C : Fd2 e0 e1 fa fs fm fi z) (ox oy : α) (gx gy : Nat) (S0 S1 : EC.Tri α) (x y tx ty : α) (bb : Bool) (ck : ∀ w, Mm w [(2, dtab)] → Calls Tryz.prog 57 #[.agg (G2 (.func (.func 82) #[] #[PT gx 0, PT gy 0]) (e0 u) (e1 u) (e0 b) (e1 b)).toArray, .agg (pc2 (e0 x) (e1 x) (e0 y) (e1 y) false).toArray] w (Rt w (.bool true))) (cl : ∀ w, Mm w [(2, dtab)] → Calls Tryz.prog 84 #[.agg (G2 (.func (.func 82) #[] #[PT gx 0, PT gy 0]) (e0 u) (e1 u) (e0 b) (e1 b)).toArray, .agg (pc2 (e0 x) (e1 x) (e0 y) (e1 y) false).toArray] w (Rt w (V [e0 S0.1, e1 S0.1, e0 S0.2.1, e1 S0.2.1, e0 S0.2.2, e1 S0.2.2]))) (cw0 : ∀ w, Mm w [(2, dtab)] → Calls Tryz.prog 85 #[.agg (G2 (.func (.func 82) #[] #[PT gx 0, PT gy 0]) (e0 u) (e1 u) (e0 b) (e1 b)).toArray, V [e0 S0.1, e1 S0.1, e0 S0.2.1, e1 S0.2.1, e0 S0.2.2, e1 S0.2.2], .int .u64 15132376222941642752] w (Rt w (V [e0 S1.1, e1 S1.1, e0 S1.2.1, e1 S1.2.1, e0 S1.2.2, e1 S1.2.2]))) (ct : ∀ w, Mm w [(2, dtab), (gx, cel [e0 ox, e1 ox]), (gy, cel [e0 oy, e1 oy])] → Calls Tryz.prog 82 #[V [e0 x, e1 x], V [e0 y, e1 y], PT gx 0, PT gy 0] w (Rt w (.tuple #[V [e0 tx, e1 tx], V [e0 ty, e1 ty]]))) (ea : ∀ w, (Op.equalIn 10000 33 (V [e0 S1.1, e1 S1.1]) (V [e0 (fm tx S1.2.2), e1 (fm tx S1.2.2)])).run Tryz.prog w = .ok true w) (eb : ∀ w, (Op.equalIn 10000 33 (V [e0 S1.2.1, e1 S1.2.1]) (V [e0 (fm (fs z ty) S1.2.2), e1 (fm (fs z ty) S1.2.2)])).run Tryz.prog w = .ok bb w) (w : World) (hm : Mm w [(2, dtab), (gx, cel [e0 ox, e1 ox]), (gy, cel [e0 oy, e1 oy])]) :
  Calls Tryz.prog 44 #[.agg (G2 (.func (.func 82) #[] #[PT gx 0, PT gy 0]) (e0 u) (e1 u) (e0 b) (e1 b)).toArray, .agg (pc2 (e0 x) (e1 x) (e0 y) (e1 y) false).toArray] w (Rt w (.bool bb)) := by
 have H0 : Hid (_ ∧ _) := ⟨hm, Below.refl w.heap.size w⟩
 clear hm
 have CK : Hid _ := ck
 clear ck
 have CL : Hid _ := cl
 clear cl
 have CW0 : Hid _ := cw0
 clear cw0
 have CT : Hid _ := ct
 clear ct
 have EA : Hid _ := ea
 clear ea
 have EB : Hid _ := eb
 clear eb
 go_enter Tryz.func44, Tryz.ntmps44
 refine wp_seq ?_
 refine zB 3 [.made (G2 (.func (.func 82) #[] #[PT gx 0, PT gy 0]) (e0 u) (e1 u) (e0 b) (e1 b)) 93, .made (pc2 (e0 x) (e1 x) (e0 y) (e1 y) false) 96, .q (.bool false)] (sB H0) ?ho1 ?he1
 case ho1 => exact am (zS rfl rfl) (am (zS rfl rfl) (ar trivial))
 intro J w1 l hM hl
 have H1 : Hid (Mm w1 ([(J 0, G2 (.func (.func 82) #[] #[PT gx 0, PT gy 0]) (e0 u) (e1 u) (e0 b) (e1 b)), (J 1, pc2 (e0 x) (e1 x) (e0 y) (e1 y) false)] ++ _) ∧ _) := wB H0 hM hl [0, 1]
 have o1_0 := vB H0 hM hl 0
 have o1_1 := vB H0 hM hl 1
 clear hM hl l
 generalize J 0 = J1_0 at H1 o1_0 ⊢
 generalize J 1 = J1_1 at H1 o1_1 ⊢
 clear J
 refine rN (wp_seq (wp_seq ?_))
 refine zC 8 [.q (PT J1_1 24), .q (.bool false), .q (.bool false), .q (.agg (G2 (.func (.func 82) #[] #[PT gx 0, PT gy 0]) (e0 u) (e1 u) (e0 b) (e1 b)).toArray), .q (.agg (pc2 (e0 x) (e1 x) (e0 y) (e1 y) false).toArray), .call (.bool true), .q (.bool false), .q (.bool false)] H1 ?ho2 ?he2
 case ho2 => exact ag (bC 1 Ai4 (ar (bT 0 Ai93 As93 (bT 1 Ai96 As96 (ac (fun w' h => eC call57 (CK.out w' (h.one 2 rfl))) (ag (ag trivial)))))))
 intro _ w2 H2
 clear H1
 refine rN (wp_cond_false rfl ?_)
 refine wp_skip (zA (wp_seq ?_))
 refine zB 5 [.q (.agg (G2 (.func (.func 82) #[] #[PT gx 0, PT gy 0]) (e0 u) (e1 u) (e0 b) (e1 b)).toArray), .q (.agg (pc2 (e0 x) (e1 x) (e0 y) (e1 y) false).toArray), .call (V [e0 S0.1, e1 S0.1, e0 S0.2.1, e1 S0.2.1, e0 S0.2.2, e1 S0.2.2]), .made (cel [0, 0, 0, 0, 0, 0]) 129, .laid 3 (cel [0, 0, 0, 0, 0, 0]) (cel [e0 S0.1, e1 S0.1, e0 S0.2.1, e1 S0.2.1, e0 S0.2.2, e1 S0.2.2])] (sB H2) ?ho3 ?he3 (hL := ?hL3)
 case hL3 => exact ⟨⟨_, rfl⟩, trivial⟩
 case ho3 => exact bT 0 Ai93 As93 (bT 1 Ai96 As96 (ac (fun w' h => eC call84 (CL.out w' (h.one 2 rfl))) (am (ex_madeTE rfl) (ak (fun J => ⟨rfl, rfl, rfl, fun w' h => ex_laidA h rfl As129 rfl rfl rfl⟩) trivial))))
 intro J w3 l hM hl
 have H3 : Hid (Mm w3 ([(J 3, cel [e0 S0.1, e1 S0.1, e0 S0.2.1, e1 S0.2.1, e0 S0.2.2, e1 S0.2.2])] ++ _) ∧ _) := wB H2 hM hl [3]
 have o3_3 := vB H2 hM hl 3
 clear hM hl l H2
 generalize J 3 = J3_3 at H3 o3_3 ⊢
 clear J
 refine rN (wp_seq (wp_seq ?_))
 refine zC 3 [.q (PT J1_0 30), .q (.int .i64 1), .q (.int .i64 0)] H3 ?ho4 ?he4
 case ho4 => exact ag (bC 1 Ai3 (ar trivial))
 intro _ w4 H4
 clear H3
 refine rN (wp_block ?_)
 refine wp_loop_rounds 2 ?_
 refine zM (n := 1) ?_
 refine wp_seq ?_
 refine zC 1 [.q (.bool true)] H4 ?ho5 ?he5
 case ho5 => exact ag trivial
 intro _ w5 H5
 clear H4
 refine rN (wp_seq ?_)
 refine wp_cond_true rfl (wp_skip ?_)
 refine zA (wp_seq (wp_block ?_))
 refine zC 3 [.q (.agg (G2 (.func (.func 82) #[] #[PT gx 0, PT gy 0]) (e0 u) (e1 u) (e0 b) (e1 b)).toArray), .q (V [e0 S0.1, e1 S0.1, e0 S0.2.1, e1 S0.2.1, e0 S0.2.2, e1 S0.2.2]), .call (V [e0 S1.1, e1 S1.1, e0 S1.2.1, e1 S1.2.1, e0 S1.2.2, e1 S1.2.2])] H5 ?ho6 ?he6
 case ho6 => exact bT 1 Ai93 As93 (bA 0 6 0 Ai129 As129 (ac (fun w' h => eC call85 (CW0.out w' (h.one 3 rfl))) trivial))
 intro _ w6 H6
 clear H5
 refine zF (l := [3]) rfl ?_
 refine sF 0 [e0 S1.1, e1 S1.1, e0 S1.2.1, e1 S1.2.1, e0 S1.2.2, e1 S1.2.2] [_, _, _, _, _, _] H6 o3_3 As129 fun w7 H7 => ?_
 clear H6
 refine zE (zI (zA ?_))
 refine zC 1 [.q (.int .i64 1)] H7 ?ho7 ?he7
 case ho7 => exact av trivial
 intro _ w8 H8
 clear H7
 refine zF (l := [1]) rfl ?_
 refine zG (d := 24) rfl rfl rfl rfl ?_
 simp only [Act.put, sa, sz, ss]
 refine zE (zA ?_)
 refine zM (n := 0) ?_
 refine wp_seq ?_
 refine zC 1 [.q (.bool false)] H8 ?ho8 ?he8
 case ho8 => exact ag trivial
 intro _ w9 H9
 clear H8
 refine rN (wp_seq (wp_cond_false rfl ?_))
 refine wp_exit ?_
 repeat refine zY ?_
 refine zU ?_
 refine zA (wp_seq ?_)
 refine zB 14 [.q (PT J1_0 29), .q (.func (.func 82) #[] #[PT gx 0, PT gy 0]), .q (PT J1_1 0), .q (V [e0 x, e1 x]), .q (PT J1_1 12), .q (V [e0 y, e1 y]), .call (.tuple #[V [e0 tx, e1 tx], V [e0 ty, e1 ty]]), .q (.tuple #[V [e0 tx, e1 tx], V [e0 ty, e1 ty]]), .q (V [e0 tx, e1 tx]), .q (V [e0 ty, e1 ty]), .made (cel [0, 0]) 33, .made (cel [0, 0]) 33, .laid 10 (cel [0, 0]) (cel [e0 tx, e1 tx]), .laid 11 (cel [0, 0]) (cel [e0 ty, e1 ty])] (sB H9) ?ho9 ?he9 (hL := ?hL9)
 case hL9 => exact ⟨⟨_, rfl⟩, ⟨_, rfl⟩, trivial⟩
 case ho9 => exact ag (bC 1 Tryz.isAgg91 (ag (bT 2 Ai33 As33 (ag (bT 2 Ai33 As33 (ac (fun w' h => ⟨82, #[V [e0 x, e1 x], V [e0 y, e1 y], PT gx 0, PT gy 0], zJ rfl call82 rfl (mpn rfl) rfl, CT.out w' (h.pick [3, 4, 5] rfl (by decide))⟩) (ar (ag (ag (am (yB rfl) (am (yB rfl) (ak (fun J => ⟨rfl, rfl, rfl, fun w' h => ex_laidA h rfl As33 rfl rfl rfl⟩) (ak (fun J => ⟨rfl, rfl, rfl, fun w' h => ex_laidA h rfl As33 rfl rfl rfl⟩) trivial)))))))))))))
 intro J w10 l hM hl
 have H10 : Hid (Mm w10 ([(J 10, cel [e0 tx, e1 tx]), (J 11, cel [e0 ty, e1 ty])] ++ _) ∧ _) := wB H9 hM hl [10, 11]
 have o9_10 := vB H9 hM hl 10
 have o9_11 := vB H9 hM hl 11
 clear hM hl l H9
 generalize J 10 = J9_10 at H10 o9_10 ⊢
 generalize J 11 = J9_11 at H10 o9_11 ⊢
 clear J
 refine rN (wp_seq ?_)
 refine zN 25 [.q (PT J3_3 0), .q (V [e0 S1.1, e1 S1.1]), .q (PT J1_0 0), .q (PT J1_0 2), .q (.func (.func 79) #[] #[]), .q (V [e0 tx, e1 tx]), .q (PT J3_3 24), .q (V [e0 S1.2.2, e1 S1.2.2]), .call (V [e0 (fm tx S1.2.2), e1 (fm tx S1.2.2)]), .q (.bool true), .q (.bool true), .q (PT J3_3 12), .q (V [e0 S1.2.1, e1 S1.2.1]), .q (PT J1_0 0), .q (PT J1_0 2), .q (.func (.func 79) #[] #[]), .q (.agg (G2 (.func (.func 82) #[] #[PT gx 0, PT gy 0]) (e0 u) (e1 u) (e0 b) (e1 b)).toArray), .q (V [e0 ty, e1 ty]), .call (V [e0 (fs z ty), e1 (fs z ty)]), .q (PT J3_3 24), .q (V [e0 S1.2.2, e1 S1.2.2]), .call (V [e0 (fm (fs z ty) S1.2.2), e1 (fm (fs z ty) S1.2.2)]), .q (.bool bb), .q (.bool bb), .q (.bool bb)] H10 ?ho10 ?he10 (hL := ?hL10)
 case hL10 => exact trivial
 case ho10 => exact ag (bA 0 2 2 Ai33 As33 (ag (ag (bC 3 Ai86 (bA 0 2 0 Ai33 As33 (ag (bA 4 2 2 Ai33 As33 (ac (fun w' h => ⟨79, #[V [e0 tx, e1 tx], V [e0 S1.2.2, e1 S1.2.2]], zJ rfl call79 rfl (mpn rfl) rfl, C.cm _ _ w' (h.one 5 rfl)⟩) (ak (fun J => ⟨rfl, fun w' _ => exec_eqT33 EA.out rfl rfl rfl⟩) (ar (ag (bA 2 2 2 Ai33 As33 (ag (ag (bC 3 Ai86 (bT 3 Ai93 As93 (bA 0 2 1 Ai33 As33 (ac (fun w' h => eC call86 (minus_2 C _ w' (h.one 5 rfl))) (ag (bA 4 2 2 Ai33 As33 (ac (fun w' h => ⟨79, #[V [e0 (fs z ty), e1 (fs z ty)], V [e0 S1.2.2, e1 S1.2.2]], zJ rfl call79 rfl (mpn rfl) rfl, C.cm _ _ w' (h.one 5 rfl)⟩) (ak (fun J => ⟨rfl, fun w' _ => exec_eqT33 EB.out rfl rfl rfl⟩) (ag (ar trivial))))))))))))))))))))))))
 intro _ w11 H11
 clear H10
 refine rN (wp_ret ?_)
 repeat (first | refine zK ?_ | refine zH ?_)
 refine bodyPost_ret (v := .bool bb) (by simp [results, Tryz.results44, go_sem, *]) rfl ?_
 exact ⟨rfl, H11.out.2⟩
theorem inZ_1 {α : Type} {en : α → Nat} {fa fs fm : α → α → α} {fi : α → α} {z u b : α} {g : Nat} (_C : Fd1 g en fa fs fm fi z) (t3 : α) (gx gy : Nat) (x y : Nat) (be : Bool) (ck : ∀ w, Mm w [(g, zV pB), (2, dtab)] → Calls Tryz.prog 45 #[.agg (G1 g (.func (.func 73) #[] #[PT gx 0, PT gy 0]) (en u) (en b)).toArray, .agg (yC x y true).toArray] w (Rt w (.bool be))) (w : World) (hm : Mm w [(g, zV pB), (2, dtab), (gx, [PT g 0]), (gy, zD (en t3))]) :
  Calls Tryz.prog 42 #[.agg (G1 g (.func (.func 73) #[] #[PT gx 0, PT gy 0]) (en u) (en b)).toArray, .agg (yC x y true).toArray] w (Rt w (.bool be)) := by
 have H0 : Hid (_ ∧ _) := ⟨hm, Below.refl w.heap.size w⟩
 clear hm
 have CK : Hid _ := ck
 clear ck
 go_enter Tryz.func42, Tryz.ntmps42
 refine wp_seq ?_
 refine zB 3 [.made (G1 g (.func (.func 73) #[] #[PT gx 0, PT gy 0]) (en u) (en b)) 82, .made (yC x y true) 85, .q (.bool false)] (sB H0) ?ho1 ?he1
 case ho1 => exact am (zS rfl rfl) (am (zS rfl rfl) (ar trivial))
 intro J w1 l hM hl
 have H1 : Hid (Mm w1 ([(J 0, G1 g (.func (.func 73) #[] #[PT gx 0, PT gy 0]) (en u) (en b)), (J 1, yC x y true)] ++ _) ∧ _) := wB H0 hM hl [0, 1]
 have o1_0 := vB H0 hM hl 0
 have o1_1 := vB H0 hM hl 1
 clear hM hl l
 generalize J 0 = J1_0 at H1 o1_0 ⊢
 generalize J 1 = J1_1 at H1 o1_1 ⊢
 clear J
 refine rN (wp_seq (wp_seq ?_))
 refine zC 8 [.q (PT J1_1 12), .q (.bool true), .q (.bool true), .gone, .gone, .gone, .gone, .q (.bool true)] H1 ?ho2 ?he2
 case ho2 => exact ag (bC 1 Ai4 (ar (ak (fun J => rfl) (ak (fun J => rfl) (ak (fun J => rfl) (ak (fun J => rfl) (ag trivial)))))))
 intro _ w2 H2
 clear H1
 refine rN (wp_cond_true rfl (wp_seq ?_))
 refine zC 4 [.q (.agg (G1 g (.func (.func 73) #[] #[PT gx 0, PT gy 0]) (en u) (en b)).toArray), .q (.agg (yC x y true).toArray), .call (.bool be), .q (.bool be)] H2 ?ho3 ?he3
 case ho3 => exact bT 0 Ai82 As82 (bT 1 Ai85 As85 (ac (fun w' h => eC call45 (CK.out w' (h.two 2 3 rfl rfl (by decide)))) (ar trivial)))
 intro _ w3 H3
 clear H2
 refine rN (wp_ret ?_)
 repeat (first | refine zK ?_ | refine zH ?_)
 refine bodyPost_ret (v := .bool be) (by simp [results, Tryz.results42, go_sem, *]) rfl ?_
 exact ⟨rfl, H3.out.2⟩
theorem inN_1 {α : Type} {en : α → Nat} {fa fs fm : α → α → α} {fi : α → α} {z u b : α} {g : Nat} (_C : Fd1 g en fa fs fm fi z) (t3 : α) (gx gy : Nat) (x y : Nat) (ck : ∀ w, Mm w [(g, zV pB), (2, dtab)] → Calls Tryz.prog 45 #[.agg (G1 g (.func (.func 73) #[] #[PT gx 0, PT gy 0]) (en u) (en b)).toArray, .agg (yC x y false).toArray] w (Rt w (.bool false))) (w : World) (hm : Mm w [(g, zV pB), (2, dtab), (gx, [PT g 0]), (gy, zD (en t3))]) :
  Calls Tryz.prog 42 #[.agg (G1 g (.func (.func 73) #[] #[PT gx 0, PT gy 0]) (en u) (en b)).toArray, .agg (yC x y false).toArray] w (Rt w (.bool false)) := by
 have H0 : Hid (_ ∧ _) := ⟨hm, Below.refl w.heap.size w⟩
 clear hm
 have CK : Hid _ := ck
 clear ck
 go_enter Tryz.func42, Tryz.ntmps42
 refine wp_seq ?_
 refine zB 3 [.made (G1 g (.func (.func 73) #[] #[PT gx 0, PT gy 0]) (en u) (en b)) 82, .made (yC x y false) 85, .q (.bool false)] (sB H0) ?ho1 ?he1
 case ho1 => exact am (zS rfl rfl) (am (zS rfl rfl) (ar trivial))
 intro J w1 l hM hl
 have H1 : Hid (Mm w1 ([(J 0, G1 g (.func (.func 73) #[] #[PT gx 0, PT gy 0]) (en u) (en b)), (J 1, yC x y false)] ++ _) ∧ _) := wB H0 hM hl [0, 1]
 have o1_0 := vB H0 hM hl 0
 have o1_1 := vB H0 hM hl 1
 clear hM hl l
 generalize J 0 = J1_0 at H1 o1_0 ⊢
 generalize J 1 = J1_1 at H1 o1_1 ⊢
 clear J
 refine rN (wp_seq (wp_seq ?_))
 refine zC 8 [.q (PT J1_1 12), .q (.bool false), .q (.bool false), .q (.agg (G1 g (.func (.func 73) #[] #[PT gx 0, PT gy 0]) (en u) (en b)).toArray), .q (.agg (yC x y false).toArray), .call (.bool false), .q (.bool true), .q (.bool true)] H1 ?ho2 ?he2
 case ho2 => exact ag (bC 1 Ai4 (ar (bT 0 Ai82 As82 (bT 1 Ai85 As85 (ac (fun w' h => eC call45 (CK.out w' (h.two 2 3 rfl rfl (by decide)))) (ag (ag trivial)))))))
 intro _ w2 H2
 clear H1
 refine rN (wp_cond_true rfl (wp_seq ?_))
 refine zC 4 [.q (.agg (G1 g (.func (.func 73) #[] #[PT gx 0, PT gy 0]) (en u) (en b)).toArray), .q (.agg (yC x y false).toArray), .call (.bool false), .q (.bool false)] H2 ?ho3 ?he3
 case ho3 => exact bT 0 Ai82 As82 (bT 1 Ai85 As85 (ac (fun w' h => eC call45 (CK.out w' (h.two 2 3 rfl rfl (by decide)))) (ar trivial)))
 intro _ w3 H3
 clear H2
 refine rN (wp_ret ?_)
 repeat (first | refine zK ?_ | refine zH ?_)
 refine bodyPost_ret (v := .bool false) (by simp [results, Tryz.results42, go_sem, *]) rfl ?_
 exact ⟨rfl, H3.out.2⟩
set_option maxHeartbeats 4000000 in
theorem inF_1 {α : Type} {en : α → Nat} {fa fs fm : α → α → α} {fi : α → α} {z u b : α} {g : Nat} (C : Fd1 g en fa fs fm fi z) (t3 : α) (gx gy : Nat) (S0 S1 S2 : EC.Tri α) (x y tx ty : α) (ck : ∀ w, Mm w [(g, zV pB), (2, dtab)] → Calls Tryz.prog 45 #[.agg (G1 g (.func (.func 73) #[] #[PT gx 0, PT gy 0]) (en u) (en b)).toArray, .agg (yC (en x) (en y) false).toArray] w (Rt w (.bool true))) (cl : ∀ w, Mm w [(g, zV pB), (2, dtab)] → Calls Tryz.prog 74 #[.agg (G1 g (.func (.func 73) #[] #[PT gx 0, PT gy 0]) (en u) (en b)).toArray, .agg (yC (en x) (en y) false).toArray] w (Rt w (V [en S0.1, en S0.2.1, en S0.2.2]))) (cw0 : ∀ w, Mm w [(g, zV pB), (2, dtab)] → Calls Tryz.prog 75 #[.agg (G1 g (.func (.func 73) #[] #[PT gx 0, PT gy 0]) (en u) (en b)).toArray, V [en S0.1, en S0.2.1, en S0.2.2], .int .u64 15132376222941642752] w (Rt w (V [en S1.1, en S1.2.1, en S1.2.2]))) (cw1 : ∀ w, Mm w [(g, zV pB), (2, dtab)] → Calls Tryz.prog 75 #[.agg (G1 g (.func (.func 73) #[] #[PT gx 0, PT gy 0]) (en u) (en b)).toArray, V [en S1.1, en S1.2.1, en S1.2.2], .int .u64 15132376222941642752] w (Rt w (V [en S2.1, en S2.2.1, en S2.2.2]))) (ct : ∀ w, Mm w [(g, zV pB), (2, dtab), (gx, [PT g 0]), (gy, zD (en t3))] → Calls Tryz.prog 73 #[N (en x), N (en y), PT gx 0, PT gy 0] w (Rt w (.tuple #[N (en tx), N (en ty)]))) (ea : ∀ w, (Op.equalIn 10000 24 (N (en S2.1)) (N (en (fm tx S2.2.2)))).run Tryz.prog w = .ok false w) (w : World) (hm : Mm w [(g, zV pB), (2, dtab), (gx, [PT g 0]), (gy, zD (en t3))]) :
  Calls Tryz.prog 42 #[.agg (G1 g (.func (.func 73) #[] #[PT gx 0, PT gy 0]) (en u) (en b)).toArray, .agg (yC (en x) (en y) false).toArray] w (Rt w (.bool false)) := by
 have H0 : Hid (_ ∧ _) := ⟨hm, Below.refl w.heap.size w⟩
 clear hm
 have CK : Hid _ := ck
 clear ck
 have CL : Hid _ := cl
 clear cl
 have CW0 : Hid _ := cw0
 clear cw0
 have CW1 : Hid _ := cw1
 clear cw1
 have CT : Hid _ := ct
 clear ct
 have EA : Hid _ := ea
 clear ea
 go_enter Tryz.func42, Tryz.ntmps42
 refine wp_seq ?_
 refine zB 3 [.made (G1 g (.func (.func 73) #[] #[PT gx 0, PT gy 0]) (en u) (en b)) 82, .made (yC (en x) (en y) false) 85, .q (.bool false)] (sB H0) ?ho1 ?he1
 case ho1 => exact am (zS rfl rfl) (am (zS rfl rfl) (ar trivial))
 intro J w1 l hM hl
 have H1 : Hid (Mm w1 ([(J 0, G1 g (.func (.func 73) #[] #[PT gx 0, PT gy 0]) (en u) (en b)), (J 1, yC (en x) (en y) false)] ++ _) ∧ _) := wB H0 hM hl [0, 1]
 have o1_0 := vB H0 hM hl 0
 have o1_1 := vB H0 hM hl 1
 clear hM hl l
 generalize J 0 = J1_0 at H1 o1_0 ⊢
 generalize J 1 = J1_1 at H1 o1_1 ⊢
 clear J
 refine rN (wp_seq (wp_seq ?_))
 refine zC 8 [.q (PT J1_1 12), .q (.bool false), .q (.bool false), .q (.agg (G1 g (.func (.func 73) #[] #[PT gx 0, PT gy 0]) (en u) (en b)).toArray), .q (.agg (yC (en x) (en y) false).toArray), .call (.bool true), .q (.bool false), .q (.bool false)] H1 ?ho2 ?he2
 case ho2 => exact ag (bC 1 Ai4 (ar (bT 0 Ai82 As82 (bT 1 Ai85 As85 (ac (fun w' h => eC call45 (CK.out w' (h.two 2 3 rfl rfl (by decide)))) (ag (ag trivial)))))))
 intro _ w2 H2
 clear H1
 refine rN (wp_cond_false rfl ?_)
 refine wp_skip (zA (wp_seq ?_))
 refine zB 5 [.q (.agg (G1 g (.func (.func 73) #[] #[PT gx 0, PT gy 0]) (en u) (en b)).toArray), .q (.agg (yC (en x) (en y) false).toArray), .call (V [en S0.1, en S0.2.1, en S0.2.2]), .made (cel [0, 0, 0]) 124, .laid 3 (cel [0, 0, 0]) (cel [en S0.1, en S0.2.1, en S0.2.2])] (sB H2) ?ho3 ?he3 (hL := ?hL3)
 case hL3 => exact ⟨⟨_, rfl⟩, trivial⟩
 case ho3 => exact bT 0 Ai82 As82 (bT 1 Ai85 As85 (ac (fun w' h => eC call74 (CL.out w' (h.two 2 3 rfl rfl (by decide)))) (am (ex_madeTN rfl) (ak (fun J => ⟨rfl, rfl, rfl, fun w' h => ex_laidA h rfl As124 rfl rfl rfl⟩) trivial))))
 intro J w3 l hM hl
 have H3 : Hid (Mm w3 ([(J 3, cel [en S0.1, en S0.2.1, en S0.2.2])] ++ _) ∧ _) := wB H2 hM hl [3]
 have o3_3 := vB H2 hM hl 3
 clear hM hl l H2
 generalize J 3 = J3_3 at H3 o3_3 ⊢
 clear J
 refine rN (wp_seq (wp_seq ?_))
 refine zC 3 [.q (PT J1_0 18), .q (.int .i64 2), .q (.int .i64 0)] H3 ?ho4 ?he4
 case ho4 => exact ag (bC 1 Ai3 (ar trivial))
 intro _ w4 H4
 clear H3
 refine rN (wp_block ?_)
 refine wp_loop_rounds 3 ?_
 refine zM (n := 2) ?_
 refine wp_seq ?_
 refine zC 1 [.q (.bool true)] H4 ?ho5 ?he5
 case ho5 => exact ag trivial
 intro _ w5 H5
 clear H4
 refine rN (wp_seq ?_)
 refine wp_cond_true rfl (wp_skip ?_)
 refine zA (wp_seq (wp_block ?_))
 refine zC 3 [.q (.agg (G1 g (.func (.func 73) #[] #[PT gx 0, PT gy 0]) (en u) (en b)).toArray), .q (V [en S0.1, en S0.2.1, en S0.2.2]), .call (V [en S1.1, en S1.2.1, en S1.2.2])] H5 ?ho6 ?he6
 case ho6 => exact bT 1 Ai82 As82 (bA 0 3 0 Ai124 As124 (ac (fun w' h => eC call75 (CW0.out w' (h.two 3 4 rfl rfl (by decide)))) trivial))
 intro _ w6 H6
 clear H5
 refine zF (l := [3]) rfl ?_
 refine sF 0 [en S1.1, en S1.2.1, en S1.2.2] [_, _, _, _, _, _, _] H6 o3_3 As124 fun w7 H7 => ?_
 clear H6
 refine zE (zI (zA ?_))
 refine zC 1 [.q (.int .i64 1)] H7 ?ho7 ?he7
 case ho7 => exact av trivial
 intro _ w8 H8
 clear H7
 refine zF (l := [1]) rfl ?_
 refine zG (d := 24) rfl rfl rfl rfl ?_
 simp only [Act.put, sa, sz, ss]
 refine zE (zA ?_)
 refine zM (n := 1) ?_
 refine wp_seq ?_
 refine zC 1 [.q (.bool true)] H8 ?ho8 ?he8
 case ho8 => exact ag trivial
 intro _ w9 H9
 clear H8
 refine rN (wp_seq ?_)
 refine wp_cond_true rfl (wp_skip ?_)
 refine zA (wp_seq (wp_block ?_))
 refine zC 3 [.q (.agg (G1 g (.func (.func 73) #[] #[PT gx 0, PT gy 0]) (en u) (en b)).toArray), .q (V [en S1.1, en S1.2.1, en S1.2.2]), .call (V [en S2.1, en S2.2.1, en S2.2.2])] H9 ?ho9 ?he9
 case ho9 => exact bT 1 Ai82 As82 (bA 0 3 0 Ai124 As124 (ac (fun w' h => eC call75 (CW1.out w' (h.two 3 4 rfl rfl (by decide)))) trivial))
 intro _ w10 H10
 clear H9
 refine zF (l := [3]) rfl ?_
 refine sF 0 [en S2.1, en S2.2.1, en S2.2.2] [_, _, _, _, _, _, _] H10 o3_3 As124 fun w11 H11 => ?_
 clear H10
 refine zE (zI (zA ?_))
 refine zC 1 [.q (.int .i64 2)] H11 ?ho10 ?he10
 case ho10 => exact av trivial
 intro _ w12 H12
 clear H11
 refine zF (l := [1]) rfl ?_
 refine zG (d := 24) rfl rfl rfl rfl ?_
 simp only [Act.put, sa, sz, ss]
 refine zE (zA ?_)
 refine zM (n := 0) ?_
 refine wp_seq ?_
 refine zC 1 [.q (.bool false)] H12 ?ho11 ?he11
 case ho11 => exact ag trivial
 intro _ w13 H13
 clear H12
 refine rN (wp_seq (wp_cond_false rfl ?_))
 refine wp_exit ?_
 repeat refine zY ?_
 refine zU ?_
 refine zA (wp_seq ?_)
 refine zB 14 [.q (PT J1_0 17), .q (.func (.func 73) #[] #[PT gx 0, PT gy 0]), .q (PT J1_1 0), .q (N (en x)), .q (PT J1_1 6), .q (N (en y)), .call (.tuple #[N (en tx), N (en ty)]), .q (.tuple #[N (en tx), N (en ty)]), .q (N (en tx)), .q (N (en ty)), .made zero6 24, .made zero6 24, .laid 10 zero6 (zD (en tx)), .laid 11 zero6 (zD (en ty))] (sB H13) ?ho12 ?he12 (hL := ?hL12)
 case hL12 => exact ⟨⟨_, rfl⟩, ⟨_, rfl⟩, trivial⟩
 case ho12 => exact ag (bC 1 Tryz.isAgg80 (ag (bN 2 (ag (bN 2 (ac (fun w' h => ⟨73, #[N (en x), N (en y), PT gx 0, PT gy 0], zJ rfl call73 rfl (mpn rfl) rfl, CT.out w' (h.pick [3, 4, 5, 6] rfl (by decide))⟩) (ar (ag (ag (am (zL rfl) (am (zL rfl) (ak (fun J => ⟨rfl, rfl, rfl, fun w' h => zR h rfl rfl rfl⟩) (ak (fun J => ⟨rfl, rfl, rfl, fun w' h => zR h rfl rfl rfl⟩) trivial)))))))))))))
 intro J w14 l hM hl
 have H14 : Hid (Mm w14 ([(J 10, zD (en tx)), (J 11, zD (en ty))] ++ _) ∧ _) := wB H13 hM hl [10, 11]
 have o12_10 := vB H13 hM hl 10
 have o12_11 := vB H13 hM hl 11
 clear hM hl l H13
 generalize J 10 = J12_10 at H14 o12_10 ⊢
 generalize J 11 = J12_11 at H14 o12_11 ⊢
 clear J
 refine rN (wp_seq ?_)
 refine zN 25 [.q (PT J3_3 0), .q (N (en S2.1)), .q (PT J1_0 0), .q (PT J1_0 2), .q (.func (.func 70) #[PT g 0] #[]), .q (N (en tx)), .q (PT J3_3 12), .q (N (en S2.2.2)), .call (N (en (fm tx S2.2.2))), .q (.bool false), .q (.bool false), .gone, .gone, .gone, .gone, .gone, .gone, .gone, .gone, .gone, .gone, .gone, .gone, .q (.bool false), .q (.bool false)] H14 ?ho13 ?he13 (hL := ?hL13)
 case hL13 => exact trivial
 case ho13 => exact ag (aq (fun w' h => zT (i := 0) h 2 rfl rfl rfl rfl) (ag (ag (bC 3 Ai76 (bN 0 (ag (aq (fun w' h => zT (i := 2) h 2 rfl rfl rfl rfl) (ac (fun w' h => ⟨70, #[PT g 0, N (en tx), N (en S2.2.2)], zJ rfl call70 rfl (mpn rfl) rfl, C.cm _ _ w' (h.two 5 6 rfl rfl (by decide))⟩) (ak (fun J => ⟨rfl, fun w' _ => exec_eq6 EA.out rfl rfl rfl⟩) (ar (ak (fun J => rfl) (ak (fun J => rfl) (ak (fun J => rfl) (ak (fun J => rfl) (ak (fun J => rfl) (ak (fun J => rfl) (ak (fun J => rfl) (ak (fun J => rfl) (ak (fun J => rfl) (ak (fun J => rfl) (ak (fun J => rfl) (ak (fun J => rfl) (ag (ar trivial))))))))))))))))))))))))
 intro _ w15 H15
 clear H14
 refine rN (wp_ret ?_)
 repeat (first | refine zK ?_ | refine zH ?_)
 refine bodyPost_ret (v := .bool false) (by simp [results, Tryz.results42, go_sem, *]) rfl ?_
 exact ⟨rfl, H15.out.2⟩
set_option maxHeartbeats 4000000 in
theorem inT_1 {α : Type} {en : α → Nat} {fa fs fm : α → α → α} {fi : α → α} {z u b : α} {g : Nat} (C : Fd1 g en fa fs fm fi z) (t3 : α) (gx gy : Nat) (S0 S1 S2 : EC.Tri α) (x y tx ty : α) (bb : Bool) (ck : ∀ w, Mm w [(g, zV pB), (2, dtab)] → Calls Tryz.prog 45 #[.agg (G1 g (.func (.func 73) #[] #[PT gx 0, PT gy 0]) (en u) (en b)).toArray, .agg (yC (en x) (en y) false).toArray] w (Rt w (.bool true))) (cl : ∀ w, Mm w [(g, zV pB), (2, dtab)] → Calls Tryz.prog 74 #[.agg (G1 g (.func (.func 73) #[] #[PT gx 0, PT gy 0]) (en u) (en b)).toArray, .agg (yC (en x) (en y) false).toArray] w (Rt w (V [en S0.1, en S0.2.1, en S0.2.2]))) (cw0 : ∀ w, Mm w [(g, zV pB), (2, dtab)] → Calls Tryz.prog 75 #[.agg (G1 g (.func (.func 73) #[] #[PT gx 0, PT gy 0]) (en u) (en b)).toArray, V [en S0.1, en S0.2.1, en S0.2.2], .int .u64 15132376222941642752] w (Rt w (V [en S1.1, en S1.2.1, en S1.2.2]))) (cw1 : ∀ w, Mm w [(g, zV pB), (2, dtab)] → Calls Tryz.prog 75 #[.agg (G1 g (.func (.func 73) #[] #[PT gx 0, PT gy 0]) (en u) (en b)).toArray, V [en S1.1, en S1.2.1, en S1.2.2], .int .u64 15132376222941642752] w (Rt w (V [en S2.1, en S2.2.1, en S2.2.2]))) (ct : ∀ w, Mm w [(g, zV pB), (2, dtab), (gx, [PT g 0]), (gy, zD (en t3))] → Calls Tryz.prog 73 #[N (en x), N (en y), PT gx 0, PT gy 0] w (Rt w (.tuple #[N (en tx), N (en ty)]))) (ea : ∀ w, (Op.equalIn 10000 24 (N (en S2.1)) (N (en (fm tx S2.2.2)))).run Tryz.prog w = .ok true w) (eb : ∀ w, (Op.equalIn 10000 24 (N (en S2.2.1)) (N (en (fm (fs z ty) S2.2.2)))).run Tryz.prog w = .ok bb w) (w : World) (hm : Mm w [(g, zV pB), (2, dtab), (gx, [PT g 0]), (gy, zD (en t3))]) :
  Calls Tryz.prog 42 #[.agg (G1 g (.func (.func 73) #[] #[PT gx 0, PT gy 0]) (en u) (en b)).toArray, .agg (yC (en x) (en y) false).toArray] w (Rt w (.bool bb)) := by
 have H0 : Hid (_ ∧ _) := ⟨hm, Below.refl w.heap.size w⟩
 clear hm
 have CK : Hid _ := ck
 clear ck
 have CL : Hid _ := cl
 clear cl
 have CW0 : Hid _ := cw0
 clear cw0
 have CW1 : Hid _ := cw1
 clear cw1
 have CT : Hid _ := ct
 clear ct
 have EA : Hid _ := ea
 clear ea
 have EB : Hid _ := eb
 clear eb
 go_enter Tryz.func42, Tryz.ntmps42
 refine wp_seq ?_
 refine zB 3 [.made (G1 g (.func (.func 73) #[] #[PT gx 0, PT gy 0]) (en u) (en b)) 82, .made (yC (en x) (en y) false) 85, .q (.bool false)] (sB H0) ?ho1 ?he1
 case ho1 => exact am (zS rfl rfl) (am (zS rfl rfl) (ar trivial))
 intro J w1 l hM hl
 have H1 : Hid (Mm w1 ([(J 0, G1 g (.func (.func 73) #[] #[PT gx 0, PT gy 0]) (en u) (en b)), (J 1, yC (en x) (en y) false)] ++ _) ∧ _) := wB H0 hM hl [0, 1]
 have o1_0 := vB H0 hM hl 0
 have o1_1 := vB H0 hM hl 1
 clear hM hl l
 generalize J 0 = J1_0 at H1 o1_0 ⊢
 generalize J 1 = J1_1 at H1 o1_1 ⊢
 clear J
 refine rN (wp_seq (wp_seq ?_))
 refine zC 8 [.q (PT J1_1 12), .q (.bool false), .q (.bool false), .q (.agg (G1 g (.func (.func 73) #[] #[PT gx 0, PT gy 0]) (en u) (en b)).toArray), .q (.agg (yC (en x) (en y) false).toArray), .call (.bool true), .q (.bool false), .q (.bool false)] H1 ?ho2 ?he2
 case ho2 => exact ag (bC 1 Ai4 (ar (bT 0 Ai82 As82 (bT 1 Ai85 As85 (ac (fun w' h => eC call45 (CK.out w' (h.two 2 3 rfl rfl (by decide)))) (ag (ag trivial)))))))
 intro _ w2 H2
 clear H1
 refine rN (wp_cond_false rfl ?_)
 refine wp_skip (zA (wp_seq ?_))
 refine zB 5 [.q (.agg (G1 g (.func (.func 73) #[] #[PT gx 0, PT gy 0]) (en u) (en b)).toArray), .q (.agg (yC (en x) (en y) false).toArray), .call (V [en S0.1, en S0.2.1, en S0.2.2]), .made (cel [0, 0, 0]) 124, .laid 3 (cel [0, 0, 0]) (cel [en S0.1, en S0.2.1, en S0.2.2])] (sB H2) ?ho3 ?he3 (hL := ?hL3)
 case hL3 => exact ⟨⟨_, rfl⟩, trivial⟩
 case ho3 => exact bT 0 Ai82 As82 (bT 1 Ai85 As85 (ac (fun w' h => eC call74 (CL.out w' (h.two 2 3 rfl rfl (by decide)))) (am (ex_madeTN rfl) (ak (fun J => ⟨rfl, rfl, rfl, fun w' h => ex_laidA h rfl As124 rfl rfl rfl⟩) trivial))))
 intro J w3 l hM hl
 have H3 : Hid (Mm w3 ([(J 3, cel [en S0.1, en S0.2.1, en S0.2.2])] ++ _) ∧ _) := wB H2 hM hl [3]
 have o3_3 := vB H2 hM hl 3
 clear hM hl l H2
 generalize J 3 = J3_3 at H3 o3_3 ⊢
 clear J
 refine rN (wp_seq (wp_seq ?_))
 refine zC 3 [.q (PT J1_0 18), .q (.int .i64 2), .q (.int .i64 0)] H3 ?ho4 ?he4
 case ho4 => exact ag (bC 1 Ai3 (ar trivial))
 intro _ w4 H4
 clear H3
 refine rN (wp_block ?_)
 refine wp_loop_rounds 3 ?_
 refine zM (n := 2) ?_
 refine wp_seq ?_
 refine zC 1 [.q (.bool true)] H4 ?ho5 ?he5
 case ho5 => exact ag trivial
 intro _ w5 H5
 clear H4
 refine rN (wp_seq ?_)
 refine wp_cond_true rfl (wp_skip ?_)
 refine zA (wp_seq (wp_block ?_))
 refine zC 3 [.q (.agg (G1 g (.func (.func 73) #[] #[PT gx 0, PT gy 0]) (en u) (en b)).toArray), .q (V [en S0.1, en S0.2.1, en S0.2.2]), .call (V [en S1.1, en S1.2.1, en S1.2.2])] H5 ?ho6 ?he6
 case ho6 => exact bT 1 Ai82 As82 (bA 0 3 0 Ai124 As124 (ac (fun w' h => eC call75 (CW0.out w' (h.two 3 4 rfl rfl (by decide)))) trivial))
 intro _ w6 H6
 clear H5
 refine zF (l := [3]) rfl ?_
 refine sF 0 [en S1.1, en S1.2.1, en S1.2.2] [_, _, _, _, _, _, _] H6 o3_3 As124 fun w7 H7 => ?_
 clear H6
 refine zE (zI (zA ?_))
 refine zC 1 [.q (.int .i64 1)] H7 ?ho7 ?he7
 case ho7 => exact av trivial
 intro _ w8 H8
 clear H7
 refine zF (l := [1]) rfl ?_
 refine zG (d := 24) rfl rfl rfl rfl ?_
 simp only [Act.put, sa, sz, ss]
 refine zE (zA ?_)
 refine zM (n := 1) ?_
 refine wp_seq ?_
 refine zC 1 [.q (.bool true)] H8 ?ho8 ?he8
 case ho8 => exact ag trivial
 intro _ w9 H9
 clear H8
 refine rN (wp_seq ?_)
 refine wp_cond_true rfl (wp_skip ?_)
 refine zA (wp_seq (wp_block ?_))
 refine zC 3 [.q (.agg (G1 g (.func (.func 73) #[] #[PT gx 0, PT gy 0]) (en u) (en b)).toArray), .q (V [en S1.1, en S1.2.1, en S1.2.2]), .call (V [en S2.1, en S2.2.1, en S2.2.2])] H9 ?ho9 ?he9
 case ho9 => exact bT 1 Ai82 As82 (bA 0 3 0 Ai124 As124 (ac (fun w' h => eC call75 (CW1.out w' (h.two 3 4 rfl rfl (by decide)))) trivial))
 intro _ w10 H10
 clear H9
 refine zF (l := [3]) rfl ?_
 refine sF 0 [en S2.1, en S2.2.1, en S2.2.2] [_, _, _, _, _, _, _] H10 o3_3 As124 fun w11 H11 => ?_
 clear H10
 refine zE (zI (zA ?_))
 refine zC 1 [.q (.int .i64 2)] H11 ?ho10 ?he10
 case ho10 => exact av trivial
 intro _ w12 H12
 clear H11
 refine zF (l := [1]) rfl ?_
 refine zG (d := 24) rfl rfl rfl rfl ?_
 simp only [Act.put, sa, sz, ss]
 refine zE (zA ?_)
 refine zM (n := 0) ?_
 refine wp_seq ?_
 refine zC 1 [.q (.bool false)] H12 ?ho11 ?he11
 case ho11 => exact ag trivial
 intro _ w13 H13
 clear H12
 refine rN (wp_seq (wp_cond_false rfl ?_))
 refine wp_exit ?_
 repeat refine zY ?_
 refine zU ?_
 refine zA (wp_seq ?_)
 refine zB 14 [.q (PT J1_0 17), .q (.func (.func 73) #[] #[PT gx 0, PT gy 0]), .q (PT J1_1 0), .q (N (en x)), .q (PT J1_1 6), .q (N (en y)), .call (.tuple #[N (en tx), N (en ty)]), .q (.tuple #[N (en tx), N (en ty)]), .q (N (en tx)), .q (N (en ty)), .made zero6 24, .made zero6 24, .laid 10 zero6 (zD (en tx)), .laid 11 zero6 (zD (en ty))] (sB H13) ?ho12 ?he12 (hL := ?hL12)
 case hL12 => exact ⟨⟨_, rfl⟩, ⟨_, rfl⟩, trivial⟩
 case ho12 => exact ag (bC 1 Tryz.isAgg80 (ag (bN 2 (ag (bN 2 (ac (fun w' h => ⟨73, #[N (en x), N (en y), PT gx 0, PT gy 0], zJ rfl call73 rfl (mpn rfl) rfl, CT.out w' (h.pick [3, 4, 5, 6] rfl (by decide))⟩) (ar (ag (ag (am (zL rfl) (am (zL rfl) (ak (fun J => ⟨rfl, rfl, rfl, fun w' h => zR h rfl rfl rfl⟩) (ak (fun J => ⟨rfl, rfl, rfl, fun w' h => zR h rfl rfl rfl⟩) trivial)))))))))))))
 intro J w14 l hM hl
 have H14 : Hid (Mm w14 ([(J 10, zD (en tx)), (J 11, zD (en ty))] ++ _) ∧ _) := wB H13 hM hl [10, 11]
 have o12_10 := vB H13 hM hl 10
 have o12_11 := vB H13 hM hl 11
 clear hM hl l H13
 generalize J 10 = J12_10 at H14 o12_10 ⊢
 generalize J 11 = J12_11 at H14 o12_11 ⊢
 clear J
 refine rN (wp_seq ?_)
 refine zN 25 [.q (PT J3_3 0), .q (N (en S2.1)), .q (PT J1_0 0), .q (PT J1_0 2), .q (.func (.func 70) #[PT g 0] #[]), .q (N (en tx)), .q (PT J3_3 12), .q (N (en S2.2.2)), .call (N (en (fm tx S2.2.2))), .q (.bool true), .q (.bool true), .q (PT J3_3 6), .q (N (en S2.2.1)), .q (PT J1_0 0), .q (PT J1_0 2), .q (.func (.func 70) #[PT g 0] #[]), .q (.agg (G1 g (.func (.func 73) #[] #[PT gx 0, PT gy 0]) (en u) (en b)).toArray), .q (N (en ty)), .call (N (en (fs z ty))), .q (PT J3_3 12), .q (N (en S2.2.2)), .call (N (en (fm (fs z ty) S2.2.2))), .q (.bool bb), .q (.bool bb), .q (.bool bb)] H14 ?ho13 ?he13 (hL := ?hL13)
 case hL13 => exact trivial
 case ho13 => exact ag (aq (fun w' h => zT (i := 0) h 2 rfl rfl rfl rfl) (ag (ag (bC 3 Ai76 (bN 0 (ag (aq (fun w' h => zT (i := 2) h 2 rfl rfl rfl rfl) (ac (fun w' h => ⟨70, #[PT g 0, N (en tx), N (en S2.2.2)], zJ rfl call70 rfl (mpn rfl) rfl, C.cm _ _ w' (h.two 5 6 rfl rfl (by decide))⟩) (ak (fun J => ⟨rfl, fun w' _ => exec_eq6 EA.out rfl rfl rfl⟩) (ar (ag (aq (fun w' h => zT (i := 1) h 2 rfl rfl rfl rfl) (ag (ag (bC 3 Ai76 (bT 3 Ai82 As82 (bN 1 (ac (fun w' h => eC call76 (minus_1 C _ w' (h.two 5 6 rfl rfl (by decide)))) (ag (aq (fun w' h => zT (i := 2) h 2 rfl rfl rfl rfl) (ac (fun w' h => ⟨70, #[PT g 0, N (en (fs z ty)), N (en S2.2.2)], zJ rfl call70 rfl (mpn rfl) rfl, C.cm _ _ w' (h.two 5 6 rfl rfl (by decide))⟩) (ak (fun J => ⟨rfl, fun w' _ => exec_eq6 EB.out rfl rfl rfl⟩) (ag (ar trivial))))))))))))))))))))))))
 intro _ w15 H15
 clear H14
 refine rN (wp_ret ?_)
 repeat (first | refine zK ?_ | refine zH ?_)
 refine bodyPost_ret (v := .bool bb) (by simp [results, Tryz.results42, go_sem, *]) rfl ?_
 exact ⟨rfl, H15.out.2⟩
end Rg
end Go.Proofs.YtmanelnacifgcaaGreatDoor
end
section
namespace Go.Proofs.YtmanelnacifgcaaGreatDoor
open Go.RowKit
namespace Rg
def chained0 (full : Array Oper) (p : Nat) : Bool :=
 eachOp full (fun i o => o.after.all fun e => !Region.binds .any e || decide (e.on < i)) &&
 eachOp full (fun i o => decide (i < p) || (List.range i).all fun j => waits o j)
theorem waitsQ_of {full : Array Oper} {f : Nat} {o : Oper} {j : Nat} (h : waits o j = true) : waitsQ full f o j = true := by
 cases f with
 | zero => exact h
 | succ f => unfold waitsQ; rw [h]; rfl
section
variable {P : Program} {ops : Array Oper} {a₀ : Act} {Q : Exit → Act → World → Prop}
theorem quiet_step {full : Array Oper} {ks : List Kind} {n p : Nat} (hO : Orderly ops ks n) (hn : n = a₀.tmps.size) (hfull : ∀ i, i < p → full[i]? = ops[i]?) (hgd : ∀ {i : Nat} {o : Oper} {g : Nat} {b : Bool}, ops[i]? = some o → o.guard = some (g, b) → g < p)
  {K : Act → World → Prop} {l : Array Bool} {J : Nat → Nat} {a : Act} {w : World} (hA : Agree ops ks a₀ l J a) {i : Nat} {o : Oper} {v : Value} (hip : i < p) (ho : ops[i]? = some o) (hk : ks[i]? = some (.q v))
  (hedge : ∀ e ∈ o.after, Region.binds .any e = true → l.getD e.on false = true) (hok : Region.wanted o (yielded ops (yF J 0 ops.toList ks a₀).tmps) = true ∧ (execOp (yF J 0 ops.toList ks a₀).eval o).run P w = .ok (.value v) w)
  (hnext : Agree ops ks a₀ (l.setIfInBounds i true) J (a.put o.dst v) → K (a.put o.dst v) w) : wpOp P full Q i K a w := by
 obtain ⟨he, hw0⟩ := hA.sees hO ho hedge
 have hy : ∀ ts, Region.wanted o (yielded full ts) = Region.wanted o (yielded ops ts) := fun ts => by
  unfold Region.wanted
  cases hg : o.guard with
  | none => rfl
  | some gw =>
   obtain ⟨g, want⟩ := gw
   have : yielded full ts g = yielded ops ts g := by unfold yielded; rw [hfull g (hgd ho hg)]
   simp only [this]
 refine wpOp_step (by rw [hfull i hip]; exact ho) (fun K' hK => ?_)
 rw [hy, hw0, if_pos hok.1]
 unfold Oper.wp
 rw [he, hok.2]
 exact hK _ _ (hnext (hA.step hO hn ho hk (fun _ _ _ _ => rfl)))
theorem enter_step {full : Array Oper} {ks : List Kind} {n p : Nat} (hO : Orderly ops ks n) (hfull : ∀ i, i < p → full[i]? = ops[i]?) (hgd : ∀ {i : Nat} {o : Oper} {g : Nat} {b : Bool}, ops[i]? = some o → o.guard = some (g, b) → g < p)
  {K : Act → World → Prop} {l : Array Bool} {J : Nat → Nat} {a : Act} {w : World} (hA : Agree ops ks a₀ l J a) {i : Nat} {o : Oper} (hip : i < p) (ho : ops[i]? = some o)
  (hedge : ∀ e ∈ o.after, Region.binds .any e = true → l.getD e.on false = true) {f : FuncId} {args : Array Value} {R : Value → World → Prop} (hw : Region.wanted o (yielded ops (yF J 0 ops.toList ks a₀).tmps) = true) (hx : (execOp (yF J 0 ops.toList ks a₀).eval o).run P w = .ok (.enter f args) w)
  (hc : Calls P f args w (fun e w' => ∃ v, e = .returned v ∧ R v w')) (hnext : ∀ v w', R v w' → K (a.put o.dst v) w') : wpOp P full Q i K a w := by
 obtain ⟨he, hw0⟩ := hA.sees hO ho hedge
 have hy : ∀ ts, Region.wanted o (yielded full ts) = Region.wanted o (yielded ops ts) := fun ts => by
  unfold Region.wanted
  cases hg : o.guard with
  | none => rfl
  | some gw =>
   obtain ⟨g, want⟩ := gw
   have : yielded full ts g = yielded ops ts g := by unfold yielded; rw [hfull g (hgd ho hg)]
   simp only [this]
 refine wpOp_step (by rw [hfull i hip]; exact ho) (fun K' hK => ?_)
 rw [hy, hw0, if_pos hw]
 unfold Oper.wp
 rw [he, hx]
 refine Calls.mono hc ?_
 rintro e w' ⟨v, rfl, hr⟩
 exact hK _ _ (hnext v w' hr)
/-- Others than the first one do not hang on what it will answer. -/
theorem Agree.other {n : Nat} {v v' : Value} {qs : List Kind} (hO : Orderly ops (.call v :: qs) n) (hO' : Orderly ops (.call v' :: qs) n) (hn : n = a₀.tmps.size) {l : Array Bool} {J : Nat → Nat} {a : Act} (h : Agree ops (.call v :: qs) a₀ l J a) (h0 : l.getD 0 false = false) : Agree ops (.call v' :: qs) a₀ l J a := by
 refine ⟨h.defers, h.size, fun d hd => ?_⟩
 rw [h.slots d hd]
 by_cases hw : ∃ (j : Nat) (oj : Oper), ops[j]? = some oj ∧ oj.dst = some d
 ·obtain ⟨j, oj, hj, hdj⟩ := hw
  have hl := hd j oj hj hdj
  cases j with
  | zero => rw [h0] at hl; cases hl
  | succ j =>
   obtain ⟨kj, hkj⟩ := kind_at hO hj
   have hkj' : (Kind.call v' :: qs)[j + 1]? = some kj := by simpa using hkj
   rw [fill_one hO hn J hj hkj hdj, fill_one hO' hn J hj hkj' hdj]
 ·have hno : ∀ o' ∈ ops.toList, o'.dst ≠ some d := fun o' ho' hd' => by
   obtain ⟨j, hj, ej⟩ := List.getElem_of_mem ho'
   exact hw ⟨j, o', by rw [← Array.getElem?_toList, List.getElem?_eq_getElem hj, ej], hd'⟩
  rw [fill_other J d 0 _ _ _ hno, fill_other J d 0 _ _ _ hno]
theorem low_ready {full : Array Oper} {p x : Nat} (hwt : ∀ {i : Nat} {o : Oper}, full[i]? = some o → p ≤ i → ∀ j, j < i → waits o j = true) {l : Array Bool} (hx : x < p) (hxf : l.getD x false = false) : ∀ i ∈ Region.ready .any full l, i < p := fun i hi => by
 obtain ⟨_, o, ho, hedge⟩ := mem_ready.1 hi
 rcases Nat.lt_or_ge i p with h' | h'
 ·exact h'
 ·have := waits_spec (hwt ho h' x (by omega)) hedge
  rw [hxf] at this
  cases this
theorem some_ready {full : Array Oper} {x : Nat} (hup : ∀ {i : Nat} {o : Oper}, full[i]? = some o → ∀ e ∈ o.after, Region.binds .any e = true → e.on < i) {l : Array Bool} (hsz : l.size = full.size) (hx : x < full.size) (hxf : l.getD x false = false) : Region.ready .any full l ≠ [] := fun hr => by
 have : ∀ i, i < full.size → l.getD i false = true := by
  intro i
  induction i using Nat.strongRecOn with
  | _ i ih2 =>
   intro hi
   have hi' : i < l.size := by omega
   cases hl : l.getD i true with
   | true => simpa [hi'] using hl
   | false =>
    exfalso
    have : i ∈ Region.ready .any full l := mem_ready.2 ⟨hl, full[i], Array.getElem?_eq_getElem hi, fun e he hb => by
     have h1 := hup (Array.getElem?_eq_getElem hi) e he hb
     exact ih2 e.on h1 (by omega)⟩
    rw [hr] at this
    cases this
 rw [this x hx] at hxf
 cases hxf
theorem rest_count {full : Array Oper} {p : Nat} {l : Array Bool} (hs : l.size = full.size) (hl : ∀ i, p ≤ i → i < full.size → l.getD i true = false) : full.size - p ≤ l.toList.count false := by
 have h3 : ∀ (m : Nat) (l : Array Bool), l.size = full.size → m ≤ full.size - p → (∀ i, full.size - m ≤ i → i < full.size → l.getD i true = false) → m ≤ l.toList.count false := by
  intro m
  induction m with
  | zero => intro l _ _ _; omega
  | succ m ih =>
   intro l hs hm hl
   have h4 := count_set (hl (full.size - (m + 1)) (Nat.le_refl _) (by omega))
   have h5 := ih (l.setIfInBounds (full.size - (m + 1)) true) (by simp [hs]) (by omega) (fun i hi1 hi2 => by rw [getD_set_ne true (by omega)]; exact hl i (by omega) hi2)
   omega
 exact h3 (full.size - p) l hs (Nat.le_refl _) (fun i hi1 hi2 => hl i (by omega) hi2)
/-- Behind the call: the other ones, in no order, then the rest. -/
theorem open_after {full : Array Oper} {ks : List Kind} {n p : Nat} (hO : Orderly ops ks n) (hn : n = a₀.tmps.size) (hp : ops.size = p) (hpf : p ≤ full.size) (hfull : ∀ i, i < p → full[i]? = ops[i]?) (hgd : ∀ {i : Nat} {o : Oper} {g : Nat} {b : Bool}, ops[i]? = some o → o.guard = some (g, b) → g < p)
  (hup : ∀ {i : Nat} {o : Oper}, full[i]? = some o → ∀ e ∈ o.after, Region.binds .any e = true → e.on < i)
  (hwt : ∀ {i : Nat} {o : Oper}, full[i]? = some o → p ≤ i → ∀ j, j < i → waits o j = true) {J : Nat → Nat} {w : World}
  (hqs : ∀ {i : Nat} {o : Oper}, 0 < i → ops[i]? = some o → ∃ v, ks[i]? = some (.q v) ∧ Region.wanted o (yielded ops (yF J 0 ops.toList ks a₀).tmps) = true ∧ (execOp (yF J 0 ops.toList ks a₀).eval o).run P w = .ok (.value v) w)
  (hend : wpOps P full Q (List.range' p (full.size - p)) (yF J 0 ops.toList ks a₀) w) :
  ∀ (fuel : Nat) (l : Array Bool) (a : Act), l.size = full.size → l.toList.count false ≤ fuel → l.getD 0 false = true → (∀ i, p ≤ i → i < full.size → l.getD i true = false) → Agree ops ks a₀ l J a → wpAny P .any full Q fuel l a w := by
 intro fuel
 induction fuel with
 | zero =>
  intro l a hsz hc h0 hu hA
  have hall : ∀ i, i < p → l.getD i false = true := fun i hi => by
   cases hb : l.getD i true with
   | false => have := count_set hb; omega
   | true =>
    have hi' : i < l.size := by omega
    simpa [hi'] using hb
  have := rest_count hsz hu
  rw [whole_of hp hA hall]
  exact rest_any p hup (fun ho hp j hj => waitsQ_of (hwt ho hp j hj)) (full.size - p) 0 p l _ w (by omega) (Nat.le_refl _) hsz (by omega) hall hu hend
 | succ fuel ih =>
  intro l a hsz hc h0 hu hA
  have hct := rest_count hsz hu
  by_cases hall : ∀ i, i < p → l.getD i false = true
  ·rw [whole_of hp hA hall]
   exact rest_any p hup (fun ho hp j hj => waitsQ_of (hwt ho hp j hj)) (full.size - p) (fuel + 1) p l _ w (by omega) (Nat.le_refl _) hsz (by omega) hall hu hend
  ·have hex : ∃ x, x < p ∧ l.getD x false = false := by
    apply Classical.byContradiction
    intro hno
    apply hall
    intro i hi
    cases hb : l.getD i false with
    | true => rfl
    | false => exact absurd ⟨i, hi, hb⟩ hno
   obtain ⟨x, hx, hxf⟩ := hex
   refine ⟨fun hr => absurd hr (some_ready hup hsz (by omega) hxf), fun i hi => ?_⟩
   have hip := low_ready hwt hx hxf i hi
   obtain ⟨hun, o, ho, hedge⟩ := mem_ready.1 hi
   have ho' : ops[i]? = some o := by rw [← hfull i hip]; exact ho
   have hc' := count_set hun
   have hi0 : 0 < i := by
    rcases Nat.eq_zero_or_pos i with h | h
    ·subst h
     rw [(getD_same hun).1] at h0
     cases h0
    ·exact h
   obtain ⟨v, hk, hok⟩ := hqs hi0 ho'
   exact quiet_step hO hn hfull hgd hA hip ho' hk hedge hok (fun hA' => ih _ _ (by simp [hsz]) (by omega) (by rw [getD_set_ne false (by omega)]; exact h0) (fun j hj hj2 => by rw [getD_set_ne true (by omega)]; exact hu j hj hj2) hA')
/-- **The law**: the first operation is a call; what it answers, and leaves, is known behind it alone. -/
theorem region_open {full : Array Oper} {id : Nat} {a : Act} {w : World} (hm : P.follows .mixedOrders = true) (p : Nat) (qs : List Kind) (pre : List Oper) (F : Value → Act) (R : Value → World → Prop) (hpre : full.toList.take p = pre)
  (hF : ∀ v J, yF J 0 pre (.call v :: qs) a = F v) (hor : ∀ v, (orderly pre.toArray (.call v :: qs) a.tmps.size && guarded pre.toArray p && chained0 full p && decide (p ≤ full.size) && decide (0 < p)) = true)
  {o0 : Oper} (ho0 : pre[0]? = some o0) (hw0 : Region.wanted o0 (yielded pre.toArray (F undef).tmps) = true)
  (hx0 : ∀ w', Below w.heap.size w w' → ∃ f args, (execOp (F undef).eval o0).run P w' = .ok (.enter f args) w' ∧ Calls P f args w' (fun e w'' => ∃ v, e = .returned v ∧ Below w'.heap.size w' w'' ∧ R v w''))
  (hqs : ∀ v w', Below w.heap.size w w' → ∀ {i : Nat} {o : Oper}, 0 < i → pre[i]? = some o → ∃ u, (Kind.call v :: qs)[i]? = some (.q u) ∧ Region.wanted o (yielded pre.toArray (F v).tmps) = true ∧ (execOp (F v).eval o).run P w' = .ok (.value u) w')
  (hend : ∀ v w', Below w.heap.size w w' → R v w' → wpOps P full Q (List.range' p (full.size - p)) (F v) w') :
  (Code.region id full true).wp P Q a w := by
 subst hpre
 rw [← take_arr] at hor hw0 hqs
 have hor0 := hor undef
 simp only [Bool.and_eq_true, decide_eq_true_eq] at hor0
 obtain ⟨⟨⟨⟨_, h2⟩, h3⟩, h4⟩, hp0⟩ := hor0
 have hOr : ∀ v, Orderly (full.extract 0 p) (.call v :: qs) a.tmps.size := fun v => by
  have h := hor v
  simp only [Bool.and_eq_true, decide_eq_true_eq] at h
  exact Orderly.of h.1.1.1.1
 unfold chained0 at h3
 simp only [Bool.and_eq_true] at h3
 obtain ⟨h5, h6⟩ := h3
 have hup : ∀ {i : Nat} {o : Oper}, full[i]? = some o → ∀ e ∈ o.after, Region.binds .any e = true → e.on < i := fun ho e he hb => by
  have := Array.all_eq_true_iff_forall_mem.1 (zZ h5 ho) e he
  simpa [hb] using this
 have hwt : ∀ {i : Nat} {o : Oper}, full[i]? = some o → p ≤ i → ∀ j, j < i → waits o j = true := fun ho hi j hj => by
  have := zZ h6 ho
  simp only [Bool.or_eq_true, decide_eq_true_eq] at this
  rcases this with h7 | h7
  ·omega
  ·exact List.all_eq_true.1 h7 j (List.mem_range.2 hj)
 have hgd : ∀ {i : Nat} {o : Oper} {g : Nat} {b : Bool}, (full.extract 0 p)[i]? = some o → o.guard = some (g, b) → g < p := fun ho hg => guarded_spec h2 ho hg
 have hpl : (full.extract 0 p).toList = full.toList.take p := by rw [take_arr]
 have hFe : ∀ v J, yF J 0 (full.extract 0 p).toList (.call v :: qs) a = F v := fun v J => by rw [hpl]; exact hF v J
 have at_ : ∀ {i : Nat} {o : Oper}, (full.extract 0 p)[i]? = some o → (full.toList.take p)[i]? = some o := fun {i o} h => by rw [← hpl, Array.getElem?_toList]; exact h
 have hsz : (full.extract 0 p).size = p := by simp; omega
 have main : ∀ (fuel : Nat) (l : Array Bool) (a' : Act) (w' : World), l.size = full.size → l.toList.count false ≤ fuel → l.getD 0 true = false → (∀ i, p ≤ i → i < full.size → l.getD i true = false) → Agree (full.extract 0 p) (.call undef :: qs) a l (fun _ => 0) a' → Below w.heap.size w w' → wpAny P .any full Q fuel l a' w' := by
  intro fuel
  induction fuel with
  | zero =>
   intro l a' w' hs hc h0 _ _ _
   have := count_set h0
   omega
  | succ fuel ih =>
   intro l a' w' hs hc h0 hu hA hB
   have hf0 : l.getD 0 false = false := (getD_same h0).1
   refine ⟨fun hr => absurd hr (some_ready hup hs (by omega) hf0), fun i hi => ?_⟩
   have hip := low_ready hwt hp0 hf0 i hi
   obtain ⟨hun, o, ho, hedge⟩ := mem_ready.1 hi
   have ho' : (full.extract 0 p)[i]? = some o := by rw [← first_full hip]; exact ho
   have hc' := count_set hun
   rcases Nat.eq_zero_or_pos i with hi0 | hi0
   ·subst hi0
    have e0 : o = o0 := by
     have := (at_ ho').symm.trans ho0
     injection this
    subst e0
    obtain ⟨f, args, hx, hcl⟩ := hx0 w' hB
    refine enter_step (hOr undef) (fun i hi => first_full hi) hgd hA hip ho' hedge (by rw [hFe]; exact hw0) (by rw [hFe]; exact hx) hcl (fun v w2 hR => ?_)
    have hB2 : Below w.heap.size w w2 := hB.trans (hR.1.mono hB.size)
    have hA2 := (hA.other (hOr undef) (hOr v) rfl hf0).step (hOr v) rfl ho' (k := .call v) rfl (J' := fun _ => 0) (fun _ _ _ _ => rfl)
    refine open_after (hOr v) rfl hsz h4 (fun i hi => first_full hi) hgd hup hwt (J := fun _ => 0) (fun {j oj} hj hoj => ?_) ?_ fuel _ _ (by simp [hs]) (by omega) ((getD_same hun).2) (fun j hj hj2 => by rw [getD_set_ne true (by omega)]; exact hu j hj hj2) hA2
    ·rw [hFe]
     exact hqs v w2 hB2 hj (at_ hoj)
    ·rw [hFe]
     exact hend v w2 hB2 hR.2
   ·obtain ⟨u, hk, hok⟩ := hqs undef w' hB hi0 (at_ ho')
    exact quiet_step (hOr undef) rfl (fun i hi => first_full hi) hgd hA hip ho' hk hedge (by rw [hFe]; exact hok) (fun hA' => ih _ _ w' (by simp [hs]) (by omega) (by rw [getD_set_ne true (by omega)]; exact h0) (fun j hj hj2 => by rw [getD_set_ne true (by omega)]; exact hu j hj hj2) hA' hB)
 exact wp_region_any hm (main full.size _ a w.drew (by simp) (by simp) (none_listed' (by omega)) (fun i _ hi => none_listed' hi) (start_agree _ _) (Below.refl _ _).drew)
end
end Rg
end Go.Proofs.YtmanelnacifgcaaGreatDoor
end
section
namespace Go.Proofs.YtmanelnacifgcaaGreatDoor
open Go.RowKit
namespace Rg
set_option maxHeartbeats 2000000 in
theorem first3_gen (n one four : Nat) (qtr : Nat) (ctr : ∀ w, Calls Tryz.prog 32 #[.string bs_tr] w (Rt w (N qtr))) (co : ∀ w, Calls Tryz.prog 17 #[.int .u64 1] w (Rt w (N one))) (cf : ∀ w, Calls Tryz.prog 17 #[.int .u64 4] w (Rt w (N four))) (cb : ∀ w, Calls Tryz.prog 67 #[] w (Rt w (N n))) (cn : ∀ w, Calls Tryz.prog 12 #[N n] w fun e w' => Below w.heap.size w w' ∧ ∃ g, e = .returned (.tuple #[PT g 0, .int .i64 0]) ∧ w.heap.size ≤ g ∧ g < w'.heap.size ∧ Blk w' g (zV n)) (w : World) :
  Calls Tryz.prog 41 #[] w fun e w' => Below w.heap.size w w' ∧ ∃ g x y, e = .returned (.agg (G1 g (.func (.func 73) #[] #[PT x 0, PT y 0]) one four).toArray) ∧ (∀ q ∈ [(g, zV n), (x, [PT g 0]), (y, zD qtr)], w.heap.size ≤ q.1) ∧ Mm w' [(g, zV n), (x, [PT g 0]), (y, zD qtr)] := by
 have H0 : Hid (_ ∧ _) := ⟨Mm.nil w, Below.refl w.heap.size w⟩
 have CTR : Hid _ := ctr
 clear ctr
 have CO : Hid _ := co
 clear co
 have CF : Hid _ := cf
 clear cf
 have CB : Hid _ := cb
 clear cb
 have CN : Hid _ := cn
 clear cn
 go_enter Tryz.func41, Tryz.ntmps41
 refine wp_seq ?_
 refine zB 1 [.made ([Value.nilFunc, Value.nilFunc, Value.nilFunc, Value.nilFunc, Value.nilFunc] ++ (cel [0, 0] ++ [Value.nilFunc, Value.int .i64 0])) 82] (sB H0) ?ho1 ?he1
 case ho1 => exact am (ex_madeGN rfl) trivial
 intro J w1 l hM hl
 have H1 : Hid (Mm w1 [(J 0, [Value.nilFunc, Value.nilFunc, Value.nilFunc, Value.nilFunc, Value.nilFunc] ++ (cel [0, 0] ++ [Value.nilFunc, Value.int .i64 0]))] ∧ _) := wB H0 hM hl [0]
 have o1_0 := vB H0 hM hl 0
 clear hM hl l
 generalize J 0 = J1_0 at H1 o1_0 ⊢
 clear J
 refine rN (wp_seq ?_)
 refine zB 2 [.call (N n), .born (fun g => .tuple #[PT g 0, .int .i64 0]) (zV n)] (sB H1) ?ho2 ?he2
 case ho2 => exact ak (fun J => ⟨rfl, fun w' h => eC call67 (CB.out w')⟩) (ak (fun J => ⟨rfl, fun w' h => eC call12 (CN.out w')⟩) trivial)
 intro J w2 l hM hl
 have H2 : Hid (Mm w2 ([(J 1, zV n)] ++ _) ∧ _) := wB H1 hM hl [1]
 have o2_1 := vB H1 hM hl 1
 clear hM hl l H1
 generalize J 1 = J2_1 at H2 o2_1 ⊢
 clear J
 refine zF (l := [2, 3, 4, 5, 6, 7]) rfl ?_
 refine zG (d := 4) rfl rfl rfl rfl ?_
 simp only [Act.put, sa, sz, ss]
 refine zG (d := 7) (v := PT J2_1 0) (w' := w2) rfl rfl rfl (by go_simp) ?_
 simp only [Act.put, sa, sz, ss]
 refine zG (d := 8) (v := .int .i64 0) (w' := w2) rfl rfl rfl (by go_simp) ?_
 simp only [Act.put, sa, sz, ss]
 refine zG (d := 1) (v := PT w2.heap.size 0) (w' := w2.alloc (.cells ([Value.pointer none] : List Value).toArray 39)) rfl rfl rfl (ex_madeQ rfl) ?_
 simp only [Act.put, sa, sz, ss]
 have o_Js3 : Hid (w.heap.size ≤ w2.heap.size) := H2.out.2.size
 have H3 : Hid (Mm (w2.alloc (.cells ([Value.pointer none] : List Value).toArray 39)) ((w2.heap.size, [Value.pointer none]) :: [(J2_1, zV n), (J1_0, [Value.nilFunc, Value.nilFunc, Value.nilFunc, Value.nilFunc, Value.nilFunc] ++ (cel [0, 0] ++ [Value.nilFunc, Value.int .i64 0]))]) ∧ Below w.heap.size w (w2.alloc (.cells ([Value.pointer none] : List Value).toArray 39))) := ⟨H2.out.1.alloc _ 39 rfl, H2.out.2.alloc H2.out.2.size _⟩
 clear H2
 generalize hgw : w2.alloc (.cells ([Value.pointer none] : List Value).toArray 39) = w3 at H3 ⊢
 clear hgw
 generalize w2.heap.size = Js3 at o_Js3 H3 ⊢
 refine sG rfl (fun h => ex_storeQ h 0 rfl rfl rfl rfl (Nat.le_of_ble_eq_true rfl)) 0 [(_, [PT J2_1 0]), _, _] H3 o_Js3 fun w4 H4 => ?_
 clear H3
 refine zG (d := 2) rfl rfl rfl rfl ?_
 simp only [Act.put, sa, sz, ss]
 refine zE (zA (wp_seq ?_))
 refine zB 3 [.call (N qtr), .made zero6 24, .laid 1 zero6 (zD qtr)] (sB H4) ?ho3 ?he3 (hL := ?hL3)
 case hL3 => exact ⟨⟨_, rfl⟩, trivial⟩
 case ho3 => exact ac (fun w' h => eC call32 (CTR.out w')) (am (zL rfl) (ak (fun J => ⟨rfl, rfl, rfl, fun w' h => zR h rfl rfl rfl⟩) trivial))
 intro J w5 l hM hl
 have H5 : Hid (Mm w5 ([(J 1, zD qtr)] ++ _) ∧ _) := wB H4 hM hl [1]
 have o3_1 := vB H4 hM hl 1
 clear hM hl l H4
 generalize J 1 = J3_1 at H5 o3_1 ⊢
 clear J
 refine rN (wp_seq ?_)
 refine zN 13 [.q (PT J2_1 0), .q (.func (.func 68) #[PT J2_1 0] #[]), .q (PT J2_1 0), .q (.func (.func 69) #[PT J2_1 0] #[]), .q (PT J2_1 0), .q (.func (.func 70) #[PT J2_1 0] #[]), .q (PT J2_1 0), .q (.func (.func 71) #[PT J2_1 0] #[]), .call (N one), .q (.agg ([Value.func (.func 68) #[PT J2_1 0] #[], Value.func (.func 69) #[PT J2_1 0] #[], Value.func (.func 70) #[PT J2_1 0] #[], Value.func (.func 71) #[PT J2_1 0] #[], Value.func (.func 72) #[] #[]] ++ cel [one]).toArray), .call (N four), .q (.func (.func 73) #[] #[PT Js3 0, PT J3_1 0]), .q (.agg (G1 J2_1 (.func (.func 73) #[] #[PT Js3 0, PT J3_1 0]) one four).toArray)] H5 ?ho4 ?he4
 case ho4 => exact bC 1 Ai39 (ak (fun J => ⟨rfl, fun w' _ => ex_makeM rfl (mpn rfl)⟩) (bC 1 Ai39 (ak (fun J => ⟨rfl, fun w' _ => ex_makeM rfl (mpn rfl)⟩) (bC 1 Ai39 (ak (fun J => ⟨rfl, fun w' _ => ex_makeM rfl (mpn rfl)⟩) (bC 1 Ai39 (ak (fun J => ⟨rfl, fun w' _ => ex_makeM rfl (mpn rfl)⟩) (ac (fun w' h => eC call17 (CO.out w')) (ak (fun J => ⟨rfl, fun w' _ => ex_buildFN rfl rfl rfl rfl rfl rfl rfl⟩) (ac (fun w' h => eC call17 (CF.out w')) (ak (fun J => ⟨rfl, fun w' _ => ex_makeC rfl (mpn rfl)⟩) (ak (fun J => ⟨rfl, fun w' _ => ex_buildGN rfl rfl rfl rfl rfl⟩) trivial))))))))))))
 intro _ w6 H6
 clear H5
 refine zF (l := [13]) rfl ?_
 refine sG rfl (fun h => ex_storeT (vs := G1 J2_1 (.func (.func 73) #[] #[PT Js3 0, PT J3_1 0]) one four) h 3 rfl rfl rfl rfl As82 rfl (Nat.le_of_ble_eq_true rfl)) 3 [_, _, _, (_, G1 J2_1 (.func (.func 73) #[] #[PT Js3 0, PT J3_1 0]) one four)] H6 o1_0 fun w7 H7 => ?_
 clear H6
 refine zE (zA (wp_ret ?_))
 repeat (first | refine zK ?_ | refine zH ?_)
 have hf0 := var_T H7.out.1 3 rfl Ai82 As82 rfl
 refine bodyPost_ret (v := .agg (G1 J2_1 (.func (.func 73) #[] #[PT Js3 0, PT J3_1 0]) one four).toArray) (by simp [results, Tryz.results41, asAddr, hf0]) rfl ?_
 refine ⟨H7.out.2, J2_1, Js3, J3_1, rfl, fun q hq => ?_, H7.out.1.pick [2, 1, 0] rfl (by decide)⟩
 simp only [List.mem_cons, List.not_mem_nil, or_false] at hq
 rcases hq with rfl | rfl | rfl
 ·exact o2_1.out
 ·exact o_Js3.out
 ·exact o3_1.out
set_option maxHeartbeats 2000000 in
theorem second3_gen (one four : Nat) (qtx1 qty0 qty1 : Nat) (ctx1 : ∀ w, Calls Tryz.prog 32 #[.string bs_tx1] w (Rt w (N qtx1))) (cty0 : ∀ w, Calls Tryz.prog 32 #[.string bs_ty0] w (Rt w (N qty0))) (cty1 : ∀ w, Calls Tryz.prog 32 #[.string bs_ty1] w (Rt w (N qty1))) (co : ∀ w, Calls Tryz.prog 17 #[.int .u64 1] w (Rt w (N one))) (cf : ∀ w, Calls Tryz.prog 17 #[.int .u64 4] w (Rt w (N four))) (w : World) :
  Calls Tryz.prog 43 #[] w fun e w' => Below w.heap.size w w' ∧ ∃ g x, ∃ _y : Nat, e = .returned (.agg (G2 (.func (.func 82) #[] #[PT g 0, PT x 0]) one 0 four four).toArray) ∧ (∀ q ∈ [(g, cel [0, qtx1]), (x, cel [qty0, qty1])], w.heap.size ≤ q.1) ∧ Mm w' [(g, cel [0, qtx1]), (x, cel [qty0, qty1])] := by
 have H0 : Hid (_ ∧ _) := ⟨Mm.nil w, Below.refl w.heap.size w⟩
 have CTX1 : Hid _ := ctx1
 clear ctx1
 have CTY0 : Hid _ := cty0
 clear cty0
 have CTY1 : Hid _ := cty1
 clear cty1
 have CO : Hid _ := co
 clear co
 have CF : Hid _ := cf
 clear cf
 go_enter Tryz.func43, Tryz.ntmps43
 refine wp_seq ?_
 refine zB 1 [.made ([Value.nilFunc, Value.nilFunc, Value.nilFunc, Value.nilFunc, Value.nilFunc] ++ (cel [0, 0, 0, 0] ++ [Value.nilFunc, Value.int .i64 0])) 93] (sB H0) ?ho1 ?he1
 case ho1 => exact am (ex_madeGE rfl) trivial
 intro J w1 l hM hl
 have H1 : Hid (Mm w1 [(J 0, [Value.nilFunc, Value.nilFunc, Value.nilFunc, Value.nilFunc, Value.nilFunc] ++ (cel [0, 0, 0, 0] ++ [Value.nilFunc, Value.int .i64 0]))] ∧ _) := wB H0 hM hl [0]
 have o1_0 := vB H0 hM hl 0
 clear hM hl l
 generalize J 0 = J1_0 at H1 o1_0 ⊢
 clear J
 refine rN (wp_seq ?_)
 refine zB 10 [.q (N 0), .call (N qtx1), .q (V [0, qtx1]), .call (N qty0), .call (N qty1), .q (V [qty0, qty1]), .made (cel [0, 0]) 33, .made (cel [0, 0]) 33, .laid 6 (cel [0, 0]) (cel [0, qtx1]), .laid 7 (cel [0, 0]) (cel [qty0, qty1])] (sB H1) ?ho2 ?he2 (hL := ?hL2)
 case hL2 => exact ⟨⟨_, rfl⟩, ⟨_, rfl⟩, trivial⟩
 case ho2 => exact ak (by refine fun J => ⟨rfl, fun w' h => ?_⟩; clear h; exact ex_zero6 rfl) (ac (fun w' h => eC call32 (CTX1.out w')) (ak (fun J => ⟨rfl, fun w' _ => ex_buildE2 rfl rfl rfl⟩) (ac (fun w' h => eC call32 (CTY0.out w')) (ac (fun w' h => eC call32 (CTY1.out w')) (ak (fun J => ⟨rfl, fun w' _ => ex_buildE2 rfl rfl rfl⟩) (am (yB rfl) (am (yB rfl) (ak (fun J => ⟨rfl, rfl, rfl, fun w' h => ex_laidA h rfl As33 rfl rfl rfl⟩) (ak (fun J => ⟨rfl, rfl, rfl, fun w' h => ex_laidA h rfl As33 rfl rfl rfl⟩) trivial)))))))))
 intro J w2 l hM hl
 have H2 : Hid (Mm w2 ([(J 6, cel [0, qtx1]), (J 7, cel [qty0, qty1])] ++ _) ∧ _) := wB H1 hM hl [6, 7]
 have o2_6 := vB H1 hM hl 6
 have o2_7 := vB H1 hM hl 7
 clear hM hl l H1
 generalize J 6 = J2_6 at H2 o2_6 ⊢
 generalize J 7 = J2_7 at H2 o2_7 ⊢
 clear J
 refine rN (wp_seq ?_)
 refine zC 8 [.call (N one), .q (V [one, 0]), .q (.agg ([Value.func (.func 77) #[] #[], Value.func (.func 78) #[] #[], Value.func (.func 79) #[] #[], Value.func (.func 80) #[] #[], Value.func (.func 81) #[] #[]] ++ cel [one, 0]).toArray), .call (N four), .call (N four), .q (V [four, four]), .q (.func (.func 82) #[] #[PT J2_6 0, PT J2_7 0]), .q (.agg (G2 (.func (.func 82) #[] #[PT J2_6 0, PT J2_7 0]) one 0 four four).toArray)] H2 ?ho3 ?he3
 case ho3 => exact ac (fun w' h => eC call17 (CO.out w')) (ak (fun J => ⟨rfl, fun w' _ => ex_buildE2a rfl rfl⟩) (ak (fun J => ⟨rfl, fun w' _ => ex_buildFE rfl rfl rfl rfl rfl rfl rfl⟩) (ac (fun w' h => eC call17 (CF.out w')) (ac (fun w' h => eC call17 (CF.out w')) (ak (fun J => ⟨rfl, fun w' _ => ex_buildE2 rfl rfl rfl⟩) (ak (fun J => ⟨rfl, fun w' _ => ex_makeC rfl (mpn rfl)⟩) (ak (fun J => ⟨rfl, fun w' _ => ex_buildGE rfl rfl rfl rfl rfl⟩) trivial)))))))
 intro _ w3 H3
 clear H2
 refine zF (l := [8]) rfl ?_
 refine sG rfl (fun h => ex_storeT (vs := G2 (.func (.func 82) #[] #[PT J2_6 0, PT J2_7 0]) one 0 four four) h 2 rfl rfl rfl rfl As93 rfl (Nat.le_of_ble_eq_true rfl)) 2 [_, _, (_, G2 (.func (.func 82) #[] #[PT J2_6 0, PT J2_7 0]) one 0 four four)] H3 o1_0 fun w4 H4 => ?_
 clear H3
 refine zE (zA (wp_ret ?_))
 repeat (first | refine zK ?_ | refine zH ?_)
 have hf0 := var_T H4.out.1 2 rfl Ai93 As93 rfl
 refine bodyPost_ret (v := .agg (G2 (.func (.func 82) #[] #[PT J2_6 0, PT J2_7 0]) one 0 four four).toArray) (by simp [results, Tryz.results43, asAddr, hf0]) rfl ?_
 refine ⟨H4.out.2, J2_6, J2_7, 0, rfl, fun q hq => ?_, H4.out.1.pick [0, 1] rfl (by decide)⟩
 simp only [List.mem_cons, List.not_mem_nil, or_false] at hq
 rcases hq with rfl | rfl
 ·exact o2_6.out
 ·exact o2_7.out
theorem Mm.join {w w' : World} {L N' : List (Nat × List Value)} (h : Mm w L) (hb : Below w.heap.size w w') (hM : Mm w' N') (hN : ∀ q ∈ N', w.heap.size ≤ q.1) : Mm w' (N' ++ L) := by
 have h' := h.below hb
 refine ⟨fun p hp => ?_, List.pairwise_append.2 ⟨hM.nd, h'.nd, fun a ha b hb2 => ?_⟩⟩
 ·rcases List.mem_append.1 hp with q | q
  ·exact hM.blk p q
  ·exact h'.blk p q
 ·have h1 := hN a ha
  have h2 := (h.blk b hb2).1
  omega
set_option maxHeartbeats 2000000 in
theorem In_1 (one four qtr x y : Nat) (zb bz : Bool) (cf : ∀ w, Calls Tryz.prog 41 #[] w fun e w' => Below w.heap.size w w' ∧ ∃ g x y, e = .returned (.agg (G1 g (.func (.func 73) #[] #[PT x 0, PT y 0]) one four).toArray) ∧ (∀ q ∈ [(g, zV pB), (x, [PT g 0]), (y, zD qtr)], w.heap.size ≤ q.1) ∧ Mm w' [(g, zV pB), (x, [PT g 0]), (y, zD qtr)]) (ci : ∀ g bx cy w, Mm w [(g, zV pB), (2, dtab), (bx, [PT g 0]), (cy, zD qtr)] → Calls Tryz.prog 42 #[.agg (G1 g (.func (.func 73) #[] #[PT bx 0, PT cy 0]) one four).toArray, .agg (yC x y zb).toArray] w (Rt w (.bool bz))) (w : World) (hm : Mm w [(2, dtab)]) :
  Calls Tryz.prog 15 #[.agg (yC x y zb).toArray] w (Rt w (.bool bz)) := by
 have H0 : Hid (_ ∧ _) := ⟨hm, Below.refl w.heap.size w⟩
 clear hm
 have CF : Hid _ := cf
 clear cf
 have CI : Hid _ := ci
 clear ci
 go_enter Tryz.func15, Tryz.ntmps15
 refine wp_seq ?_
 refine zB 2 [.made (yC x y zb) 27, .q (.bool false)] (sB H0) ?ho1 ?he1
 case ho1 => exact am (zS rfl rfl) (ar trivial)
 intro J w1 l hM hl
 have H1 : Hid (Mm w1 ([(J 0, yC x y zb)] ++ _) ∧ _) := wB H0 hM hl [0]
 have o1_0 := vB H0 hM hl 0
 clear hM hl l
 generalize J 0 = J1_0 at H1 o1_0 ⊢
 clear J
 refine rN (wp_seq ?_)
 refine region_open (o0 := ?oz2) (by kernel_rfl) 2 [.q (.agg (yC x y zb).toArray)] ?pre2 ?F2 (fun v w' => ∃ (g x y : Nat), v = .agg (G1 g (.func (.func 73) #[] #[PT x 0, PT y 0]) one four).toArray ∧ (∀ q ∈ [(g, zV pB), (x, [PT g 0]), (y, zD qtr)], w1.heap.size ≤ q.1) ∧ Mm w' [(g, zV pB), (x, [PT g 0]), (y, zD qtr)]) ?hpre2 (fun v J => ?hF2) (fun v => ?hor2) ?hz2 ?hw2 ?hx2 ?hq2 ?he2
 case hpre2 => simp only [tk, tz]; rfl
 case hF2 => simp only [yF, Kind.val, Act.put, sa, sz, ss]; rfl
 case hor2 => kernel_rfl
 case hz2 => exact rfl
 case hw2 => exact rfl
 case hx2 =>
  intro w' hb
  refine eC call41 (Calls.mono (CF.out w') (fun e w2 hh => ?_))
  obtain ⟨hB, g, x, y, he, hg, hM⟩ := hh
  exact ⟨_, he, hB, g, x, y, rfl, fun q hq => Nat.le_trans hb.size (hg q hq), hM⟩
 case hq2 =>
  intro v w' hb i o hi ho
  rcases i with _ | i
  ·first | omega | (obtain rfl := Option.some.inj ho; exact ⟨_, rfl, rfl, by omega⟩)
  rcases i with _ | i
  ·obtain rfl := Option.some.inj ho
   exact ⟨_, rfl, rfl, ex_loadT (H1.out.1.below hb) 0 rfl rfl rfl Ai27 As27 rfl rfl⟩
  ·exact absurd ho (by simp)
 intro _ w2 hb hR
 obtain ⟨J2_g, J2_x, J2_y, rfl, hN, hM⟩ := hR
 have H2 : Hid (Mm w2 [(J2_g, zV pB), (J2_x, [PT J2_g 0]), (J2_y, zD qtr), (J1_0, yC x y zb), (2, dtab)] ∧ Below w.heap.size w w2) := ⟨H1.out.1.join hb hM hN, H1.out.2.trans (hb.mono H1.out.2.size)⟩
 clear hb hM hN H1
 refine zF (l := [2, 3]) rfl ?_
 refine rest_enter (d := 5) (R := fun vv w' => vv = .bool bz ∧ Below w2.heap.size w2 w') rfl rfl rfl (exec_call (args := #[.agg (G1 J2_g (.func (.func 73) #[] #[PT J2_x 0, PT J2_y 0]) one four).toArray, .agg (yC x y zb).toArray]) rfl call42 rfl (mpn rfl)) (Calls.mono (CI.out J2_g J2_x J2_y w2 (H2.out.1.pick [0, 4, 1, 2] rfl (by decide))) (fun e w2 hh => ⟨_, hh.1, rfl, hh.2⟩)) ?_
 rintro _ w3 ⟨rfl, hb⟩
 have H3 : Hid (_ ∧ _) := ⟨H2.out.1.below hb, H2.out.2.trans (hb.mono H2.out.2.size)⟩
 clear hb H2
 simp only [Act.put, sa, sz, ss]
 refine zG (d := 2) rfl rfl rfl rfl ?_
 simp only [Act.put, sa, sz, ss]
 refine zE (zA (wp_ret ?_))
 repeat (first | refine zK ?_ | refine zH ?_)
 refine bodyPost_ret (v := .bool bz) (by simp [results, Tryz.results15, go_sem, *]) rfl ?_
 exact ⟨rfl, H3.out.2⟩
set_option maxHeartbeats 2000000 in
theorem In_2 (one four qtx1 qty0 qty1 x0 x1 y0 y1 : Nat) (zb bz : Bool) (cf : ∀ w, Calls Tryz.prog 43 #[] w fun e w' => Below w.heap.size w w' ∧ ∃ g x, ∃ _y : Nat, e = .returned (.agg (G2 (.func (.func 82) #[] #[PT g 0, PT x 0]) one 0 four four).toArray) ∧ (∀ q ∈ [(g, cel [0, qtx1]), (x, cel [qty0, qty1])], w.heap.size ≤ q.1) ∧ Mm w' [(g, cel [0, qtx1]), (x, cel [qty0, qty1])]) (ci : ∀ bx cy w, Mm w [(2, dtab), (bx, cel [0, qtx1]), (cy, cel [qty0, qty1])] → Calls Tryz.prog 44 #[.agg (G2 (.func (.func 82) #[] #[PT bx 0, PT cy 0]) one 0 four four).toArray, .agg (pc2 x0 x1 y0 y1 zb).toArray] w (Rt w (.bool bz))) (w : World) (hm : Mm w [(2, dtab)]) :
  Calls Tryz.prog 16 #[.agg (pc2 x0 x1 y0 y1 zb).toArray] w (Rt w (.bool bz)) := by
 have H0 : Hid (_ ∧ _) := ⟨hm, Below.refl w.heap.size w⟩
 clear hm
 have CF : Hid _ := cf
 clear cf
 have CI : Hid _ := ci
 clear ci
 go_enter Tryz.func16, Tryz.ntmps16
 refine wp_seq ?_
 refine zB 2 [.made (pc2 x0 x1 y0 y1 zb) 35, .q (.bool false)] (sB H0) ?ho1 ?he1
 case ho1 => exact am (zS rfl rfl) (ar trivial)
 intro J w1 l hM hl
 have H1 : Hid (Mm w1 ([(J 0, pc2 x0 x1 y0 y1 zb)] ++ _) ∧ _) := wB H0 hM hl [0]
 have o1_0 := vB H0 hM hl 0
 clear hM hl l
 generalize J 0 = J1_0 at H1 o1_0 ⊢
 clear J
 refine rN (wp_seq ?_)
 refine region_open (o0 := ?oz2) (by kernel_rfl) 2 [.q (.agg (pc2 x0 x1 y0 y1 zb).toArray)] ?pre2 ?F2 (fun v w' => ∃ (g x _y : Nat), v = .agg (G2 (.func (.func 82) #[] #[PT g 0, PT x 0]) one 0 four four).toArray ∧ (∀ q ∈ [(g, cel [0, qtx1]), (x, cel [qty0, qty1])], w1.heap.size ≤ q.1) ∧ Mm w' [(g, cel [0, qtx1]), (x, cel [qty0, qty1])]) ?hpre2 (fun v J => ?hF2) (fun v => ?hor2) ?hz2 ?hw2 ?hx2 ?hq2 ?he2
 case hpre2 => simp only [tk, tz]; rfl
 case hF2 => simp only [yF, Kind.val, Act.put, sa, sz, ss]; rfl
 case hor2 => kernel_rfl
 case hz2 => exact rfl
 case hw2 => exact rfl
 case hx2 =>
  intro w' hb
  refine eC call43 (Calls.mono (CF.out w') (fun e w2 hh => ?_))
  obtain ⟨hB, g, x, y, he, hg, hM⟩ := hh
  exact ⟨_, he, hB, g, x, y, rfl, fun q hq => Nat.le_trans hb.size (hg q hq), hM⟩
 case hq2 =>
  intro v w' hb i o hi ho
  rcases i with _ | i
  ·first | omega | (obtain rfl := Option.some.inj ho; exact ⟨_, rfl, rfl, by omega⟩)
  rcases i with _ | i
  ·obtain rfl := Option.some.inj ho
   exact ⟨_, rfl, rfl, ex_loadT (H1.out.1.below hb) 0 rfl rfl rfl Ai35 As35 rfl rfl⟩
  ·exact absurd ho (by simp)
 intro _ w2 hb hR
 obtain ⟨J2_g, J2_x, J2_y, rfl, hN, hM⟩ := hR
 have H2 : Hid (Mm w2 [(J2_g, cel [0, qtx1]), (J2_x, cel [qty0, qty1]), (J1_0, pc2 x0 x1 y0 y1 zb), (2, dtab)] ∧ Below w.heap.size w w2) := ⟨H1.out.1.join hb hM hN, H1.out.2.trans (hb.mono H1.out.2.size)⟩
 clear hb hM hN H1
 refine zF (l := [2, 3]) rfl ?_
 refine rest_enter (d := 5) (R := fun vv w' => vv = .bool bz ∧ Below w2.heap.size w2 w') rfl rfl rfl (exec_call (args := #[.agg (G2 (.func (.func 82) #[] #[PT J2_g 0, PT J2_x 0]) one 0 four four).toArray, .agg (pc2 x0 x1 y0 y1 zb).toArray]) rfl call44 rfl (mpn rfl)) (Calls.mono (CI.out J2_g J2_x w2 (H2.out.1.pick [3, 0, 1] rfl (by decide))) (fun e w2 hh => ⟨_, hh.1, rfl, hh.2⟩)) ?_
 rintro _ w3 ⟨rfl, hb⟩
 have H3 : Hid (_ ∧ _) := ⟨H2.out.1.below hb, H2.out.2.trans (hb.mono H2.out.2.size)⟩
 clear hb H2
 simp only [Act.put, sa, sz, ss]
 refine zG (d := 2) rfl rfl rfl rfl ?_
 simp only [Act.put, sa, sz, ss]
 refine zE (zA (wp_ret ?_))
 repeat (first | refine zK ?_ | refine zH ?_)
 refine bodyPost_ret (v := .bool bz) (by simp [results, Tryz.results16, go_sem, *]) rfl ?_
 exact ⟨rfl, H3.out.2⟩
end Rg
end Go.Proofs.YtmanelnacifgcaaGreatDoor
end
section
namespace Go.Proofs.YtmanelnacifgcaaGreatDoor
namespace EC
open Ex in
def pairR {α : Type} (R : Rng α) : Rng (α × α) where
 add := fun f g => (R.add f.1 g.1, R.add f.2 g.2)
 mul := fun f g => (R.add (R.mul f.1 g.1) (R.neg (R.mul f.2 g.2)), R.add (R.mul f.1 g.2) (R.mul f.2 g.1))
 zero := (R.zero, R.zero)
 one := (R.one, R.zero)
 neg := fun f => (R.neg f.1, R.neg f.2)
 add_comm := fun f g => Prod.ext (R.add_comm _ _) (R.add_comm _ _)
 add_assoc := fun f g h => Prod.ext (R.add_assoc _ _ _) (R.add_assoc _ _ _)
 zero_add := fun f => Prod.ext (R.zero_add _) (R.zero_add _)
 neg_add := fun f => Prod.ext (R.neg_add _) (R.neg_add _)
 mul_comm := fun f g => Prod.ext
  (ring_f R f.1 f.2 g.1 g.2 R.zero R.zero R.zero R.zero (a (m (v 0) (v 2)) (n (m (v 1) (v 3)))) (a (m (v 2) (v 0)) (n (m (v 3) (v 1)))) (by decide +kernel))
  (ring_f R f.1 f.2 g.1 g.2 R.zero R.zero R.zero R.zero (a (m (v 0) (v 3)) (m (v 1) (v 2))) (a (m (v 2) (v 1)) (m (v 3) (v 0))) (by decide +kernel))
 mul_assoc := fun f g h => Prod.ext
  (ring_f R f.1 f.2 g.1 g.2 h.1 h.2 R.zero R.zero (a (m (a (m (v 0) (v 2)) (n (m (v 1) (v 3)))) (v 4)) (n (m (a (m (v 0) (v 3)) (m (v 1) (v 2))) (v 5)))) (a (m (v 0) (a (m (v 2) (v 4)) (n (m (v 3) (v 5))))) (n (m (v 1) (a (m (v 2) (v 5)) (m (v 3) (v 4)))))) (by decide +kernel))
  (ring_f R f.1 f.2 g.1 g.2 h.1 h.2 R.zero R.zero (a (m (a (m (v 0) (v 2)) (n (m (v 1) (v 3)))) (v 5)) (m (a (m (v 0) (v 3)) (m (v 1) (v 2))) (v 4))) (a (m (v 0) (a (m (v 2) (v 5)) (m (v 3) (v 4)))) (m (v 1) (a (m (v 2) (v 4)) (n (m (v 3) (v 5)))))) (by decide +kernel))
 one_mul := fun f => Prod.ext
  (ring_f R f.1 f.2 R.zero R.zero R.zero R.zero R.zero R.zero (a (m o (v 0)) (n (m z (v 1)))) (v 0) (by decide +kernel))
  (ring_f R f.1 f.2 R.zero R.zero R.zero R.zero R.zero R.zero (a (m o (v 1)) (m z (v 0))) (v 1) (by decide +kernel))
 mul_add := fun f g h => Prod.ext
  (ring_f R f.1 f.2 g.1 g.2 h.1 h.2 R.zero R.zero (a (m (v 0) (a (v 2) (v 4))) (n (m (v 1) (a (v 3) (v 5))))) (a (a (m (v 0) (v 2)) (n (m (v 1) (v 3)))) (a (m (v 0) (v 4)) (n (m (v 1) (v 5))))) (by decide +kernel))
  (ring_f R f.1 f.2 g.1 g.2 h.1 h.2 R.zero R.zero (a (m (v 0) (a (v 3) (v 5))) (m (v 1) (a (v 2) (v 4)))) (a (a (m (v 0) (v 3)) (m (v 1) (v 2))) (a (m (v 0) (v 5)) (m (v 1) (v 4)))) (by decide +kernel))
def pinv {α : Type} (R : Rng α) (inv : α → α) (a : α × α) : α × α :=
 (R.mul a.1 (inv (R.add (R.mul a.1 a.1) (R.mul a.2 a.2))), R.neg (R.mul a.2 (inv (R.add (R.mul a.1 a.1) (R.mul a.2 a.2)))))
open Ex in
theorem pinv_mul {α : Type} (R : Rng α) (inv : α → α) (hinv : ∀ a, a ≠ R.zero → R.mul (inv a) a = R.one) (hn : ∀ x y, R.add (R.mul x x) (R.mul y y) = R.zero → x = R.zero ∧ y = R.zero) (f : α × α) (ha : f ≠ (pairR R).zero) : (pairR R).mul (pinv R inv f) f = (pairR R).one := by
 obtain ⟨x, y⟩ := f
 have hd : R.add (R.mul x x) (R.mul y y) ≠ R.zero := fun h => ha (by
  obtain ⟨h1, h2⟩ := hn x y h
  rw [h1, h2]
  rfl)
 have e := hinv _ hd
 refine Prod.ext ?_ ?_
 ·refine Eq.trans (ring_f R x y (inv (R.add (R.mul x x) (R.mul y y))) R.zero R.zero R.zero R.zero R.zero (a (m (m (v 0) (v 2)) (v 0)) (n (m (n (m (v 1) (v 2))) (v 1)))) (m (v 2) (a (m (v 0) (v 0)) (m (v 1) (v 1)))) (by decide +kernel)) e
 ·exact ring_f R x y (inv (R.add (R.mul x x) (R.mul y y))) R.zero R.zero R.zero R.zero R.zero (a (m (m (v 0) (v 2)) (v 1)) (m (n (m (v 1) (v 2))) (v 0))) z (by decide +kernel)
end EC
end Go.Proofs.YtmanelnacifgcaaGreatDoor
end
section
namespace Go.Proofs.YtmanelnacifgcaaGreatDoor
namespace EC
section
variable {β : Type _} (O : Ops β)
def ptog (b : β) (p q : Tri β) : Tri β :=
 let xx := O.mul p.1 q.1
 let yy := O.mul p.2.1 q.2.1
 let zz := O.mul p.2.2 q.2.2
 let xy := osub O (O.mul (O.add p.1 p.2.1) (O.add q.1 q.2.1)) (O.add xx yy)
 let yz := osub O (O.mul (O.add p.2.1 p.2.2) (O.add q.2.1 q.2.2)) (O.add yy zz)
 let xz := osub O (O.mul (O.add p.1 p.2.2) (O.add q.1 q.2.2)) (O.add xx zz)
 let xx3 := o3 O xx
 let xz3 := o3 O (O.mul b xz)
 let zz3 := o3 O (O.mul b zz)
 let less := osub O yy zz3
 let more := O.add yy zz3
 (osub O (O.mul less xy) (O.mul yz xz3), O.add (O.mul less more) (O.mul xx3 xz3), O.add (O.mul more yz) (O.mul xx3 xy))
end
section
variable {α : Type} (C : Crv α)
open Ex in
theorem Crv.ptog_eq (A B : Tri α) : ptog (rops C.R) C.b A B = C.tog A B := by
 obtain ⟨x1, y1, z1⟩ := A
 obtain ⟨x2, y2, z2⟩ := B
 refine Prod.ext ?_ (Prod.ext ?_ ?_)
 ·exact ring_f C.R C.b x1 y1 z1 x2 y2 z2 C.b (ptog exo (v 0) (v 1, v 2, v 3) (v 4, v 5, v 6)).1 (EC.tog exo (v 0) (v 1, v 2, v 3) (v 4, v 5, v 6)).1 (by decide +kernel)
 ·exact ring_f C.R C.b x1 y1 z1 x2 y2 z2 C.b (ptog exo (v 0) (v 1, v 2, v 3) (v 4, v 5, v 6)).2.1 (EC.tog exo (v 0) (v 1, v 2, v 3) (v 4, v 5, v 6)).2.1 (by decide +kernel)
 ·exact ring_f C.R C.b x1 y1 z1 x2 y2 z2 C.b (ptog exo (v 0) (v 1, v 2, v 3) (v 4, v 5, v 6)).2.2 (EC.tog exo (v 0) (v 1, v 2, v 3) (v 4, v 5, v 6)).2.2 (by decide +kernel)
end
section
variable {α : Type} [DecidableEq α] (C : Crv α)
open Ex in
theorem Crv.twice_ne {x y : α} (h : C.on (some (x, y))) : C.add (some (x, y)) (some (x, y)) ≠ none := fun e => by
 have h' : C.R.mul y y = side C.R C.b x := h
 have hz := ring_c C.R C.b x x y y h' h' (EC.tog exo (v 0) (v 1, v 3, o) (v 1, v 3, o)).2.2 (m (a (v 3) (v 3)) (m (a (v 3) (v 3)) (a (v 3) (v 3)))) (by decide +kernel)
 have h2 := C.two (C.y_ne h)
 have hn : (C.tog (C.lift (some (x, y))) (C.lift (some (x, y)))).2.2 ≠ C.R.zero := fun e0 => C.ne h2 (C.ne h2 h2) (hz.symm.trans e0)
 unfold Crv.add at e
 rw [C.lower_some hn] at e
 cases e
/-! Digits of a word, and six words: what the rounds come to. -/
theorem Crv.times_step {P : Option (α × α)} (h : C.on P) (n d : Nat) : C.add (C.times P (16 * n)) (C.times P d) = C.times P (16 * n + d) := (C.times_add h _ _).symm
theorem Crv.times_two {P : Option (α × α)} (h : C.on P) (n : Nat) : C.add (C.times P n) (C.times P n) = C.times P (2 * n) := by
 rw [← C.times_add h, show n + n = 2 * n by omega]
theorem Crv.times_sixteen {P : Option (α × α)} (h : C.on P) (n : Nat) {T : Tri α} (hT : C.rep T (C.times P n)) : C.rep (C.twice (C.twice (C.twice (C.twice T)))) (C.times P (16 * n)) := by
 have o := fun k => C.times_on h k
 have h1 := C.rep_twice hT (o n)
 rw [C.times_two h] at h1
 have h2 := C.rep_twice h1 (o _)
 rw [C.times_two h] at h2
 have h3 := C.rep_twice h2 (o _)
 rw [C.times_two h] at h3
 have h4 := C.rep_twice h3 (o _)
 rw [C.times_two h] at h4
 rw [show 16 * n = 2 * (2 * (2 * (2 * n))) by omega]
 exact h4
end
end EC
end Go.Proofs.YtmanelnacifgcaaGreatDoor
end
section
namespace Go.Proofs.YtmanelnacifgcaaGreatDoor
namespace EC
/-- The bits of a word, from the highest; what stands ahead of them. -/
def wbit (s k : Nat) : Nat := s * 2 ^ k % 18446744073709551616 / 9223372036854775808
def wtop (s k : Nat) : Nat := s * 2 ^ k / 18446744073709551616
theorem wtop_next (s k : Nat) : wtop s (k + 1) = 2 * wtop s k + wbit s k := by
 unfold wtop wbit
 rw [Nat.pow_succ, ← Nat.mul_assoc]
 generalize s * 2 ^ k = q
 omega
theorem wbit_le (s k : Nat) : wbit s k ≤ 1 := by
 unfold wbit
 generalize s * 2 ^ k = q
 omega
theorem wtop_0 {s : Nat} (h : s < 18446744073709551616) : wtop s 0 = 0 := by
 unfold wtop
 omega
theorem wtop_64 (s : Nat) : wtop s 64 = s := by
 unfold wtop
 rw [show (2 : Nat) ^ 64 = 18446744073709551616 from rfl]
 omega
section
variable {α : Type} (C : Crv α)
theorem Crv.rep_tst {S : Tri α} {P : Option (α × α)} (h : C.rep S P) (x y : α) :
  (S.1 = C.R.mul x S.2.2 ∧ S.2.1 = C.R.mul (osub (rops C.R) C.R.zero y) S.2.2) ↔ P = some (x, C.R.neg y) := by
 have hy : osub (rops C.R) C.R.zero y = C.R.neg y := C.R.zero_add _
 rw [hy]
 obtain ⟨c, hc, rfl⟩ := h
 rcases P with _ | ⟨u, v⟩
 ·refine ⟨fun h => ?_, fun h => by cases h⟩
  exfalso
  have h2 : C.R.mul c C.R.one = C.R.mul (C.R.neg y) (C.R.mul c C.R.zero) := h.2
  rw [C.R.mul_one, C.R.mul_zero, C.R.mul_zero] at h2
  exact hc h2
 ·show (C.R.mul c u = C.R.mul x (C.R.mul c C.R.one) ∧ C.R.mul c v = C.R.mul (C.R.neg y) (C.R.mul c C.R.one)) ↔ _
  rw [C.R.mul_one, C.R.mul_comm x c, C.R.mul_comm (C.R.neg y) c]
  refine ⟨fun h => ?_, fun h => ?_⟩
  ·rw [C.can hc h.1, C.can hc h.2]
  ·cases h
   exact ⟨rfl, rfl⟩
end
section
variable {α : Type} [DecidableEq α] (C : Crv α)
def Crv.bw (s : Nat) (T : Tri α) : Nat → Tri α
 | 0 => C.lift none
 | k + 1 => if wbit s k = 1 then C.tog (C.twice (Crv.bw s T k)) T else C.twice (Crv.bw s T k)
theorem Crv.rep_bw {T : Tri α} {P : Option (α × α)} (hT : C.rep T P) (hP : C.on P) {s : Nat} (hs : s < 18446744073709551616) : ∀ k, C.rep (C.bw s T k) (C.times P (wtop s k))
 | 0 => by
  rw [wtop_0 hs]
  exact C.rep_lift none
 | k + 1 => by
  have h1 := C.rep_twice (Crv.rep_bw hT hP hs k) (C.times_on hP _)
  rw [C.times_two hP] at h1
  unfold Crv.bw
  rw [wtop_next]
  split
  ·rename_i hb
   rw [hb]
   exact C.rep_tog h1 hT (C.times_on hP _) hP
  ·rename_i hb
   have : wbit s k = 0 := by have := wbit_le s k; omega
   rw [this]
   exact h1
theorem Crv.bw_times {T : Tri α} {P : Option (α × α)} (hT : C.rep T P) (hP : C.on P) {s : Nat} (hs : s < 18446744073709551616) : C.rep (C.bw s T 64) (C.times P s) := by
 have h := C.rep_bw hT hP hs 64
 rw [wtop_64] at h
 exact h
/-- Whether a point is of the group, as the program tells it: n words in a row multiply it, and it is held against the turned one. -/
def Crv.ws (s : Nat) (T : Tri α) : Nat → Tri α
 | 0 => T
 | n + 1 => C.bw s (Crv.ws s T n) 64
theorem Crv.ws_rep {T : Tri α} {P : Option (α × α)} (hT : C.rep T P) (hP : C.on P) {s : Nat} (hs : s < 18446744073709551616) : ∀ n, C.rep (C.ws s T n) (C.times P (s ^ n))
 | 0 => by
  show C.rep T (C.times P 1)
  rw [C.times_one hP]
  exact hT
 | n + 1 => by
  have h := C.bw_times (Crv.ws_rep hT hP hs n) (C.times_on hP _) hs
  rw [← C.times_mul hP] at h
  exact h
end
end EC
end Go.Proofs.YtmanelnacifgcaaGreatDoor
end
