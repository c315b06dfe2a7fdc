/- Texts of the proof, joined. -/
import Derived.Test.YtahgdighnlekdaaGreatDoorP6
import Derived.BigRegion
set_option maxRecDepth 100000
section
namespace Go.Proofs.YtahgdighnlekdaaGreatDoor
open Go.RowKit
namespace Rg
theorem zero_1 {α : Type} {en : α → Nat} {fa fs fm : α → α → α} {fi : α → α} {z u b : α} {g : Nat} {tn : Value} (_C : Fd1 g en fa fs fm fi z) (w : World) (hm : Mm w [(g, zQ pB), (0, dtab)]) :
  Calls Tryz.prog 102 #[.agg (G1 g tn (en u) (en b)).toArray] w (Rt w (V [0, en u, 0])) := by
 have H0 : Hid (_ ∧ _) := ⟨hm, Below.refl w.heap.size w⟩
 clear hm
 go_enter Tryz.func102, Tryz.ntmps102
 refine wp_seq ?_
 refine zD 2 [.made (G1 g tn (en u) (en b)) 102, .made (cel [0, 0, 0]) 137] (sB H0) ?ho1 ?he1
 case ho1 => exact am (zN rfl rfl) (am (ex_madeTN rfl) trivial)
 intro J w1 l hM hl
 have H1 : Hid (Mm w1 ([(J 0, G1 g tn (en u) (en b)), (J 1, cel [0, 0, 0])] ++ _) ∧ _) := wB H0 hM hl [0, 1]
 have o1_0 := vB H0 hM hl 0
 have o1_1 := vB H0 hM hl 1
 clear hM hl l
 generalize J 0 = J1_0 at H1 o1_0 ⊢
 generalize J 1 = J1_1 at H1 o1_1 ⊢
 clear J
 refine rN (wp_seq ?_)
 refine zB 4 [.q (PT J1_0 0), .q (PT J1_0 5), .q (N (en u)), .q (V [0, en u, 0])] H1 ?ho2 ?he2
 case ho2 => exact ag (ag (bN 0 (ak (fun J => ⟨rfl, fun w' _ => ex_buildTNy rfl rfl⟩) trivial)))
 intro _ w2 H2
 clear H1
 refine zF (l := [4]) rfl ?_
 refine sF 1 [0, en u, 0] [_, _, _, _] H2 o1_1 As137 fun w3 H3 => ?_
 clear H2
 refine zE (zA (wp_ret ?_))
 repeat (first | refine zJ ?_ | refine zI ?_)
 have hf0 := cel_var (k := 3) H3.out.1 1 rfl Ai137 As137 rfl
 refine bodyPost_ret (v := V [0, en u, 0]) (by simp [results, Tryz.results102, asAddr, hf0]) rfl ?_
 exact ⟨rfl, H3.out.2⟩
theorem liftT_1 {α : Type} {en : α → Nat} {fa fs fm : α → α → α} {fi : α → α} {z u b : α} {g : Nat} {tn : Value} (C : Fd1 g en fa fs fm fi z) (x y : Nat) (w : World) (hm : Mm w [(g, zQ pB), (0, dtab)]) :
  Calls Tryz.prog 77 #[.agg (G1 g tn (en u) (en b)).toArray, .agg (pc1 x y true).toArray] w (Rt w (V [0, en u, 0])) := by
 have H0 : Hid (_ ∧ _) := ⟨hm, Below.refl w.heap.size w⟩
 clear hm
 go_enter Tryz.func77, Tryz.ntmps77
 refine wp_seq ?_
 refine zD 3 [.made (G1 g tn (en u) (en b)) 102, .made (pc1 x y true) 95, .made (cel [0, 0, 0]) 137] (sB H0) ?ho1 ?he1
 case ho1 => exact am (zN rfl rfl) (am (zN rfl rfl) (am (ex_madeTN rfl) trivial))
 intro J w1 l hM hl
 have H1 : Hid (Mm w1 ([(J 0, G1 g tn (en u) (en b)), (J 1, pc1 x y true), (J 2, cel [0, 0, 0])] ++ _) ∧ _) := wB H0 hM hl [0, 1, 2]
 have o1_0 := vB H0 hM hl 0
 have o1_1 := vB H0 hM hl 1
 have o1_2 := vB H0 hM hl 2
 clear hM hl l
 generalize J 0 = J1_0 at H1 o1_0 ⊢
 generalize J 1 = J1_1 at H1 o1_1 ⊢
 generalize J 2 = J1_2 at H1 o1_2 ⊢
 clear J
 refine rN (wp_seq (wp_seq ?_))
 refine zB 2 [.q (PT J1_1 12), .q (.bool true)] H1 ?ho2 ?he2
 case ho2 => exact ag (bC 1 Ai4 trivial)
 intro _ w2 H2
 clear H1
 refine rN (wp_cond_true rfl (wp_seq ?_))
 refine zB 2 [.q (.agg (G1 g tn (en u) (en b)).toArray), .call (V [0, en u, 0])] H2 ?ho3 ?he3
 case ho3 => exact bT 0 Ai102 As102 (ac (fun w' h => eC call102 (zero_1 C w' (h.two 3 4 rfl rfl (by decide)))) trivial)
 intro _ w3 H3
 clear H2
 refine zF (l := [2]) rfl ?_
 refine sF 2 [0, en u, 0] [_, _, _, _, _] H3 o1_2 As137 fun w4 H4 => ?_
 clear H3
 refine zE (zA (wp_ret ?_))
 repeat (first | refine zJ ?_ | refine zI ?_)
 have hf0 := cel_var (k := 3) H4.out.1 2 rfl Ai137 As137 rfl
 refine bodyPost_ret (v := V [0, en u, 0]) (by simp [results, Tryz.results77, asAddr, hf0]) rfl ?_
 exact ⟨rfl, H4.out.2⟩
theorem liftF_1 {α : Type} {en : α → Nat} {fa fs fm : α → α → α} {fi : α → α} {z u b : α} {g : Nat} {tn : Value} (_C : Fd1 g en fa fs fm fi z) (x y : Nat) (w : World) (hm : Mm w [(g, zQ pB), (0, dtab)]) :
  Calls Tryz.prog 77 #[.agg (G1 g tn (en u) (en b)).toArray, .agg (pc1 x y false).toArray] w (Rt w (V [x, y, en u])) := by
 have H0 : Hid (_ ∧ _) := ⟨hm, Below.refl w.heap.size w⟩
 clear hm
 go_enter Tryz.func77, Tryz.ntmps77
 refine wp_seq ?_
 refine zD 3 [.made (G1 g tn (en u) (en b)) 102, .made (pc1 x y false) 95, .made (cel [0, 0, 0]) 137] (sB H0) ?ho1 ?he1
 case ho1 => exact am (zN rfl rfl) (am (zN rfl rfl) (am (ex_madeTN rfl) trivial))
 intro J w1 l hM hl
 have H1 : Hid (Mm w1 ([(J 0, G1 g tn (en u) (en b)), (J 1, pc1 x y false), (J 2, cel [0, 0, 0])] ++ _) ∧ _) := wB H0 hM hl [0, 1, 2]
 have o1_0 := vB H0 hM hl 0
 have o1_1 := vB H0 hM hl 1
 have o1_2 := vB H0 hM hl 2
 clear hM hl l
 generalize J 0 = J1_0 at H1 o1_0 ⊢
 generalize J 1 = J1_1 at H1 o1_1 ⊢
 generalize J 2 = J1_2 at H1 o1_2 ⊢
 clear J
 refine rN (wp_seq (wp_seq ?_))
 refine zB 2 [.q (PT J1_1 12), .q (.bool false)] H1 ?ho2 ?he2
 case ho2 => exact ag (bC 1 Ai4 trivial)
 intro _ w2 H2
 clear H1
 refine rN (wp_cond_false rfl ?_)
 refine wp_skip (zA (wp_seq ?_))
 refine zB 8 [.q (PT J1_1 0), .q (N x), .q (PT J1_1 6), .q (N y), .q (PT J1_0 0), .q (PT J1_0 5), .q (N (en u)), .q (V [x, y, en u])] H2 ?ho3 ?he3
 case ho3 => exact ag (bN 1 (ag (bN 1 (ag (ag (bN 0 (ak (fun J => ⟨rfl, fun w' _ => ex_buildTN rfl rfl rfl rfl⟩) trivial)))))))
 intro _ w3 H3
 clear H2
 refine zF (l := [8]) rfl ?_
 refine sF 2 [x, y, en u] [_, _, _, _, _] H3 o1_2 As137 fun w4 H4 => ?_
 clear H3
 refine zE (zA (wp_ret ?_))
 repeat (first | refine zJ ?_ | refine zI ?_)
 have hf0 := cel_var (k := 3) H4.out.1 2 rfl Ai137 As137 rfl
 refine bodyPost_ret (v := V [x, y, en u]) (by simp [results, Tryz.results77, asAddr, hf0]) rfl ?_
 exact ⟨rfl, H4.out.2⟩
theorem isZero_1 (x y t : Nat) (bz : Bool) (hz : ∀ w, (Op.equalIn 10000 24 (N t) (N 0)).run Tryz.prog w = .ok bz w) (w : World) :
  Calls Tryz.prog 107 #[V [x, y, t]] w (Rt w (.bool bz)) := by
 have H0 : Hid (_ ∧ _) := ⟨Mm.nil w, Below.refl w.heap.size w⟩
 have HZ : Hid _ := hz
 clear hz
 go_enter Tryz.func107, Tryz.ntmps107
 refine wp_seq ?_
 refine zD 2 [.made (cel [x, y, t]) 137, .q (.bool false)] (sB H0) ?ho1 ?he1
 case ho1 => exact am (ex_boxA rfl rfl) (ar trivial)
 intro J w1 l hM hl
 have H1 : Hid (Mm w1 [(J 0, cel [x, y, t])] ∧ _) := wB H0 hM hl [0]
 have o1_0 := vB H0 hM hl 0
 clear hM hl l
 generalize J 0 = J1_0 at H1 o1_0 ⊢
 clear J
 refine rN (wp_seq ?_)
 refine zD 1 [.made zero6 24] (sB H1) ?ho2 ?he2
 case ho2 => exact am (zH rfl) trivial
 intro J w2 l hM hl
 have H2 : Hid (Mm w2 ([(J 0, zero6)] ++ _) ∧ _) := wB H1 hM hl [0]
 have o2_0 := vB H1 hM hl 0
 clear hM hl l H1
 generalize J 0 = J2_0 at H2 o2_0 ⊢
 clear J
 refine rN (wp_seq ?_)
 refine zB 5 [.q (PT J1_0 12), .q (N t), .q (N 0), .q (.bool bz), .q (.bool bz)] H2 ?ho3 ?he3
 case ho3 => exact ag (aq (fun w' h => ex_loadN (i := 2) h 1 rfl rfl rfl rfl) (aq (fun w' h => zU (v := 0) h 0 rfl rfl rfl zero_take) (ak (fun J => ⟨rfl, fun w' _ => exec_eq6 HZ.out rfl rfl rfl⟩) (ar trivial))))
 intro _ w3 H3
 clear H2
 refine rN (wp_ret ?_)
 repeat (first | refine zJ ?_ | refine zI ?_)
 refine bodyPost_ret (v := .bool bz) (by simp [results, Tryz.results107, go_sem, *]) rfl ?_
 exact ⟨rfl, H3.out.2⟩
theorem lowerT_1 {α : Type} {en : α → Nat} {fa fs fm : α → α → α} {fi : α → α} {z u b : α} {g : Nat} {tn : Value} (_C : Fd1 g en fa fs fm fi z) (x y t : Nat) (hz : ∀ w, (Op.equalIn 10000 24 (N t) (N 0)).run Tryz.prog w = .ok true w) (w : World) (hm : Mm w [(g, zQ pB), (0, dtab)]) :
  Calls Tryz.prog 75 #[.agg (G1 g tn (en u) (en b)).toArray, V [x, y, t]] w (Rt w (.agg (pc1 0 0 true).toArray)) := by
 have H0 : Hid (_ ∧ _) := ⟨hm, Below.refl w.heap.size w⟩
 clear hm
 have HZ : Hid _ := hz
 clear hz
 go_enter Tryz.func75, Tryz.ntmps75
 refine wp_seq ?_
 refine zD 3 [.made (G1 g tn (en u) (en b)) 102, .made (cel [x, y, t]) 137, .made (pc1 0 0 false) 95] (sB H0) ?ho1 ?he1
 case ho1 => exact am (zN rfl rfl) (am (ex_boxA rfl rfl) (am (ex_madePN rfl) trivial))
 intro J w1 l hM hl
 have H1 : Hid (Mm w1 ([(J 0, G1 g tn (en u) (en b)), (J 1, cel [x, y, t]), (J 2, pc1 0 0 false)] ++ _) ∧ _) := wB H0 hM hl [0, 1, 2]
 have o1_0 := vB H0 hM hl 0
 have o1_1 := vB H0 hM hl 1
 have o1_2 := vB H0 hM hl 2
 clear hM hl l
 generalize J 0 = J1_0 at H1 o1_0 ⊢
 generalize J 1 = J1_1 at H1 o1_1 ⊢
 generalize J 2 = J1_2 at H1 o1_2 ⊢
 clear J
 refine rN (wp_seq (wp_seq ?_))
 refine zB 2 [.q (V [x, y, t]), .call (.bool true)] H1 ?ho2 ?he2
 case ho2 => exact bA 0 3 1 Ai137 As137 (ac (fun w' h => eC call107 (isZero_1 _ _ _ true HZ.out w')) trivial)
 intro _ w2 H2
 clear H1
 refine rN (wp_cond_true rfl (wp_seq ?_))
 refine zB 1 [.q (.agg (pc1 0 0 true).toArray)] H2 ?ho3 ?he3
 case ho3 => exact ak (fun J => ⟨rfl, fun w' _ => ex_buildPNt rfl rfl⟩) trivial
 intro _ w3 H3
 clear H2
 refine zF (l := [1]) rfl ?_
 refine sG rfl (fun h => ex_storeT (vs := pc1 0 0 true) h 2 rfl rfl rfl rfl As95 rfl (Nat.le_of_ble_eq_true rfl)) 2 [_, _, (_, pc1 0 0 true), _, _] H3 o1_2 fun w4 H4 => ?_
 clear H3
 refine zE (zA (wp_ret ?_))
 repeat (first | refine zJ ?_ | refine zI ?_)
 have hf0 := var_T H4.out.1 2 rfl Ai95 As95 rfl
 refine bodyPost_ret (v := .agg (pc1 0 0 true).toArray) (by simp [results, Tryz.results75, asAddr, hf0]) rfl ?_
 exact ⟨rfl, H4.out.2⟩
theorem lowerF_1 {α : Type} {en : α → Nat} {fa fs fm : α → α → α} {fi : α → α} {z u b : α} {g : Nat} {tn : Value} (C : Fd1 g en fa fs fm fi z) (x y t : α) (hz : ∀ w, (Op.equalIn 10000 24 (N (en t)) (N 0)).run Tryz.prog w = .ok false w) (ht : t ≠ z) (w : World) (hm : Mm w [(g, zQ pB), (0, dtab)]) :
  Calls Tryz.prog 75 #[.agg (G1 g tn (en u) (en b)).toArray, V [en x, en y, en t]] w (Rt w (.agg (pc1 (en (fm x (fi t))) (en (fm y (fi t))) false).toArray)) := by
 have H0 : Hid (_ ∧ _) := ⟨hm, Below.refl w.heap.size w⟩
 clear hm
 have HZ : Hid _ := hz
 clear hz
 have HT : Hid _ := ht
 clear ht
 go_enter Tryz.func75, Tryz.ntmps75
 refine wp_seq ?_
 refine zD 3 [.made (G1 g tn (en u) (en b)) 102, .made (cel [en x, en y, en t]) 137, .made (pc1 0 0 false) 95] (sB H0) ?ho1 ?he1
 case ho1 => exact am (zN rfl rfl) (am (ex_boxA rfl rfl) (am (ex_madePN rfl) trivial))
 intro J w1 l hM hl
 have H1 : Hid (Mm w1 ([(J 0, G1 g tn (en u) (en b)), (J 1, cel [en x, en y, en t]), (J 2, pc1 0 0 false)] ++ _) ∧ _) := wB H0 hM hl [0, 1, 2]
 have o1_0 := vB H0 hM hl 0
 have o1_1 := vB H0 hM hl 1
 have o1_2 := vB H0 hM hl 2
 clear hM hl l
 generalize J 0 = J1_0 at H1 o1_0 ⊢
 generalize J 1 = J1_1 at H1 o1_1 ⊢
 generalize J 2 = J1_2 at H1 o1_2 ⊢
 clear J
 refine rN (wp_seq (wp_seq ?_))
 refine zB 2 [.q (V [en x, en y, en t]), .call (.bool false)] H1 ?ho2 ?he2
 case ho2 => exact bA 0 3 1 Ai137 As137 (ac (fun w' h => eC call107 (isZero_1 _ _ _ false HZ.out w')) trivial)
 intro _ w2 H2
 clear H1
 refine rN (wp_cond_false rfl ?_)
 refine wp_skip (zA (wp_seq ?_))
 refine zD 12 [.q (PT J1_0 0), .q (PT J1_0 3), .q (.func (.func 20) #[PT g 0] #[]), .q (PT J1_1 12), .q (N (en t)), .call (.tuple #[N (en (fi t)), .int .i64 0]), .q (.tuple #[N (en (fi t)), .int .i64 0]), .q (N (en (fi t))), .q (.int .i64 0), .made zero6 24, .laid 9 zero6 (zC (en (fi t))), .q (.int .i64 0)] (sB H2) ?ho3 ?he3 (hL := ?hL3)
 case hL3 => exact ⟨⟨_, rfl⟩, trivial⟩
 case ho3 => exact ag (ag (bC 0 Tryz.isAgg59 (ag (aq (fun w' h => ex_loadN (i := 2) h 1 rfl rfl rfl rfl) (ac (fun w' h => ⟨20, #[PT g 0, N (en t)], zO rfl call20 rfl (mpn rfl) rfl, C.ci _ w' HT.out (h.two 3 4 rfl rfl (by decide))⟩) (ar (ag (ag (am (zH rfl) (ak (fun J => ⟨rfl, rfl, rfl, fun w' h => zL h rfl rfl rfl⟩) (ar trivial)))))))))))
 intro J w3 l hM hl
 have H3 : Hid (Mm w3 ([(J 9, zC (en (fi t)))] ++ _) ∧ _) := wB H2 hM hl [9]
 have o3_9 := vB H2 hM hl 9
 clear hM hl l H2
 generalize J 9 = J3_9 at H3 o3_9 ⊢
 clear J
 refine rN (wp_seq ?_)
 refine zP 15 [.q (PT J1_0 0), .q (PT J1_0 2), .q (.func (.func 71) #[PT g 0] #[]), .q (PT J1_1 0), .q (N (en x)), .q (N (en (fi t))), .call (N (en (fm x (fi t)))), .q (PT J1_0 0), .q (PT J1_0 2), .q (.func (.func 71) #[PT g 0] #[]), .q (PT J1_1 6), .q (N (en y)), .q (N (en (fi t))), .call (N (en (fm y (fi t)))), .q (.agg (pc1 (en (fm x (fi t))) (en (fm y (fi t))) false).toArray)] H3 ?ho4 ?he4
 case ho4 => exact ag (ag (bC 1 Ai55 (ag (aq (fun w' h => ex_loadN (i := 0) h 2 rfl rfl rfl rfl) (bN 0 (ac (fun w' h => ⟨71, #[PT g 0, N (en x), N (en (fi t))], zO rfl call71 rfl (mpn rfl) rfl, C.cm _ _ w' (h.two 4 5 rfl rfl (by decide))⟩) (ag (ag (bC 1 Ai55 (ag (aq (fun w' h => ex_loadN (i := 1) h 2 rfl rfl rfl rfl) (bN 0 (ac (fun w' h => ⟨71, #[PT g 0, N (en y), N (en (fi t))], zO rfl call71 rfl (mpn rfl) rfl, C.cm _ _ w' (h.two 4 5 rfl rfl (by decide))⟩) (ak (fun J => ⟨rfl, fun w' _ => ex_buildPNxy rfl rfl rfl⟩) trivial))))))))))))))
 intro _ w4 H4
 clear H3
 refine zF (l := [15]) rfl ?_
 refine sG rfl (fun h => ex_storeT (vs := pc1 (en (fm x (fi t))) (en (fm y (fi t))) false) h 3 rfl rfl rfl rfl As95 rfl (Nat.le_of_ble_eq_true rfl)) 3 [_, _, _, (_, pc1 (en (fm x (fi t))) (en (fm y (fi t))) false), _, _] H4 o1_2 fun w5 H5 => ?_
 clear H4
 refine zE (zA (wp_ret ?_))
 repeat (first | refine zJ ?_ | refine zI ?_)
 have hf0 := var_T H5.out.1 3 rfl Ai95 As95 rfl
 refine bodyPost_ret (v := .agg (pc1 (en (fm x (fi t))) (en (fm y (fi t))) false).toArray) (by simp [results, Tryz.results75, asAddr, hf0]) rfl ?_
 exact ⟨rfl, H5.out.2⟩
set_option maxHeartbeats 4000000 in
theorem togetherV_1 {α : Type} {en : α → Nat} {fa fs fm : α → α → α} {fi : α → α} {z u b : α} {g : Nat} {tn : Value} (C : Fd1 g en fa fs fm fi z) (x1 y1 z1 x2 y2 z2 : α) (v1 v2 v3 v4 v5 v6 v7 v8 v9 v10 v11 v12 v13 v14 v15 v16 v17 v18 v19 v20 v21 v22 v23 v24 v25 v26 v27 v28 v29 v30 v31 v32 v33 v34 : α) (hv1 : fm x1 x2 = v1) (hv2 : fm y1 y2 = v2) (hv3 : fm z1 z2 = v3) (hv4 : fa x1 y1 = v4) (hv5 : fa x2 y2 = v5) (hv6 : fm v4 v5 = v6) (hv7 : fa v1 v2 = v7) (hv8 : fs v6 v7 = v8) (hv9 : fa y1 z1 = v9) (hv10 : fa y2 z2 = v10) (hv11 : fm v9 v10 = v11) (hv12 : fa v2 v3 = v12) (hv13 : fs v11 v12 = v13) (hv14 : fa x1 z1 = v14) (hv15 : fa x2 z2 = v15) (hv16 : fm v14 v15 = v16) (hv17 : fa v1 v3 = v17) (hv18 : fs v16 v17 = v18) (hv19 : fa (fa v1 v1) v1 = v19) (hv20 : fm b v18 = v20) (hv21 : fa (fa v20 v20) v20 = v21) (hv22 : fm b v3 = v22) (hv23 : fa (fa v22 v22) v22 = v23) (hv24 : fs v2 v23 = v24) (hv25 : fa v2 v23 = v25) (hv26 : fm v24 v8 = v26) (hv27 : fm v13 v21 = v27) (hv28 : fs v26 v27 = v28) (hv29 : fm v24 v25 = v29) (hv30 : fm v19 v21 = v30) (hv31 : fa v29 v30 = v31) (hv32 : fm v25 v13 = v32) (hv33 : fm v19 v8 = v33) (hv34 : fa v32 v33 = v34) (w : World) (hm : Mm w [(g, zQ pB), (0, dtab)]) :
  Calls Tryz.prog 76 #[.agg (G1 g tn (en u) (en b)).toArray, V [en x1, en y1, en z1], V [en x2, en y2, en z2]] w (Rt w (V [en v28, en v31, en v34])) := by
 have H0 : Hid (_ ∧ _) := ⟨hm, Below.refl w.heap.size w⟩
 clear hm
 have HV1 : Hid _ := hv1
 clear hv1
 have HV2 : Hid _ := hv2
 clear hv2
 have HV3 : Hid _ := hv3
 clear hv3
 have HV4 : Hid _ := hv4
 clear hv4
 have HV5 : Hid _ := hv5
 clear hv5
 have HV6 : Hid _ := hv6
 clear hv6
 have HV7 : Hid _ := hv7
 clear hv7
 have HV8 : Hid _ := hv8
 clear hv8
 have HV9 : Hid _ := hv9
 clear hv9
 have HV10 : Hid _ := hv10
 clear hv10
 have HV11 : Hid _ := hv11
 clear hv11
 have HV12 : Hid _ := hv12
 clear hv12
 have HV13 : Hid _ := hv13
 clear hv13
 have HV14 : Hid _ := hv14
 clear hv14
 have HV15 : Hid _ := hv15
 clear hv15
 have HV16 : Hid _ := hv16
 clear hv16
 have HV17 : Hid _ := hv17
 clear hv17
 have HV18 : Hid _ := hv18
 clear hv18
 have HV19 : Hid _ := hv19
 clear hv19
 have HV20 : Hid _ := hv20
 clear hv20
 have HV21 : Hid _ := hv21
 clear hv21
 have HV22 : Hid _ := hv22
 clear hv22
 have HV23 : Hid _ := hv23
 clear hv23
 have HV24 : Hid _ := hv24
 clear hv24
 have HV25 : Hid _ := hv25
 clear hv25
 have HV26 : Hid _ := hv26
 clear hv26
 have HV27 : Hid _ := hv27
 clear hv27
 have HV28 : Hid _ := hv28
 clear hv28
 have HV29 : Hid _ := hv29
 clear hv29
 have HV30 : Hid _ := hv30
 clear hv30
 have HV31 : Hid _ := hv31
 clear hv31
 have HV32 : Hid _ := hv32
 clear hv32
 have HV33 : Hid _ := hv33
 clear hv33
 have HV34 : Hid _ := hv34
 clear hv34
 go_enter Tryz.func76, Tryz.ntmps76
 refine wp_seq ?_
 refine zD 4 [.made (G1 g tn (en u) (en b)) 102, .made (cel [en x1, en y1, en z1]) 137, .made (cel [en x2, en y2, en z2]) 137, .made (cel [0, 0, 0]) 137] (sB H0) ?ho1 ?he1
 case ho1 => exact am (zN rfl rfl) (am (ex_boxA rfl rfl) (am (ex_boxA rfl rfl) (am (ex_madeTN rfl) trivial)))
 intro J w1 l hM hl
 have H1 : Hid (Mm w1 ([(J 0, G1 g tn (en u) (en b)), (J 1, cel [en x1, en y1, en z1]), (J 2, cel [en x2, en y2, en z2]), (J 3, cel [0, 0, 0])] ++ _) ∧ _) := wB H0 hM hl [0, 1, 2, 3]
 have o1_0 := vB H0 hM hl 0
 have o1_1 := vB H0 hM hl 1
 have o1_2 := vB H0 hM hl 2
 have o1_3 := vB H0 hM hl 3
 clear hM hl l
 generalize J 0 = J1_0 at H1 o1_0 ⊢
 generalize J 1 = J1_1 at H1 o1_1 ⊢
 generalize J 2 = J1_2 at H1 o1_2 ⊢
 generalize J 3 = J1_3 at H1 o1_3 ⊢
 clear J
 refine rN (wp_seq ?_)
 refine walk_anyA 30 [.q (PT J1_0 0), .q (PT J1_0 2), .q (.func (.func 71) #[PT g 0] #[]), .q (PT J1_1 0), .q (N (en x1)), .q (PT J1_2 0), .q (N (en x2)), .call (N (en v1)), .q (PT J1_0 0), .q (PT J1_0 2), .q (.func (.func 71) #[PT g 0] #[]), .q (PT J1_1 6), .q (N (en y1)), .q (PT J1_2 6), .q (N (en y2)), .call (N (en v2)), .q (PT J1_0 0), .q (PT J1_0 2), .q (.func (.func 71) #[PT g 0] #[]), .q (PT J1_1 12), .q (N (en z1)), .q (PT J1_2 12), .q (N (en z2)), .call (N (en v3)), .made zero6 24, .made zero6 24, .made zero6 24, .laid 24 zero6 (zC (en v1)), .laid 25 zero6 (zC (en v2)), .laid 26 zero6 (zC (en v3))] (sB H1) ?ho2 ?he2 (hL := ?hL2)
 case hL2 => exact ⟨⟨_, rfl⟩, ⟨_, rfl⟩, ⟨_, rfl⟩, trivial⟩
 case ho2 => exact ag (ag (bC 0 Ai55 (ag (aq (fun w' h => ex_loadN (i := 0) h 1 rfl rfl rfl rfl) (ag (aq (fun w' h => ex_loadN (i := 0) h 2 rfl rfl rfl rfl) (ac (fun w' h => ⟨71, #[PT g 0, N (en x1), N (en x2)], zO rfl call71 rfl (mpn rfl) rfl, C.km HV1.out w' (h.two 4 5 rfl rfl (by decide))⟩) (ag (ag (bC 0 Ai55 (ag (aq (fun w' h => ex_loadN (i := 1) h 1 rfl rfl rfl rfl) (ag (aq (fun w' h => ex_loadN (i := 1) h 2 rfl rfl rfl rfl) (ac (fun w' h => ⟨71, #[PT g 0, N (en y1), N (en y2)], zO rfl call71 rfl (mpn rfl) rfl, C.km HV2.out w' (h.two 4 5 rfl rfl (by decide))⟩) (ag (ag (bC 0 Ai55 (ag (aq (fun w' h => ex_loadN (i := 2) h 1 rfl rfl rfl rfl) (ag (aq (fun w' h => ex_loadN (i := 2) h 2 rfl rfl rfl rfl) (ac (fun w' h => ⟨71, #[PT g 0, N (en z1), N (en z2)], zO rfl call71 rfl (mpn rfl) rfl, C.km HV3.out w' (h.two 4 5 rfl rfl (by decide))⟩) (am (zH rfl) (am (zH rfl) (am (zH rfl) (ak (fun J => ⟨rfl, rfl, rfl, fun w' h => zL h rfl rfl rfl⟩) (ak (fun J => ⟨rfl, rfl, rfl, fun w' h => zL h rfl rfl rfl⟩) (ak (fun J => ⟨rfl, rfl, rfl, fun w' h => zL h rfl rfl rfl⟩) trivial)))))))))))))))))))))))))))))
 intro J w2 l hM hl
 have H2 : Hid (Mm w2 ([(J 24, zC (en v1)), (J 25, zC (en v2)), (J 26, zC (en v3))] ++ _) ∧ _) := wB H1 hM hl [24, 25, 26]
 have o2_24 := vB H1 hM hl 24
 have o2_25 := vB H1 hM hl 25
 have o2_26 := vB H1 hM hl 26
 clear hM hl l H1
 generalize J 24 = J2_24 at H2 o2_24 ⊢
 generalize J 25 = J2_25 at H2 o2_25 ⊢
 generalize J 26 = J2_26 at H2 o2_26 ⊢
 clear J
 refine rN (wp_seq ?_)
 refine walk_anyA 32 [.q (PT J1_0 0), .q (PT J1_0 1), .q (.func (.func 33) #[PT g 0] #[]), .q (PT J1_0 0), .q (PT J1_0 2), .q (.func (.func 71) #[PT g 0] #[]), .q (PT J1_0 0), .q (PT J1_0 0), .q (.func (.func 17) #[PT g 0] #[]), .q (PT J1_1 0), .q (N (en x1)), .q (PT J1_1 6), .q (N (en y1)), .call (N (en v4)), .q (PT J1_0 0), .q (PT J1_0 0), .q (.func (.func 17) #[PT g 0] #[]), .q (PT J1_2 0), .q (N (en x2)), .q (PT J1_2 6), .q (N (en y2)), .call (N (en v5)), .call (N (en v6)), .q (PT J1_0 0), .q (PT J1_0 0), .q (.func (.func 17) #[PT g 0] #[]), .q (N (en v1)), .q (N (en v2)), .call (N (en v7)), .call (N (en v8)), .made zero6 24, .laid 30 zero6 (zC (en v8))] (sB H2) ?ho3 ?he3 (hL := ?hL3)
 case hL3 => exact ⟨⟨_, rfl⟩, trivial⟩
 case ho3 => exact ag (ag (bC 3 Ai55 (ag (ag (bC 3 Ai55 (ag (ag (bC 3 Ai55 (ag (aq (fun w' h => ex_loadN (i := 0) h 4 rfl rfl rfl rfl) (ag (aq (fun w' h => ex_loadN (i := 1) h 4 rfl rfl rfl rfl) (ac (fun w' h => ⟨17, #[PT g 0, N (en x1), N (en y1)], zO rfl call17 rfl (mpn rfl) rfl, C.ka HV4.out w' (h.two 7 8 rfl rfl (by decide))⟩) (ag (ag (bC 3 Ai55 (ag (aq (fun w' h => ex_loadN (i := 0) h 5 rfl rfl rfl rfl) (ag (aq (fun w' h => ex_loadN (i := 1) h 5 rfl rfl rfl rfl) (ac (fun w' h => ⟨17, #[PT g 0, N (en x2), N (en y2)], zO rfl call17 rfl (mpn rfl) rfl, C.ka HV5.out w' (h.two 7 8 rfl rfl (by decide))⟩) (ac (fun w' h => ⟨71, #[PT g 0, N (en v4), N (en v5)], zO rfl call71 rfl (mpn rfl) rfl, C.km HV6.out w' (h.two 7 8 rfl rfl (by decide))⟩) (ag (ag (bC 3 Ai55 (bN 0 (bN 1 (ac (fun w' h => ⟨17, #[PT g 0, N (en v1), N (en v2)], zO rfl call17 rfl (mpn rfl) rfl, C.ka HV7.out w' (h.two 7 8 rfl rfl (by decide))⟩) (ac (fun w' h => ⟨33, #[PT g 0, N (en v6), N (en v7)], zO rfl call33 rfl (mpn rfl) rfl, C.ks HV8.out w' (h.two 7 8 rfl rfl (by decide))⟩) (am (zH rfl) (ak (fun J => ⟨rfl, rfl, rfl, fun w' h => zL h rfl rfl rfl⟩) trivial)))))))))))))))))))))))))))))))
 intro J w3 l hM hl
 have H3 : Hid (Mm w3 ([(J 30, zC (en v8))] ++ _) ∧ _) := wB H2 hM hl [30]
 have o3_30 := vB H2 hM hl 30
 clear hM hl l H2
 generalize J 30 = J3_30 at H3 o3_30 ⊢
 clear J
 refine rN (wp_seq ?_)
 refine walk_anyA 32 [.q (PT J1_0 0), .q (PT J1_0 1), .q (.func (.func 33) #[PT g 0] #[]), .q (PT J1_0 0), .q (PT J1_0 2), .q (.func (.func 71) #[PT g 0] #[]), .q (PT J1_0 0), .q (PT J1_0 0), .q (.func (.func 17) #[PT g 0] #[]), .q (PT J1_1 6), .q (N (en y1)), .q (PT J1_1 12), .q (N (en z1)), .call (N (en v9)), .q (PT J1_0 0), .q (PT J1_0 0), .q (.func (.func 17) #[PT g 0] #[]), .q (PT J1_2 6), .q (N (en y2)), .q (PT J1_2 12), .q (N (en z2)), .call (N (en v10)), .call (N (en v11)), .q (PT J1_0 0), .q (PT J1_0 0), .q (.func (.func 17) #[PT g 0] #[]), .q (N (en v2)), .q (N (en v3)), .call (N (en v12)), .call (N (en v13)), .made zero6 24, .laid 30 zero6 (zC (en v13))] (sB H3) ?ho4 ?he4 (hL := ?hL4)
 case hL4 => exact ⟨⟨_, rfl⟩, trivial⟩
 case ho4 => exact ag (ag (bC 4 Ai55 (ag (ag (bC 4 Ai55 (ag (ag (bC 4 Ai55 (ag (aq (fun w' h => ex_loadN (i := 1) h 5 rfl rfl rfl rfl) (ag (aq (fun w' h => ex_loadN (i := 2) h 5 rfl rfl rfl rfl) (ac (fun w' h => ⟨17, #[PT g 0, N (en y1), N (en z1)], zO rfl call17 rfl (mpn rfl) rfl, C.ka HV9.out w' (h.two 8 9 rfl rfl (by decide))⟩) (ag (ag (bC 4 Ai55 (ag (aq (fun w' h => ex_loadN (i := 1) h 6 rfl rfl rfl rfl) (ag (aq (fun w' h => ex_loadN (i := 2) h 6 rfl rfl rfl rfl) (ac (fun w' h => ⟨17, #[PT g 0, N (en y2), N (en z2)], zO rfl call17 rfl (mpn rfl) rfl, C.ka HV10.out w' (h.two 8 9 rfl rfl (by decide))⟩) (ac (fun w' h => ⟨71, #[PT g 0, N (en v9), N (en v10)], zO rfl call71 rfl (mpn rfl) rfl, C.km HV11.out w' (h.two 8 9 rfl rfl (by decide))⟩) (ag (ag (bC 4 Ai55 (bN 2 (bN 3 (ac (fun w' h => ⟨17, #[PT g 0, N (en v2), N (en v3)], zO rfl call17 rfl (mpn rfl) rfl, C.ka HV12.out w' (h.two 8 9 rfl rfl (by decide))⟩) (ac (fun w' h => ⟨33, #[PT g 0, N (en v11), N (en v12)], zO rfl call33 rfl (mpn rfl) rfl, C.ks HV13.out w' (h.two 8 9 rfl rfl (by decide))⟩) (am (zH rfl) (ak (fun J => ⟨rfl, rfl, rfl, fun w' h => zL h rfl rfl rfl⟩) trivial)))))))))))))))))))))))))))))))
 intro J w4 l hM hl
 have H4 : Hid (Mm w4 ([(J 30, zC (en v13))] ++ _) ∧ _) := wB H3 hM hl [30]
 have o4_30 := vB H3 hM hl 30
 clear hM hl l H3
 generalize J 30 = J4_30 at H4 o4_30 ⊢
 clear J
 refine rN (wp_seq ?_)
 refine walk_anyA 32 [.q (PT J1_0 0), .q (PT J1_0 1), .q (.func (.func 33) #[PT g 0] #[]), .q (PT J1_0 0), .q (PT J1_0 2), .q (.func (.func 71) #[PT g 0] #[]), .q (PT J1_0 0), .q (PT J1_0 0), .q (.func (.func 17) #[PT g 0] #[]), .q (PT J1_1 0), .q (N (en x1)), .q (PT J1_1 12), .q (N (en z1)), .call (N (en v14)), .q (PT J1_0 0), .q (PT J1_0 0), .q (.func (.func 17) #[PT g 0] #[]), .q (PT J1_2 0), .q (N (en x2)), .q (PT J1_2 12), .q (N (en z2)), .call (N (en v15)), .call (N (en v16)), .q (PT J1_0 0), .q (PT J1_0 0), .q (.func (.func 17) #[PT g 0] #[]), .q (N (en v1)), .q (N (en v3)), .call (N (en v17)), .call (N (en v18)), .made zero6 24, .laid 30 zero6 (zC (en v18))] (sB H4) ?ho5 ?he5 (hL := ?hL5)
 case hL5 => exact ⟨⟨_, rfl⟩, trivial⟩
 case ho5 => exact ag (ag (bC 5 Ai55 (ag (ag (bC 5 Ai55 (ag (ag (bC 5 Ai55 (ag (aq (fun w' h => ex_loadN (i := 0) h 6 rfl rfl rfl rfl) (ag (aq (fun w' h => ex_loadN (i := 2) h 6 rfl rfl rfl rfl) (ac (fun w' h => ⟨17, #[PT g 0, N (en x1), N (en z1)], zO rfl call17 rfl (mpn rfl) rfl, C.ka HV14.out w' (h.two 9 10 rfl rfl (by decide))⟩) (ag (ag (bC 5 Ai55 (ag (aq (fun w' h => ex_loadN (i := 0) h 7 rfl rfl rfl rfl) (ag (aq (fun w' h => ex_loadN (i := 2) h 7 rfl rfl rfl rfl) (ac (fun w' h => ⟨17, #[PT g 0, N (en x2), N (en z2)], zO rfl call17 rfl (mpn rfl) rfl, C.ka HV15.out w' (h.two 9 10 rfl rfl (by decide))⟩) (ac (fun w' h => ⟨71, #[PT g 0, N (en v14), N (en v15)], zO rfl call71 rfl (mpn rfl) rfl, C.km HV16.out w' (h.two 9 10 rfl rfl (by decide))⟩) (ag (ag (bC 5 Ai55 (bN 2 (bN 4 (ac (fun w' h => ⟨17, #[PT g 0, N (en v1), N (en v3)], zO rfl call17 rfl (mpn rfl) rfl, C.ka HV17.out w' (h.two 9 10 rfl rfl (by decide))⟩) (ac (fun w' h => ⟨33, #[PT g 0, N (en v16), N (en v17)], zO rfl call33 rfl (mpn rfl) rfl, C.ks HV18.out w' (h.two 9 10 rfl rfl (by decide))⟩) (am (zH rfl) (ak (fun J => ⟨rfl, rfl, rfl, fun w' h => zL h rfl rfl rfl⟩) trivial)))))))))))))))))))))))))))))))
 intro J w5 l hM hl
 have H5 : Hid (Mm w5 ([(J 30, zC (en v18))] ++ _) ∧ _) := wB H4 hM hl [30]
 have o5_30 := vB H4 hM hl 30
 clear hM hl l H4
 generalize J 30 = J5_30 at H5 o5_30 ⊢
 clear J
 refine rN (wp_seq ?_)
 refine walk_anyA 27 [.q (.agg (G1 g tn (en u) (en b)).toArray), .q (N (en v1)), .call (N (en v19)), .q (.agg (G1 g tn (en u) (en b)).toArray), .q (PT J1_0 0), .q (PT J1_0 2), .q (.func (.func 71) #[PT g 0] #[]), .q (PT J1_0 11), .q (N (en b)), .q (N (en v18)), .call (N (en v20)), .call (N (en v21)), .q (.agg (G1 g tn (en u) (en b)).toArray), .q (PT J1_0 0), .q (PT J1_0 2), .q (.func (.func 71) #[PT g 0] #[]), .q (PT J1_0 11), .q (N (en b)), .q (N (en v3)), .call (N (en v22)), .call (N (en v23)), .made zero6 24, .made zero6 24, .made zero6 24, .laid 21 zero6 (zC (en v19)), .laid 22 zero6 (zC (en v21)), .laid 23 zero6 (zC (en v23))] (sB H5) ?ho6 ?he6 (hL := ?hL6)
 case hL6 => exact ⟨⟨_, rfl⟩, ⟨_, rfl⟩, ⟨_, rfl⟩, trivial⟩
 case ho6 => exact bT 6 Ai102 As102 (bN 3 (ac (fun w' h => eC call108 (thriceN_1 C HV19.out w' (h.two 10 11 rfl rfl (by decide)))) (bT 6 Ai102 As102 (ag (ag (bC 6 Ai55 (ag (bN 6 (bN 0 (ac (fun w' h => ⟨71, #[PT g 0, N (en b), N (en v18)], zO rfl call71 rfl (mpn rfl) rfl, C.km HV20.out w' (h.two 10 11 rfl rfl (by decide))⟩) (ac (fun w' h => eC call108 (thriceN_1 C HV21.out w' (h.two 10 11 rfl rfl (by decide)))) (bT 6 Ai102 As102 (ag (ag (bC 6 Ai55 (ag (bN 6 (bN 5 (ac (fun w' h => ⟨71, #[PT g 0, N (en b), N (en v3)], zO rfl call71 rfl (mpn rfl) rfl, C.km HV22.out w' (h.two 10 11 rfl rfl (by decide))⟩) (ac (fun w' h => eC call108 (thriceN_1 C HV23.out w' (h.two 10 11 rfl rfl (by decide)))) (am (zH rfl) (am (zH rfl) (am (zH rfl) (ak (fun J => ⟨rfl, rfl, rfl, fun w' h => zL h rfl rfl rfl⟩) (ak (fun J => ⟨rfl, rfl, rfl, fun w' h => zL h rfl rfl rfl⟩) (ak (fun J => ⟨rfl, rfl, rfl, fun w' h => zL h rfl rfl rfl⟩) trivial))))))))))))))))))))))))))
 intro J w6 l hM hl
 have H6 : Hid (Mm w6 ([(J 21, zC (en v19)), (J 22, zC (en v21)), (J 23, zC (en v23))] ++ _) ∧ _) := wB H5 hM hl [21, 22, 23]
 have o6_21 := vB H5 hM hl 21
 have o6_22 := vB H5 hM hl 22
 have o6_23 := vB H5 hM hl 23
 clear hM hl l H5
 generalize J 21 = J6_21 at H6 o6_21 ⊢
 generalize J 22 = J6_22 at H6 o6_22 ⊢
 generalize J 23 = J6_23 at H6 o6_23 ⊢
 clear J
 refine rN (wp_seq ?_)
 refine walk_anyA 16 [.q (PT J1_0 0), .q (PT J1_0 1), .q (.func (.func 33) #[PT g 0] #[]), .q (N (en v2)), .q (N (en v23)), .call (N (en v24)), .q (PT J1_0 0), .q (PT J1_0 0), .q (.func (.func 17) #[PT g 0] #[]), .q (N (en v2)), .q (N (en v23)), .call (N (en v25)), .made zero6 24, .made zero6 24, .laid 12 zero6 (zC (en v24)), .laid 13 zero6 (zC (en v25))] (sB H6) ?ho7 ?he7 (hL := ?hL7)
 case hL7 => exact ⟨⟨_, rfl⟩, ⟨_, rfl⟩, trivial⟩
 case ho7 => exact ag (ag (bC 9 Ai55 (bN 7 (bN 2 (ac (fun w' h => ⟨33, #[PT g 0, N (en v2), N (en v23)], zO rfl call33 rfl (mpn rfl) rfl, C.ks HV24.out w' (h.two 13 14 rfl rfl (by decide))⟩) (ag (ag (bC 9 Ai55 (bN 7 (bN 2 (ac (fun w' h => ⟨17, #[PT g 0, N (en v2), N (en v23)], zO rfl call17 rfl (mpn rfl) rfl, C.ka HV25.out w' (h.two 13 14 rfl rfl (by decide))⟩) (am (zH rfl) (am (zH rfl) (ak (fun J => ⟨rfl, rfl, rfl, fun w' h => zL h rfl rfl rfl⟩) (ak (fun J => ⟨rfl, rfl, rfl, fun w' h => zL h rfl rfl rfl⟩) trivial)))))))))))))))
 intro J w7 l hM hl
 have H7 : Hid (Mm w7 ([(J 12, zC (en v24)), (J 13, zC (en v25))] ++ _) ∧ _) := wB H6 hM hl [12, 13]
 have o7_12 := vB H6 hM hl 12
 have o7_13 := vB H6 hM hl 13
 clear hM hl l H6
 generalize J 12 = J7_12 at H7 o7_12 ⊢
 generalize J 13 = J7_13 at H7 o7_13 ⊢
 clear J
 refine rN (wp_seq ?_)
 refine zP 49 [.q (PT J1_0 0), .q (PT J1_0 1), .q (.func (.func 33) #[PT g 0] #[]), .q (PT J1_0 0), .q (PT J1_0 2), .q (.func (.func 71) #[PT g 0] #[]), .q (N (en v24)), .q (N (en v8)), .call (N (en v26)), .q (PT J1_0 0), .q (PT J1_0 2), .q (.func (.func 71) #[PT g 0] #[]), .q (N (en v13)), .q (N (en v21)), .call (N (en v27)), .call (N (en v28)), .q (PT J1_0 0), .q (PT J1_0 0), .q (.func (.func 17) #[PT g 0] #[]), .q (PT J1_0 0), .q (PT J1_0 2), .q (.func (.func 71) #[PT g 0] #[]), .q (N (en v24)), .q (N (en v25)), .call (N (en v29)), .q (PT J1_0 0), .q (PT J1_0 2), .q (.func (.func 71) #[PT g 0] #[]), .q (N (en v19)), .q (N (en v21)), .call (N (en v30)), .call (N (en v31)), .q (PT J1_0 0), .q (PT J1_0 0), .q (.func (.func 17) #[PT g 0] #[]), .q (PT J1_0 0), .q (PT J1_0 2), .q (.func (.func 71) #[PT g 0] #[]), .q (N (en v25)), .q (N (en v13)), .call (N (en v32)), .q (PT J1_0 0), .q (PT J1_0 2), .q (.func (.func 71) #[PT g 0] #[]), .q (N (en v19)), .q (N (en v8)), .call (N (en v33)), .call (N (en v34)), .q (V [en v28, en v31, en v34])] H7 ?ho8 ?he8 (hL := ?hL8)
 case hL8 => exact trivial
 case ho8 => exact ag (ag (bC 11 Ai55 (ag (ag (bC 11 Ai55 (bN 0 (bN 7 (ac (fun w' h => ⟨71, #[PT g 0, N (en v24), N (en v8)], zO rfl call71 rfl (mpn rfl) rfl, C.km HV26.out w' (h.two 15 16 rfl rfl (by decide))⟩) (ag (ag (bC 11 Ai55 (bN 6 (bN 3 (ac (fun w' h => ⟨71, #[PT g 0, N (en v13), N (en v21)], zO rfl call71 rfl (mpn rfl) rfl, C.km HV27.out w' (h.two 15 16 rfl rfl (by decide))⟩) (ac (fun w' h => ⟨33, #[PT g 0, N (en v26), N (en v27)], zO rfl call33 rfl (mpn rfl) rfl, C.ks HV28.out w' (h.two 15 16 rfl rfl (by decide))⟩) (ag (ag (bC 11 Ai55 (ag (ag (bC 11 Ai55 (bN 0 (bN 1 (ac (fun w' h => ⟨71, #[PT g 0, N (en v24), N (en v25)], zO rfl call71 rfl (mpn rfl) rfl, C.km HV29.out w' (h.two 15 16 rfl rfl (by decide))⟩) (ag (ag (bC 11 Ai55 (bN 2 (bN 3 (ac (fun w' h => ⟨71, #[PT g 0, N (en v19), N (en v21)], zO rfl call71 rfl (mpn rfl) rfl, C.km HV30.out w' (h.two 15 16 rfl rfl (by decide))⟩) (ac (fun w' h => ⟨17, #[PT g 0, N (en v29), N (en v30)], zO rfl call17 rfl (mpn rfl) rfl, C.ka HV31.out w' (h.two 15 16 rfl rfl (by decide))⟩) (ag (ag (bC 11 Ai55 (ag (ag (bC 11 Ai55 (bN 1 (bN 6 (ac (fun w' h => ⟨71, #[PT g 0, N (en v25), N (en v13)], zO rfl call71 rfl (mpn rfl) rfl, C.km HV32.out w' (h.two 15 16 rfl rfl (by decide))⟩) (ag (ag (bC 11 Ai55 (bN 2 (bN 7 (ac (fun w' h => ⟨71, #[PT g 0, N (en v19), N (en v8)], zO rfl call71 rfl (mpn rfl) rfl, C.km HV33.out w' (h.two 15 16 rfl rfl (by decide))⟩) (ac (fun w' h => ⟨17, #[PT g 0, N (en v32), N (en v33)], zO rfl call17 rfl (mpn rfl) rfl, C.ka HV34.out w' (h.two 15 16 rfl rfl (by decide))⟩) (ak (fun J => ⟨rfl, fun w' _ => ex_buildTN rfl rfl rfl rfl⟩) trivial))))))))))))))))))))))))))))))))))))))))))))))))
 intro _ w8 H8
 clear H7
 refine zF (l := [49]) rfl ?_
 refine sF 14 [en v28, en v31, en v34] [_, _, _, _, _, _, _, _, _, _, _, _, _, _, _, _, _] H8 o1_3 As137 fun w9 H9 => ?_
 clear H8
 refine zE (zA (wp_ret ?_))
 repeat (first | refine zJ ?_ | refine zI ?_)
 have hf0 := cel_var (k := 3) H9.out.1 14 rfl Ai137 As137 rfl
 refine bodyPost_ret (v := V [en v28, en v31, en v34]) (by simp [results, Tryz.results76, asAddr, hf0]) rfl ?_
 exact ⟨rfl, H9.out.2⟩
theorem twiceT_1 {α : Type} {en : α → Nat} {fa fs fm : α → α → α} {fi : α → α} {z u b : α} {g : Nat} {tn : Value} (_C : Fd1 g en fa fs fm fi z) (x y t : Nat) (hz : ∀ w, (Op.equalIn 10000 24 (N t) (N 0)).run Tryz.prog w = .ok true w) (w : World) (hm : Mm w [(g, zQ pB), (0, dtab)]) :
  Calls Tryz.prog 109 #[.agg (G1 g tn (en u) (en b)).toArray, V [x, y, t]] w (Rt w (V [x, y, t])) := by
 have H0 : Hid (_ ∧ _) := ⟨hm, Below.refl w.heap.size w⟩
 clear hm
 have HZ : Hid _ := hz
 clear hz
 go_enter Tryz.func109, Tryz.ntmps109
 refine wp_seq ?_
 refine zD 3 [.made (G1 g tn (en u) (en b)) 102, .made (cel [x, y, t]) 137, .made (cel [0, 0, 0]) 137] (sB H0) ?ho1 ?he1
 case ho1 => exact am (zN rfl rfl) (am (ex_boxA rfl rfl) (am (ex_madeTN rfl) trivial))
 intro J w1 l hM hl
 have H1 : Hid (Mm w1 ([(J 0, G1 g tn (en u) (en b)), (J 1, cel [x, y, t]), (J 2, cel [0, 0, 0])] ++ _) ∧ _) := wB H0 hM hl [0, 1, 2]
 have o1_0 := vB H0 hM hl 0
 have o1_1 := vB H0 hM hl 1
 have o1_2 := vB H0 hM hl 2
 clear hM hl l
 generalize J 0 = J1_0 at H1 o1_0 ⊢
 generalize J 1 = J1_1 at H1 o1_1 ⊢
 generalize J 2 = J1_2 at H1 o1_2 ⊢
 clear J
 refine rN (wp_seq (wp_seq ?_))
 refine zB 2 [.q (V [x, y, t]), .call (.bool true)] H1 ?ho2 ?he2
 case ho2 => exact bA 0 3 1 Ai137 As137 (ac (fun w' h => eC call107 (isZero_1 _ _ _ true HZ.out w')) trivial)
 intro _ w2 H2
 clear H1
 refine rN (wp_cond_true rfl (wp_seq ?_))
 refine zB 1 [.q (V [x, y, t])] H2 ?ho3 ?he3
 case ho3 => exact bA 0 3 1 Ai137 As137 trivial
 intro _ w3 H3
 clear H2
 refine zF (l := [1]) rfl ?_
 refine sF 2 [x, y, t] [_, _, _, _, _] H3 o1_2 As137 fun w4 H4 => ?_
 clear H3
 refine zE (zA (wp_ret ?_))
 repeat (first | refine zJ ?_ | refine zI ?_)
 have hf0 := cel_var (k := 3) H4.out.1 2 rfl Ai137 As137 rfl
 refine bodyPost_ret (v := V [x, y, t]) (by simp [results, Tryz.results109, asAddr, hf0]) rfl ?_
 exact ⟨rfl, H4.out.2⟩
set_option maxHeartbeats 4000000 in
theorem twiceV_1 {α : Type} {en : α → Nat} {fa fs fm : α → α → α} {fi : α → α} {z u b : α} {g : Nat} {tn : Value} (C : Fd1 g en fa fs fm fi z) (x y t : α) (hz : ∀ w, (Op.equalIn 10000 24 (N (en t)) (N 0)).run Tryz.prog w = .ok false w) (v1 v2 v3 v4 v5 v6 v7 v8 v9 v10 v11 v12 v13 v14 v15 v16 v17 v18 : α) (hv1 : fm y y = v1) (hv2 : fm y t = v2) (hv3 : fm t t = v3) (hv4 : fm b v3 = v4) (hv5 : fa (fa v4 v4) v4 = v5) (hv6 : fa v1 v1 = v6) (hv7 : fa v6 v6 = v7) (hv8 : fa v7 v7 = v8) (hv9 : fa (fa v5 v5) v5 = v9) (hv10 : fs v1 v9 = v10) (hv11 : fa v1 v5 = v11) (hv12 : fm x y = v12) (hv13 : fm v10 v12 = v13) (hv14 : fa v13 v13 = v14) (hv15 : fm v10 v11 = v15) (hv16 : fm v8 v5 = v16) (hv17 : fa v15 v16 = v17) (hv18 : fm v8 v2 = v18) (w : World) (hm : Mm w [(g, zQ pB), (0, dtab)]) :
  Calls Tryz.prog 109 #[.agg (G1 g tn (en u) (en b)).toArray, V [en x, en y, en t]] w (Rt w (V [en v14, en v17, en v18])) := by
 have H0 : Hid (_ ∧ _) := ⟨hm, Below.refl w.heap.size w⟩
 clear hm
 have HZ : Hid _ := hz
 clear hz
 have HV1 : Hid _ := hv1
 clear hv1
 have HV2 : Hid _ := hv2
 clear hv2
 have HV3 : Hid _ := hv3
 clear hv3
 have HV4 : Hid _ := hv4
 clear hv4
 have HV5 : Hid _ := hv5
 clear hv5
 have HV6 : Hid _ := hv6
 clear hv6
 have HV7 : Hid _ := hv7
 clear hv7
 have HV8 : Hid _ := hv8
 clear hv8
 have HV9 : Hid _ := hv9
 clear hv9
 have HV10 : Hid _ := hv10
 clear hv10
 have HV11 : Hid _ := hv11
 clear hv11
 have HV12 : Hid _ := hv12
 clear hv12
 have HV13 : Hid _ := hv13
 clear hv13
 have HV14 : Hid _ := hv14
 clear hv14
 have HV15 : Hid _ := hv15
 clear hv15
 have HV16 : Hid _ := hv16
 clear hv16
 have HV17 : Hid _ := hv17
 clear hv17
 have HV18 : Hid _ := hv18
 clear hv18
 go_enter Tryz.func109, Tryz.ntmps109
 refine wp_seq ?_
 refine zD 3 [.made (G1 g tn (en u) (en b)) 102, .made (cel [en x, en y, en t]) 137, .made (cel [0, 0, 0]) 137] (sB H0) ?ho1 ?he1
 case ho1 => exact am (zN rfl rfl) (am (ex_boxA rfl rfl) (am (ex_madeTN rfl) trivial))
 intro J w1 l hM hl
 have H1 : Hid (Mm w1 ([(J 0, G1 g tn (en u) (en b)), (J 1, cel [en x, en y, en t]), (J 2, cel [0, 0, 0])] ++ _) ∧ _) := wB H0 hM hl [0, 1, 2]
 have o1_0 := vB H0 hM hl 0
 have o1_1 := vB H0 hM hl 1
 have o1_2 := vB H0 hM hl 2
 clear hM hl l
 generalize J 0 = J1_0 at H1 o1_0 ⊢
 generalize J 1 = J1_1 at H1 o1_1 ⊢
 generalize J 2 = J1_2 at H1 o1_2 ⊢
 clear J
 refine rN (wp_seq (wp_seq ?_))
 refine zB 2 [.q (V [en x, en y, en t]), .call (.bool false)] H1 ?ho2 ?he2
 case ho2 => exact bA 0 3 1 Ai137 As137 (ac (fun w' h => eC call107 (isZero_1 _ _ _ false HZ.out w')) trivial)
 intro _ w2 H2
 clear H1
 refine rN (wp_cond_false rfl ?_)
 refine wp_skip (zA (wp_seq ?_))
 refine walk_anyA 20 [.q (PT J1_0 0), .q (PT J1_0 2), .q (.func (.func 71) #[PT g 0] #[]), .q (PT J1_1 6), .q (N (en y)), .q (PT J1_1 6), .q (N (en y)), .call (N (en v1)), .q (PT J1_0 0), .q (PT J1_0 2), .q (.func (.func 71) #[PT g 0] #[]), .q (PT J1_1 6), .q (N (en y)), .q (PT J1_1 12), .q (N (en t)), .call (N (en v2)), .made zero6 24, .made zero6 24, .laid 16 zero6 (zC (en v1)), .laid 17 zero6 (zC (en v2))] (sB H2) ?ho3 ?he3 (hL := ?hL3)
 case hL3 => exact ⟨⟨_, rfl⟩, ⟨_, rfl⟩, trivial⟩
 case ho3 => exact ag (ag (bC 0 Ai55 (ag (aq (fun w' h => ex_loadN (i := 1) h 1 rfl rfl rfl rfl) (ag (aq (fun w' h => ex_loadN (i := 1) h 1 rfl rfl rfl rfl) (ac (fun w' h => ⟨71, #[PT g 0, N (en y), N (en y)], zO rfl call71 rfl (mpn rfl) rfl, C.km HV1.out w' (h.two 3 4 rfl rfl (by decide))⟩) (ag (ag (bC 0 Ai55 (ag (aq (fun w' h => ex_loadN (i := 1) h 1 rfl rfl rfl rfl) (ag (aq (fun w' h => ex_loadN (i := 2) h 1 rfl rfl rfl rfl) (ac (fun w' h => ⟨71, #[PT g 0, N (en y), N (en t)], zO rfl call71 rfl (mpn rfl) rfl, C.km HV2.out w' (h.two 3 4 rfl rfl (by decide))⟩) (am (zH rfl) (am (zH rfl) (ak (fun J => ⟨rfl, rfl, rfl, fun w' h => zL h rfl rfl rfl⟩) (ak (fun J => ⟨rfl, rfl, rfl, fun w' h => zL h rfl rfl rfl⟩) trivial)))))))))))))))))))
 intro J w3 l hM hl
 have H3 : Hid (Mm w3 ([(J 16, zC (en v1)), (J 17, zC (en v2))] ++ _) ∧ _) := wB H2 hM hl [16, 17]
 have o3_16 := vB H2 hM hl 16
 have o3_17 := vB H2 hM hl 17
 clear hM hl l H2
 generalize J 16 = J3_16 at H3 o3_16 ⊢
 generalize J 17 = J3_17 at H3 o3_17 ⊢
 clear J
 refine rN (wp_seq ?_)
 refine walk_anyA 18 [.q (.agg (G1 g tn (en u) (en b)).toArray), .q (PT J1_0 0), .q (PT J1_0 2), .q (.func (.func 71) #[PT g 0] #[]), .q (PT J1_0 11), .q (N (en b)), .q (PT J1_0 0), .q (PT J1_0 2), .q (.func (.func 71) #[PT g 0] #[]), .q (PT J1_1 12), .q (N (en t)), .q (PT J1_1 12), .q (N (en t)), .call (N (en v3)), .call (N (en v4)), .call (N (en v5)), .made zero6 24, .laid 16 zero6 (zC (en v5))] (sB H3) ?ho4 ?he4 (hL := ?hL4)
 case hL4 => exact ⟨⟨_, rfl⟩, trivial⟩
 case ho4 => exact bT 2 Ai102 As102 (ag (ag (bC 2 Ai55 (ag (bN 2 (ag (ag (bC 2 Ai55 (ag (aq (fun w' h => ex_loadN (i := 2) h 3 rfl rfl rfl rfl) (ag (aq (fun w' h => ex_loadN (i := 2) h 3 rfl rfl rfl rfl) (ac (fun w' h => ⟨71, #[PT g 0, N (en t), N (en t)], zO rfl call71 rfl (mpn rfl) rfl, C.km HV3.out w' (h.two 5 6 rfl rfl (by decide))⟩) (ac (fun w' h => ⟨71, #[PT g 0, N (en b), N (en v3)], zO rfl call71 rfl (mpn rfl) rfl, C.km HV4.out w' (h.two 5 6 rfl rfl (by decide))⟩) (ac (fun w' h => eC call108 (thriceN_1 C HV5.out w' (h.two 5 6 rfl rfl (by decide)))) (am (zH rfl) (ak (fun J => ⟨rfl, rfl, rfl, fun w' h => zL h rfl rfl rfl⟩) trivial)))))))))))))))))
 intro J w4 l hM hl
 have H4 : Hid (Mm w4 ([(J 16, zC (en v5))] ++ _) ∧ _) := wB H3 hM hl [16]
 have o4_16 := vB H3 hM hl 16
 clear hM hl l H3
 generalize J 16 = J4_16 at H4 o4_16 ⊢
 clear J
 refine rN (wp_seq ?_)
 refine walk_anyA 9 [.q (.agg (G1 g tn (en u) (en b)).toArray), .q (.agg (G1 g tn (en u) (en b)).toArray), .q (.agg (G1 g tn (en u) (en b)).toArray), .q (N (en v1)), .call (N (en v6)), .call (N (en v7)), .call (N (en v8)), .made zero6 24, .laid 7 zero6 (zC (en v8))] (sB H4) ?ho5 ?he5 (hL := ?hL5)
 case hL5 => exact ⟨⟨_, rfl⟩, trivial⟩
 case ho5 => exact bT 3 Ai102 As102 (bT 3 Ai102 As102 (bT 3 Ai102 As102 (bN 1 (ac (fun w' h => eC call124 (doubleN_1 C HV6.out w' (h.two 6 7 rfl rfl (by decide)))) (ac (fun w' h => eC call124 (doubleN_1 C HV7.out w' (h.two 6 7 rfl rfl (by decide)))) (ac (fun w' h => eC call124 (doubleN_1 C HV8.out w' (h.two 6 7 rfl rfl (by decide)))) (am (zH rfl) (ak (fun J => ⟨rfl, rfl, rfl, fun w' h => zL h rfl rfl rfl⟩) trivial))))))))
 intro J w5 l hM hl
 have H5 : Hid (Mm w5 ([(J 7, zC (en v8))] ++ _) ∧ _) := wB H4 hM hl [7]
 have o5_7 := vB H4 hM hl 7
 clear hM hl l H4
 generalize J 7 = J5_7 at H5 o5_7 ⊢
 clear J
 refine rN (wp_seq ?_)
 refine walk_anyA 18 [.q (PT J1_0 0), .q (PT J1_0 1), .q (.func (.func 33) #[PT g 0] #[]), .q (N (en v1)), .q (.agg (G1 g tn (en u) (en b)).toArray), .q (N (en v5)), .call (N (en v9)), .call (N (en v10)), .q (PT J1_0 0), .q (PT J1_0 0), .q (.func (.func 17) #[PT g 0] #[]), .q (N (en v1)), .q (N (en v5)), .call (N (en v11)), .made zero6 24, .made zero6 24, .laid 14 zero6 (zC (en v10)), .laid 15 zero6 (zC (en v11))] (sB H5) ?ho6 ?he6 (hL := ?hL6)
 case hL6 => exact ⟨⟨_, rfl⟩, ⟨_, rfl⟩, trivial⟩
 case ho6 => exact ag (ag (bC 4 Ai55 (bN 2 (bT 4 Ai102 As102 (bN 1 (ac (fun w' h => eC call108 (thriceN_1 C HV9.out w' (h.two 7 8 rfl rfl (by decide)))) (ac (fun w' h => ⟨33, #[PT g 0, N (en v1), N (en v9)], zO rfl call33 rfl (mpn rfl) rfl, C.ks HV10.out w' (h.two 7 8 rfl rfl (by decide))⟩) (ag (ag (bC 4 Ai55 (bN 2 (bN 1 (ac (fun w' h => ⟨17, #[PT g 0, N (en v1), N (en v5)], zO rfl call17 rfl (mpn rfl) rfl, C.ka HV11.out w' (h.two 7 8 rfl rfl (by decide))⟩) (am (zH rfl) (am (zH rfl) (ak (fun J => ⟨rfl, rfl, rfl, fun w' h => zL h rfl rfl rfl⟩) (ak (fun J => ⟨rfl, rfl, rfl, fun w' h => zL h rfl rfl rfl⟩) trivial)))))))))))))))))
 intro J w6 l hM hl
 have H6 : Hid (Mm w6 ([(J 14, zC (en v10)), (J 15, zC (en v11))] ++ _) ∧ _) := wB H5 hM hl [14, 15]
 have o6_14 := vB H5 hM hl 14
 have o6_15 := vB H5 hM hl 15
 clear hM hl l H5
 generalize J 14 = J6_14 at H6 o6_14 ⊢
 generalize J 15 = J6_15 at H6 o6_15 ⊢
 clear J
 refine rN (wp_seq ?_)
 refine zP 38 [.q (.agg (G1 g tn (en u) (en b)).toArray), .q (PT J1_0 0), .q (PT J1_0 2), .q (.func (.func 71) #[PT g 0] #[]), .q (N (en v10)), .q (PT J1_0 0), .q (PT J1_0 2), .q (.func (.func 71) #[PT g 0] #[]), .q (PT J1_1 0), .q (N (en x)), .q (PT J1_1 6), .q (N (en y)), .call (N (en v12)), .call (N (en v13)), .call (N (en v14)), .q (PT J1_0 0), .q (PT J1_0 0), .q (.func (.func 17) #[PT g 0] #[]), .q (PT J1_0 0), .q (PT J1_0 2), .q (.func (.func 71) #[PT g 0] #[]), .q (N (en v10)), .q (N (en v11)), .call (N (en v15)), .q (PT J1_0 0), .q (PT J1_0 2), .q (.func (.func 71) #[PT g 0] #[]), .q (N (en v8)), .q (N (en v5)), .call (N (en v16)), .call (N (en v17)), .q (PT J1_0 0), .q (PT J1_0 2), .q (.func (.func 71) #[PT g 0] #[]), .q (N (en v8)), .q (N (en v2)), .call (N (en v18)), .q (V [en v14, en v17, en v18])] H6 ?ho7 ?he7 (hL := ?hL7)
 case hL7 => exact trivial
 case ho7 => exact bT 6 Ai102 As102 (ag (ag (bC 6 Ai55 (bN 0 (ag (ag (bC 6 Ai55 (ag (aq (fun w' h => ex_loadN (i := 0) h 7 rfl rfl rfl rfl) (ag (aq (fun w' h => ex_loadN (i := 1) h 7 rfl rfl rfl rfl) (ac (fun w' h => ⟨71, #[PT g 0, N (en x), N (en y)], zO rfl call71 rfl (mpn rfl) rfl, C.km HV12.out w' (h.two 9 10 rfl rfl (by decide))⟩) (ac (fun w' h => ⟨71, #[PT g 0, N (en v10), N (en v12)], zO rfl call71 rfl (mpn rfl) rfl, C.km HV13.out w' (h.two 9 10 rfl rfl (by decide))⟩) (ac (fun w' h => eC call124 (doubleN_1 C HV14.out w' (h.two 9 10 rfl rfl (by decide)))) (ag (ag (bC 6 Ai55 (ag (ag (bC 6 Ai55 (bN 0 (bN 1 (ac (fun w' h => ⟨71, #[PT g 0, N (en v10), N (en v11)], zO rfl call71 rfl (mpn rfl) rfl, C.km HV15.out w' (h.two 9 10 rfl rfl (by decide))⟩) (ag (ag (bC 6 Ai55 (bN 2 (bN 3 (ac (fun w' h => ⟨71, #[PT g 0, N (en v8), N (en v5)], zO rfl call71 rfl (mpn rfl) rfl, C.km HV16.out w' (h.two 9 10 rfl rfl (by decide))⟩) (ac (fun w' h => ⟨17, #[PT g 0, N (en v15), N (en v16)], zO rfl call17 rfl (mpn rfl) rfl, C.ka HV17.out w' (h.two 9 10 rfl rfl (by decide))⟩) (ag (ag (bC 6 Ai55 (bN 2 (bN 5 (ac (fun w' h => ⟨71, #[PT g 0, N (en v8), N (en v2)], zO rfl call71 rfl (mpn rfl) rfl, C.km HV18.out w' (h.two 9 10 rfl rfl (by decide))⟩) (ak (fun J => ⟨rfl, fun w' _ => ex_buildTN rfl rfl rfl rfl⟩) trivial)))))))))))))))))))))))))))))))))))))
 intro _ w7 H7
 clear H6
 refine zF (l := [38]) rfl ?_
 refine sF 8 [en v14, en v17, en v18] [_, _, _, _, _, _, _, _, _, _, _] H7 o1_2 As137 fun w8 H8 => ?_
 clear H7
 refine zE (zA (wp_ret ?_))
 repeat (first | refine zJ ?_ | refine zI ?_)
 have hf0 := cel_var (k := 3) H8.out.1 8 rfl Ai137 As137 rfl
 refine bodyPost_ret (v := V [en v14, en v17, en v18]) (by simp [results, Tryz.results109, asAddr, hf0]) rfl ?_
 exact ⟨rfl, H8.out.2⟩
theorem checkZ_1 {α : Type} {en : α → Nat} {fa fs fm : α → α → α} {fi : α → α} {z u b : α} {g : Nat} {tn : Value} (_C : Fd1 g en fa fs fm fi z) (x y : Nat) (be : Bool) (he : ∀ w, (Op.equalIn 10000 95 (.agg (pc1 x y true).toArray) (.agg (pc1 0 0 true).toArray)).run Tryz.prog w = .ok be w) (w : World) (hm : Mm w [(g, zQ pB), (0, dtab)]) :
  Calls Tryz.prog 74 #[.agg (G1 g tn (en u) (en b)).toArray, .agg (pc1 x y true).toArray] w (Rt w (.bool be)) := by
 have H0 : Hid (_ ∧ _) := ⟨hm, Below.refl w.heap.size w⟩
 clear hm
 have HE : Hid _ := he
 clear he
 go_enter Tryz.func74, Tryz.ntmps74
 refine wp_seq ?_
 refine zD 3 [.made (G1 g tn (en u) (en b)) 102, .made (pc1 x y true) 95, .q (.bool false)] (sB H0) ?ho1 ?he1
 case ho1 => exact am (zN rfl rfl) (am (zN rfl rfl) (ar trivial))
 intro J w1 l hM hl
 have H1 : Hid (Mm w1 ([(J 0, G1 g tn (en u) (en b)), (J 1, pc1 x y true)] ++ _) ∧ _) := wB H0 hM hl [0, 1]
 have o1_0 := vB H0 hM hl 0
 have o1_1 := vB H0 hM hl 1
 clear hM hl l
 generalize J 0 = J1_0 at H1 o1_0 ⊢
 generalize J 1 = J1_1 at H1 o1_1 ⊢
 clear J
 refine rN (wp_seq (wp_seq ?_))
 refine zB 2 [.q (PT J1_1 12), .q (.bool true)] H1 ?ho2 ?he2
 case ho2 => exact ag (bC 1 Ai4 trivial)
 intro _ w2 H2
 clear H1
 refine rN (wp_cond_true rfl (wp_seq ?_))
 refine zB 4 [.q (.agg (pc1 x y true).toArray), .q (.agg (pc1 0 0 true).toArray), .q (.bool be), .q (.bool be)] H2 ?ho3 ?he3
 case ho3 => exact bT 1 Ai95 As95 (ak (fun J => ⟨rfl, fun w' _ => ex_buildPNt rfl rfl⟩) (ak (fun J => ⟨rfl, fun w' _ => exec_eqT95 HE.out rfl rfl rfl⟩) (ar trivial)))
 intro _ w3 H3
 clear H2
 refine rN (wp_ret ?_)
 repeat (first | refine zJ ?_ | refine zI ?_)
 refine bodyPost_ret (v := .bool be) (by simp [results, Tryz.results74, go_sem, *]) rfl ?_
 exact ⟨rfl, H3.out.2⟩
theorem checkX_1 {α : Type} {en : α → Nat} {fa fs fm : α → α → α} {fi : α → α} {z u b : α} {g : Nat} {tn : Value} (_C : Fd1 g en fa fs fm fi z) (x y : Nat) (cx : ∀ w, Mm w [(g, zQ pB), (0, dtab)] → Calls Tryz.prog 72 #[N x] w (Rt w (.bool false))) (w : World) (hm : Mm w [(g, zQ pB), (0, dtab)]) :
  Calls Tryz.prog 74 #[.agg (G1 g tn (en u) (en b)).toArray, .agg (pc1 x y false).toArray] w (Rt w (.bool false)) := by
 have H0 : Hid (_ ∧ _) := ⟨hm, Below.refl w.heap.size w⟩
 clear hm
 have CX : Hid _ := cx
 clear cx
 go_enter Tryz.func74, Tryz.ntmps74
 refine wp_seq ?_
 refine zD 3 [.made (G1 g tn (en u) (en b)) 102, .made (pc1 x y false) 95, .q (.bool false)] (sB H0) ?ho1 ?he1
 case ho1 => exact am (zN rfl rfl) (am (zN rfl rfl) (ar trivial))
 intro J w1 l hM hl
 have H1 : Hid (Mm w1 ([(J 0, G1 g tn (en u) (en b)), (J 1, pc1 x y false)] ++ _) ∧ _) := wB H0 hM hl [0, 1]
 have o1_0 := vB H0 hM hl 0
 have o1_1 := vB H0 hM hl 1
 clear hM hl l
 generalize J 0 = J1_0 at H1 o1_0 ⊢
 generalize J 1 = J1_1 at H1 o1_1 ⊢
 clear J
 refine rN (wp_seq (wp_seq ?_))
 refine zB 2 [.q (PT J1_1 12), .q (.bool false)] H1 ?ho2 ?he2
 case ho2 => exact ag (bC 1 Ai4 trivial)
 intro _ w2 H2
 clear H1
 refine rN (wp_cond_false rfl ?_)
 refine wp_skip (zA (wp_seq ?_))
 refine zP 46 [.q (PT J1_0 0), .q (PT J1_0 4), .q (.func (.func 72) #[] #[]), .q (PT J1_1 0), .q (N x), .call (.bool false), .q (.bool false), .gone, .gone, .gone, .gone, .gone, .gone, .q (.bool false), .q (.bool false), .gone, .gone, .gone, .gone, .gone, .gone, .gone, .gone, .gone, .gone, .gone, .gone, .gone, .gone, .gone, .gone, .gone, .gone, .gone, .gone, .gone, .gone, .gone, .gone, .gone, .gone, .gone, .gone, .gone, .q (.bool false), .q (.bool false)] H2 ?ho3 ?he3 (hL := ?hL3)
 case hL3 => exact trivial
 case ho3 => exact ag (ag (bC 0 Ai97 (ag (bN 1 (ac (fun w' h => ⟨72, #[N x], zO rfl call72 rfl (mpn rfl) rfl, CX.out w' (h.two 2 3 rfl rfl (by decide))⟩) (ar (ak (fun J => rfl) (ak (fun J => rfl) (ak (fun J => rfl) (ak (fun J => rfl) (ak (fun J => rfl) (ak (fun J => rfl) (ag (ar (ak (fun J => rfl) (ak (fun J => rfl) (ak (fun J => rfl) (ak (fun J => rfl) (ak (fun J => rfl) (ak (fun J => rfl) (ak (fun J => rfl) (ak (fun J => rfl) (ak (fun J => rfl) (ak (fun J => rfl) (ak (fun J => rfl) (ak (fun J => rfl) (ak (fun J => rfl) (ak (fun J => rfl) (ak (fun J => rfl) (ak (fun J => rfl) (ak (fun J => rfl) (ak (fun J => rfl) (ak (fun J => rfl) (ak (fun J => rfl) (ak (fun J => rfl) (ak (fun J => rfl) (ak (fun J => rfl) (ak (fun J => rfl) (ak (fun J => rfl) (ak (fun J => rfl) (ak (fun J => rfl) (ak (fun J => rfl) (ak (fun J => rfl) (ag (ar trivial)))))))))))))))))))))))))))))))))))))))))))))
 intro _ w3 H3
 clear H2
 refine rN (wp_ret ?_)
 repeat (first | refine zJ ?_ | refine zI ?_)
 refine bodyPost_ret (v := .bool false) (by simp [results, Tryz.results74, go_sem, *]) rfl ?_
 exact ⟨rfl, H3.out.2⟩
theorem checkY_1 {α : Type} {en : α → Nat} {fa fs fm : α → α → α} {fi : α → α} {z u b : α} {g : Nat} {tn : Value} (_C : Fd1 g en fa fs fm fi z) (x y : Nat) (cx : ∀ w, Mm w [(g, zQ pB), (0, dtab)] → Calls Tryz.prog 72 #[N x] w (Rt w (.bool true))) (cy : ∀ w, Mm w [(g, zQ pB), (0, dtab)] → Calls Tryz.prog 72 #[N y] w (Rt w (.bool false))) (w : World) (hm : Mm w [(g, zQ pB), (0, dtab)]) :
  Calls Tryz.prog 74 #[.agg (G1 g tn (en u) (en b)).toArray, .agg (pc1 x y false).toArray] w (Rt w (.bool false)) := by
 have H0 : Hid (_ ∧ _) := ⟨hm, Below.refl w.heap.size w⟩
 clear hm
 have CX : Hid _ := cx
 clear cx
 have CY : Hid _ := cy
 clear cy
 go_enter Tryz.func74, Tryz.ntmps74
 refine wp_seq ?_
 refine zD 3 [.made (G1 g tn (en u) (en b)) 102, .made (pc1 x y false) 95, .q (.bool false)] (sB H0) ?ho1 ?he1
 case ho1 => exact am (zN rfl rfl) (am (zN rfl rfl) (ar trivial))
 intro J w1 l hM hl
 have H1 : Hid (Mm w1 ([(J 0, G1 g tn (en u) (en b)), (J 1, pc1 x y false)] ++ _) ∧ _) := wB H0 hM hl [0, 1]
 have o1_0 := vB H0 hM hl 0
 have o1_1 := vB H0 hM hl 1
 clear hM hl l
 generalize J 0 = J1_0 at H1 o1_0 ⊢
 generalize J 1 = J1_1 at H1 o1_1 ⊢
 clear J
 refine rN (wp_seq (wp_seq ?_))
 refine zB 2 [.q (PT J1_1 12), .q (.bool false)] H1 ?ho2 ?he2
 case ho2 => exact ag (bC 1 Ai4 trivial)
 intro _ w2 H2
 clear H1
 refine rN (wp_cond_false rfl ?_)
 refine wp_skip (zA (wp_seq ?_))
 refine zP 46 [.q (PT J1_0 0), .q (PT J1_0 4), .q (.func (.func 72) #[] #[]), .q (PT J1_1 0), .q (N x), .call (.bool true), .q (.bool true), .q (PT J1_0 0), .q (PT J1_0 4), .q (.func (.func 72) #[] #[]), .q (PT J1_1 6), .q (N y), .call (.bool false), .q (.bool false), .q (.bool false), .gone, .gone, .gone, .gone, .gone, .gone, .gone, .gone, .gone, .gone, .gone, .gone, .gone, .gone, .gone, .gone, .gone, .gone, .gone, .gone, .gone, .gone, .gone, .gone, .gone, .gone, .gone, .gone, .gone, .q (.bool false), .q (.bool false)] H2 ?ho3 ?he3 (hL := ?hL3)
 case hL3 => exact trivial
 case ho3 => exact ag (ag (bC 0 Ai97 (ag (bN 1 (ac (fun w' h => ⟨72, #[N x], zO rfl call72 rfl (mpn rfl) rfl, CX.out w' (h.two 2 3 rfl rfl (by decide))⟩) (ar (ag (ag (bC 0 Ai97 (ag (bN 1 (ac (fun w' h => ⟨72, #[N y], zO rfl call72 rfl (mpn rfl) rfl, CY.out w' (h.two 2 3 rfl rfl (by decide))⟩) (ag (ar (ak (fun J => rfl) (ak (fun J => rfl) (ak (fun J => rfl) (ak (fun J => rfl) (ak (fun J => rfl) (ak (fun J => rfl) (ak (fun J => rfl) (ak (fun J => rfl) (ak (fun J => rfl) (ak (fun J => rfl) (ak (fun J => rfl) (ak (fun J => rfl) (ak (fun J => rfl) (ak (fun J => rfl) (ak (fun J => rfl) (ak (fun J => rfl) (ak (fun J => rfl) (ak (fun J => rfl) (ak (fun J => rfl) (ak (fun J => rfl) (ak (fun J => rfl) (ak (fun J => rfl) (ak (fun J => rfl) (ak (fun J => rfl) (ak (fun J => rfl) (ak (fun J => rfl) (ak (fun J => rfl) (ak (fun J => rfl) (ak (fun J => rfl) (ag (ar trivial)))))))))))))))))))))))))))))))))))))))))))))
 intro _ w3 H3
 clear H2
 refine rN (wp_ret ?_)
 repeat (first | refine zJ ?_ | refine zI ?_)
 refine bodyPost_ret (v := .bool false) (by simp [results, Tryz.results74, go_sem, *]) rfl ?_
 exact ⟨rfl, H3.out.2⟩
set_option maxHeartbeats 4000000 in
theorem checkB_1 {α : Type} {en : α → Nat} {fa fs fm : α → α → α} {fi : α → α} {z u b : α} {g : Nat} {tn : Value} (C : Fd1 g en fa fs fm fi z) (x y : α) (be : Bool) (cx : ∀ w, Mm w [(g, zQ pB), (0, dtab)] → Calls Tryz.prog 72 #[N (en x)] w (Rt w (.bool true))) (cy : ∀ w, Mm w [(g, zQ pB), (0, dtab)] → Calls Tryz.prog 72 #[N (en y)] w (Rt w (.bool true))) (he : ∀ w, (Op.equalIn 10000 24 (N (en (fm y y))) (N (en (fa (fm x (fm x x)) b)))).run Tryz.prog w = .ok be w) (w : World) (hm : Mm w [(g, zQ pB), (0, dtab)]) :
  Calls Tryz.prog 74 #[.agg (G1 g tn (en u) (en b)).toArray, .agg (pc1 (en x) (en y) false).toArray] w (Rt w (.bool be)) := by
 have H0 : Hid (_ ∧ _) := ⟨hm, Below.refl w.heap.size w⟩
 clear hm
 have CX : Hid _ := cx
 clear cx
 have CY : Hid _ := cy
 clear cy
 have HE : Hid _ := he
 clear he
 go_enter Tryz.func74, Tryz.ntmps74
 refine wp_seq ?_
 refine zD 3 [.made (G1 g tn (en u) (en b)) 102, .made (pc1 (en x) (en y) false) 95, .q (.bool false)] (sB H0) ?ho1 ?he1
 case ho1 => exact am (zN rfl rfl) (am (zN rfl rfl) (ar trivial))
 intro J w1 l hM hl
 have H1 : Hid (Mm w1 ([(J 0, G1 g tn (en u) (en b)), (J 1, pc1 (en x) (en y) false)] ++ _) ∧ _) := wB H0 hM hl [0, 1]
 have o1_0 := vB H0 hM hl 0
 have o1_1 := vB H0 hM hl 1
 clear hM hl l
 generalize J 0 = J1_0 at H1 o1_0 ⊢
 generalize J 1 = J1_1 at H1 o1_1 ⊢
 clear J
 refine rN (wp_seq (wp_seq ?_))
 refine zB 2 [.q (PT J1_1 12), .q (.bool false)] H1 ?ho2 ?he2
 case ho2 => exact ag (bC 1 Ai4 trivial)
 intro _ w2 H2
 clear H1
 refine rN (wp_cond_false rfl ?_)
 refine wp_skip (zA (wp_seq ?_))
 refine zP 46 [.q (PT J1_0 0), .q (PT J1_0 4), .q (.func (.func 72) #[] #[]), .q (PT J1_1 0), .q (N (en x)), .call (.bool true), .q (.bool true), .q (PT J1_0 0), .q (PT J1_0 4), .q (.func (.func 72) #[] #[]), .q (PT J1_1 6), .q (N (en y)), .call (.bool true), .q (.bool true), .q (.bool true), .q (PT J1_0 0), .q (PT J1_0 2), .q (.func (.func 71) #[PT g 0] #[]), .q (PT J1_1 6), .q (N (en y)), .q (PT J1_1 6), .q (N (en y)), .call (N (en (fm y y))), .q (PT J1_0 0), .q (PT J1_0 0), .q (.func (.func 17) #[PT g 0] #[]), .q (PT J1_0 0), .q (PT J1_0 2), .q (.func (.func 71) #[PT g 0] #[]), .q (PT J1_1 0), .q (N (en x)), .q (PT J1_0 0), .q (PT J1_0 2), .q (.func (.func 71) #[PT g 0] #[]), .q (PT J1_1 0), .q (N (en x)), .q (PT J1_1 0), .q (N (en x)), .call (N (en (fm x x))), .call (N (en (fm x (fm x x)))), .q (PT J1_0 11), .q (N (en b)), .call (N (en (fa (fm x (fm x x)) b))), .q (.bool be), .q (.bool be), .q (.bool be)] H2 ?ho3 ?he3 (hL := ?hL3)
 case hL3 => exact trivial
 case ho3 => exact ag (ag (bC 0 Ai97 (ag (bN 1 (ac (fun w' h => ⟨72, #[N (en x)], zO rfl call72 rfl (mpn rfl) rfl, CX.out w' (h.two 2 3 rfl rfl (by decide))⟩) (ar (ag (ag (bC 0 Ai97 (ag (bN 1 (ac (fun w' h => ⟨72, #[N (en y)], zO rfl call72 rfl (mpn rfl) rfl, CY.out w' (h.two 2 3 rfl rfl (by decide))⟩) (ag (ar (ag (ag (bC 0 Ai55 (ag (bN 1 (ag (bN 1 (ac (fun w' h => ⟨71, #[PT g 0, N (en y), N (en y)], zO rfl call71 rfl (mpn rfl) rfl, C.cm _ _ w' (h.two 2 3 rfl rfl (by decide))⟩) (ag (ag (bC 0 Ai55 (ag (ag (bC 0 Ai55 (ag (bN 1 (ag (ag (bC 0 Ai55 (ag (bN 1 (ag (bN 1 (ac (fun w' h => ⟨71, #[PT g 0, N (en x), N (en x)], zO rfl call71 rfl (mpn rfl) rfl, C.cm _ _ w' (h.two 2 3 rfl rfl (by decide))⟩) (ac (fun w' h => ⟨71, #[PT g 0, N (en x), N (en (fm x x))], zO rfl call71 rfl (mpn rfl) rfl, C.cm _ _ w' (h.two 2 3 rfl rfl (by decide))⟩) (ag (bN 0 (ac (fun w' h => ⟨17, #[PT g 0, N (en (fm x (fm x x))), N (en b)], zO rfl call17 rfl (mpn rfl) rfl, C.ca _ _ w' (h.two 2 3 rfl rfl (by decide))⟩) (ak (fun J => ⟨rfl, fun w' _ => exec_eq6 HE.out rfl rfl rfl⟩) (ag (ar trivial)))))))))))))))))))))))))))))))))))))))))))))
 intro _ w3 H3
 clear H2
 refine rN (wp_ret ?_)
 repeat (first | refine zJ ?_ | refine zI ?_)
 refine bodyPost_ret (v := .bool be) (by simp [results, Tryz.results74, go_sem, *]) rfl ?_
 exact ⟨rfl, H3.out.2⟩
end Rg
end Go.Proofs.YtahgdighnlekdaaGreatDoor
end
section
namespace Go.Proofs.YtahgdighnlekdaaGreatDoor
open Go.RowKit
/-- What a sign counts as a digit to the base 16. -/
def dgv (c : Int) : Int := if 48 ≤ c ∧ c ≤ 57 then c - 48 else if 97 ≤ c ∧ c ≤ 102 then c - 87 else 0
def dgk (c : Int) : Bool := decide (48 ≤ c ∧ c ≤ 57) || decide (97 ≤ c ∧ c ≤ 102)
theorem dgv_bd (c : Int) : 0 ≤ dgv c ∧ dgv c < 16 := by unfold dgv; split <;> (try split) <;> omega
set_option maxHeartbeats 400000 in
theorem digit_any (c : Int) (h0 : 0 ≤ c) (h1 : c ≤ 255) (w : World) :
  Calls Tryz.prog 101 #[.int .u8 c] w fun e w' => e = .returned (.tuple #[.int .u64 (dgv c), .bool (dgk c)]) ∧ w' = w := by
 unfold dgv dgk
 by_cases a : 48 ≤ c ∧ c ≤ 57
 ·obtain ⟨a1, a2⟩ := a
  have d1 : decide (48 ≤ c) = true := decide_eq_true a1
  have d2 : decide (c ≤ 57) = true := decide_eq_true a2
  rw [if_pos ⟨a1, a2⟩, decide_eq_true (⟨a1, a2⟩ : 48 ≤ c ∧ c ≤ 57)]
  go_enter Tryz.func101, Tryz.ntmps101
  go_wp2
  go_ret2
  exact ⟨by simp, rfl⟩
 ·rw [if_neg a, decide_eq_false a]
  by_cases b : 97 ≤ c ∧ c ≤ 102
  ·obtain ⟨b1, b2⟩ := b
   have d1 : decide (48 ≤ c) = true := decide_eq_true (by omega)
   have d2 : decide (c ≤ 57) = false := decide_eq_false (by omega)
   have d3 : decide (97 ≤ c) = true := decide_eq_true b1
   have d4 : decide (c ≤ 102) = true := decide_eq_true b2
   rw [if_pos ⟨b1, b2⟩, decide_eq_true (⟨b1, b2⟩ : 97 ≤ c ∧ c ≤ 102)]
   clear a
   go_enter Tryz.func101, Tryz.ntmps101
   go_wp2
   rw [show c - 97 + 10 = c - 87 by omega]
   go_ret2
   exact ⟨by simp, rfl⟩
  ·rw [if_neg b, decide_eq_false b]
   by_cases x1 : 48 ≤ c
   ·have d1 : decide (48 ≤ c) = true := decide_eq_true x1
    have d2 : decide (c ≤ 57) = false := decide_eq_false (by omega)
    by_cases x2 : 97 ≤ c
    ·have d3 : decide (97 ≤ c) = true := decide_eq_true x2
     have d4 : decide (c ≤ 102) = false := decide_eq_false (by omega)
     clear a b
     go_enter Tryz.func101, Tryz.ntmps101
     go_wp2
     go_ret2
     exact ⟨by simp, rfl⟩
    ·have d3 : decide (97 ≤ c) = false := decide_eq_false x2
     clear a b
     go_enter Tryz.func101, Tryz.ntmps101
     go_wp2
     go_ret2
     exact ⟨by simp, rfl⟩
   ·have d1 : decide (48 ≤ c) = false := decide_eq_false x1
    have d3 : decide (97 ≤ c) = false := decide_eq_false (by omega)
    clear a b
    go_enter Tryz.func101, Tryz.ntmps101
    go_wp2
    go_ret2
    exact ⟨by simp, rfl⟩
/-- The sign at place i from the right. -/
def ch (s : ByteArray) (i : Nat) : Int := if h : s.size - 1 - i < s.size then ((s[s.size - 1 - i]).toNat : Int) else 0
theorem ch_eq (s : ByteArray) (i : Nat) (h : s.size - 1 - i < s.size) : ch s i = ((s[s.size - 1 - i]).toNat : Int) := dif_pos h
/-- The number of the lowest k digits; whether they are digits. -/
def pvv (s : ByteArray) : Nat → Nat
 | 0 => 0
 | k + 1 => pvv s k + (dgv (ch s k)).toNat * 2 ^ (4 * k)
def okk (s : ByteArray) : Nat → Bool
 | 0 => true
 | k + 1 => okk s k && dgk (ch s k)
theorem pvv_lt (s : ByteArray) : ∀ k, pvv s k < 2 ^ (4 * k)
 | 0 => by simp [pvv]
 | k + 1 => by
  have h1 := pvv_lt s k
  have h2 := dgv_bd (ch s k)
  have h3 : (dgv (ch s k)).toNat * 2 ^ (4 * k) ≤ 15 * 2 ^ (4 * k) := Nat.mul_le_mul_right _ (by omega)
  have e : 2 ^ (4 * (k + 1)) = 16 * 2 ^ (4 * k) := by rw [Nat.mul_add, Nat.pow_add, Nat.mul_comm]
  unfold pvv
  rw [e]
  omega
theorem okk_mono (s : ByteArray) (m : Nat) : ∀ k, okk s (k + m) = true → okk s k = true := by
 induction m with
 | zero => intro k h; exact h
 | succ m ih =>
  intro k h
  have h2 : (okk s (k + m) && dgk (ch s (k + m))) = true := h
  exact ih k (by simp only [Bool.and_eq_true] at h2; exact h2.1)
theorem set_digit (V d k j : Nat) (hV : V < 2 ^ (4 * k)) (hd : d < 16) (hj : j ≠ k / 16) : wd (V + d * 2 ^ (4 * k)) j = wd V j := by
 rw [wd_shr, wd_shr, ← Nat.shiftLeft_eq, Nat.add_comm, Nat.shiftLeft_add_eq_or_of_lt hV]
 congr 1
 apply Nat.eq_of_testBit_eq
 intro i
 simp only [Nat.testBit_or, Nat.testBit_mod_two_pow, Nat.testBit_shiftLeft, Nat.testBit_shiftRight]
 by_cases hi : i < 64
 ·by_cases hk : 4 * k ≤ 64 * j + i
  ·have : d.testBit (64 * j + i - 4 * k) = false := Nat.testBit_lt_two_pow (Nat.lt_of_lt_of_le (show d < 2 ^ 4 from hd) (Nat.pow_le_pow_right (by decide) (by omega)))
   simp [this]
  ·simp [hk]
 ·simp [hi]
theorem or_digit_bits (V d k : Nat) : (V >>> (64 * (k / 16)) % 2 ^ 64) ||| (d <<< (4 * (k % 16)) % 2 ^ 64) = (d <<< (4 * k) ||| V) >>> (64 * (k / 16)) % 2 ^ 64 := by
 apply Nat.eq_of_testBit_eq
 intro i
 simp only [Nat.testBit_or, Nat.testBit_mod_two_pow, Nat.testBit_shiftLeft, Nat.testBit_shiftRight]
 by_cases hi : i < 64
 ·by_cases hk : 4 * (k % 16) ≤ i
  ·have e1 : 4 * k ≤ 64 * (k / 16) + i := by omega
   have e2 : 64 * (k / 16) + i - 4 * k = i - 4 * (k % 16) := by omega
   simp [hi, hk, e1, e2, Bool.or_comm]
  ·have e1 : ¬ 4 * k ≤ 64 * (k / 16) + i := by omega
   simp [hi, hk, e1]
 ·simp [hi]
theorem or_digit (V d k : Nat) (hV : V < 2 ^ (4 * k)) : bits .or .u64 (wd V (k / 16)) (IntKind.u64.wrap ((d : Int) * 2 ^ (4 * (k % 16)))) = wd (V + d * 2 ^ (4 * k)) (k / 16) := by
 rw [wrap_shl, wd_shr, wd_shr, ← Nat.shiftLeft_eq, Nat.add_comm, Nat.shiftLeft_add_eq_or_of_lt hV, ← or_digit_bits]
 exact bits_or_u64_nat _ _ (Nat.mod_lt _ (by decide)) (Nat.mod_lt _ (by decide))
theorem digit_step (s : ByteArray) (k j : Nat) : upd (wd (pvv s k)) (k / 16) (bits .or .u64 (wd (pvv s k) (k / 16)) (IntKind.u64.wrap (dgv (ch s k) * 2 ^ (4 * (k % 16))))) j = wd (pvv s (k + 1)) j := by
 have hd := dgv_bd (ch s k)
 have e : dgv (ch s k) = ((dgv (ch s k)).toNat : Int) := by omega
 have hV := pvv_lt s k
 unfold upd
 by_cases h : j = k / 16
 ·rw [if_pos h, h, e, or_digit _ _ k hV]
  rfl
 ·rw [if_neg h]
  exact (set_digit _ _ k j hV (by omega) h).symm
/-- What the loop of Parse tells, once it is come to. -/
def prv (s : ByteArray) : Value := if okk s s.size then .tuple #[N (pvv s s.size), .int .i64 0] else .tuple #[N 0, .int .i64 4]
set_option maxHeartbeats 1000000 in
theorem parse_loop (s : ByteArray) (h1 : 1 ≤ s.size) (h2 : s.size ≤ 96) (h3 : (((s[0]'h1).toNat : Int) == 48) = false ∨ s.size = 1) (w : World) :
  Calls Tryz.prog 63 #[.string s] w (Rt w (prv s)) := by
 have he : s.toList.isEmpty = false := by
  cases hl : s.toList with
  | nil =>
   rw [ByteArray.toList_eq] at hl
   have h0 : s.data.size = 0 := by rw [← Array.length_toList, hl]; rfl
   have : s.size = s.data.size := rfl
   omega
  | cons a l => rfl
 have hg : decide ((96 : Int) < (s.size : Int)) = false := decide_eq_false (by omega)
 have hq : ((((s[0]'h1).toNat : Int) == 48) && decide ((1 : Int) < (s.size : Int))) = false := by
  rcases h3 with h3 | h3
  ·rw [h3]; rfl
  ·rw [decide_eq_false (show ¬ (1 : Int) < (s.size : Int) by omega), Bool.and_false]
 have hz : ((((s[0]'h1).toNat : Int) == 48) = true ∧ decide ((1 : Int) < (s.size : Int)) = false) ∨ (((s[0]'h1).toNat : Int) == 48) = false := by
  cases hc : (((s[0]'h1).toNat : Int) == 48) with
  | true => rw [hc, Bool.true_and] at hq; exact Or.inl ⟨rfl, hq⟩
  | false => exact Or.inr rfl
 have H2 : Hid (s.size ≤ 96) := h2
 clear h3 hq
 rcases hz with ⟨hz, hz1⟩ | hz
 all_goals
  go_enter Tryz.func63, Tryz.ntmps63
  go_wp2
  try clear hz1
  clear hz hg he
  go_loopw [27] (fun i wr => ∃ k : Nat, k ≤ s.size ∧ i = .int .i64 k ∧ okk s k = true ∧ Row wr w.heap.size 6 (fun _ => 0) ∧ Row wr (w.heap.size + 1) 6 (wd (pvv s k)) ∧ Below w.heap.size w wr) (fun i _ => s.size - (RowKit.intOf i).toNat)
  case atStart =>
   refine ⟨0, by omega, rfl, rfl, ?_, ?_, ?_⟩
   ·exact (Row.new w _ 24 rfl (six_lt (f := fun _ => 0) rfl)).alloc (by first | omega | (simp <;> omega)) _
   ·exact (Row.new _ _ 24 (by first | omega | (simp <;> omega)) (six_lt (f := fun _ => 0) rfl)).congr (fun j _ => (wd_zero j).symm)
   ·exact ((Below.refl _ _).alloc (Nat.le_refl _) _).alloc (by first | omega | (simp <;> omega)) _
  case round =>
   obtain ⟨k, hk, rfl, hok, hZ, hS, hw⟩ := hrel
   by_cases hlt : k < s.size
   ·have hch := ch_eq s k (by omega)
    have hdig := fun w => digit_any (ch s k) (by rw [hch]; omega) (by rw [hch]; have := (s[s.size - 1 - k]).toNat_lt; omega) w
    rw [hch] at hdig
    have HD : Hid _ := hdig
    have HCH : Hid _ := hch
    have hb := dgv_bd (((s[s.size - 1 - k]'(by omega)).toNat : Int))
    obtain ⟨hb0, hb1⟩ := hb
    clear hdig hch
    cases hkk : dgk (((s[s.size - 1 - k]'(by omega)).toNat : Int)) with
    | true =>
     obtain ⟨k1, k2⟩ := hS (k / 16) (by omega)
     have HM : Hid (_ ∧ _ ∧ _) := ⟨hZ, hS, hw⟩
     have HOK : Hid _ := hok
     clear hZ hS hw hok
     go_wp2_with (go_at_call 101; refine (HD.out _).mono ?_; rintro e w' ⟨rfl, rfl⟩)
     go_region
     go_wp2
     go_roundw
     case rel =>
      obtain ⟨hZ, hS, hw⟩ := HM.out
      refine ⟨k + 1, by omega, by go_num, ?_, (hZ.set_other _ (by simp <;> omega)).drew, ((hS.set _).congr (fun j _ => ?_)).drew, (hw.setCell (by simp <;> omega) _).drew⟩
      ·show (okk s k && dgk (ch s k)) = true
       rw [HOK.out, HCH.out, hkk]; rfl
      ·rw [← HCH.out]; exact digit_step s k j
     case measure => simp [RowKit.intOf] <;> omega
    | false =>
     have hfin : Hid (prv s = .tuple #[N 0, .int .i64 4]) := by
      show prv s = _
      unfold prv
      rw [if_neg]
      intro hh
      have h5 := okk_mono s (s.size - (k + 1)) (k + 1) (by rw [show k + 1 + (s.size - (k + 1)) = s.size by omega]; exact hh)
      have h6 : (okk s k && dgk (ch s k)) = true := h5
      rw [HCH.out, hkk, Bool.and_false] at h6
      exact absurd h6 (by decide)
     obtain ⟨z0, z1, z2, z3, z4, z5⟩ := hZ.writes
     obtain ⟨y0, y1, y2, y3, y4, y5⟩ := hZ.reads
     have HW : Hid _ := hw
     clear hZ hS hw hok
     go_wp2_with (go_at_call 101; refine (HD.out _).mono ?_; rintro e w' ⟨rfl, rfl⟩)
     refine bodyPost_ret (v := .tuple #[N 0, .int .i64 4]) ?_ rfl ⟨by rw [hfin.out], ?_⟩
     ·simp [results, Tryz.results63, go_sem, wd_zero, *]
     ·exact below6 HW.out (by omega) _ _ _ _ _ _
   ·have hks : k = s.size := by omega
    subst hks
    have hfin : Hid (prv s = .tuple #[N (pvv s s.size), .int .i64 0]) := by
     show prv s = _
     unfold prv
     rw [if_pos hok]
    obtain ⟨s0, s1, s2, s3, s4, s5⟩ := hS.reads
    obtain ⟨z0, z1, z2, z3, z4, z5⟩ := hZ.writes
    obtain ⟨y0, y1, y2, y3, y4, y5⟩ := hZ.reads
    have HW : Hid _ := hw
    clear hZ hS hw hok
    go_wp2
    refine bodyPost_ret (v := .tuple #[N (pvv s s.size), .int .i64 0]) ?_ rfl ⟨by rw [hfin.out], ?_⟩
    ·simp [results, Tryz.results63, go_sem, *]
    ·exact below6 HW.out (by omega) _ _ _ _ _ _
end Go.Proofs.YtahgdighnlekdaaGreatDoor
end
section
namespace Go.Proofs.YtahgdighnlekdaaGreatDoor
open Go.RowKit
namespace Rg
theorem ex_madeQ {ρ : Operand → Value} {o : Oper} {w : World} (ho : o.op = .alloc 51) :
  (execOp ρ o).run Tryz.prog w = .ok (.value (.pointer (some ⟨w.heap.size, 0, none⟩))) (w.alloc (.cells ([Value.pointer none] : List Value).toArray 51)) := by
 simp only [execOp, ho]
 go_simp
theorem ex_storeQ {ρ : Operand → Value} {o : Oper} {x y : Operand} {g off g' : Nat} {cs : List Value} {w : World} {l : List (Nat × List Value)} (h : Mm w l) (k : Nat) (hk : l[k]? = some (g, cs)) (ho : o.op = .store 51 x y) (hx : ρ x = PT g off) (hy : ρ y = PT g' 0) (hc : off + 1 ≤ cs.length) :
  (execOp ρ o).run Tryz.prog w = .ok .skip (w.setCells g off [PT g' 0]) := by
 have hm := List.mem_of_getElem? hk
 have e : cs[off]? = some (cs[off]'(by omega)) := List.getElem?_eq_getElem _
 have c0 := h.cell hm e
 have f0 := h.free hm e
 clear h hm hk
 simp only [execOp, ho, hx, hy]
 go_simp
 simp [World.setCells]
theorem ex_buildFN {ρ : Operand → Value} {o : Oper} {x0 x1 x2 x3 x4 x5 : Operand} {f0 f1 f2 f3 f4 : Fn} {a0 a1 a2 a3 a4 b0 b1 b2 b3 b4 : Array Value} {u : Nat} {w : World} (ho : o.op = .build 99 #[(0, x0), (1, x1), (2, x2), (3, x3), (4, x4), (5, x5)]) (h0 : ρ x0 = .func f0 a0 b0) (h1 : ρ x1 = .func f1 a1 b1) (h2 : ρ x2 = .func f2 a2 b2) (h3 : ρ x3 = .func f3 a3 b3) (h4 : ρ x4 = .func f4 a4 b4) (h5 : ρ x5 = N u) : (execOp ρ o).run Tryz.prog w = .ok (.value (.agg ([Value.func f0 a0 b0, Value.func f1 a1 b1, Value.func f2 a2 b2, Value.func f3 a3 b3, Value.func f4 a4 b4] ++ cel [u]).toArray)) w := by
 simp only [execOp, ho, cel, List.cons_append, List.nil_append]
 go_simp
theorem ex_buildGN {ρ : Operand → Value} {o : Oper} {x0 x1 x2 x3 : Operand} {f0 f1 f2 f3 f4 f5 : Fn} {a0 a1 a2 a3 a4 a5 b0 b1 b2 b3 b4 b5 : Array Value} {u c : Nat} {k : Int} {w : World} (ho : o.op = .build 102 #[(0, x0), (1, x1), (2, x2), (3, x3)]) (h0 : ρ x0 = .agg ([Value.func f0 a0 b0, Value.func f1 a1 b1, Value.func f2 a2 b2, Value.func f3 a3 b3, Value.func f4 a4 b4] ++ cel [u]).toArray) (h1 : ρ x1 = N c) (h2 : ρ x2 = .func f5 a5 b5) (h3 : ρ x3 = .int .i64 k) : (execOp ρ o).run Tryz.prog w = .ok (.value (.agg ([Value.func f0 a0 b0, Value.func f1 a1 b1, Value.func f2 a2 b2, Value.func f3 a3 b3, Value.func f4 a4 b4] ++ (cel [u, c] ++ [Value.func f5 a5 b5, Value.int .i64 k])).toArray)) w := by
 simp only [cel, List.cons_append, List.nil_append] at h0
 simp only [execOp, ho, cel, List.cons_append, List.nil_append]
 go_simp
theorem number_gen (sv : Value) (y : Nat) (ca : ∀ w, Calls Tryz.prog 63 #[sv] w (Rt w (.tuple #[N y, .int .i64 0]))) (w : World) :
  Calls Tryz.prog 41 #[sv] w (Rt w (N y)) := by
 have H0 : Hid (_ ∧ _) := ⟨Mm.nil w, Below.refl w.heap.size w⟩
 have CA : Hid _ := ca
 clear ca
 go_enter Tryz.func41, Tryz.ntmps41
 refine wp_seq ?_
 refine zD 1 [.made zero6 24] (sB H0) ?ho1 ?he1
 case ho1 => exact am (zH rfl) trivial
 intro J w1 l hM hl
 have H1 : Hid (Mm w1 [(J 0, zero6)] ∧ _) := wB H0 hM hl [0]
 have o1_0 := vB H0 hM hl 0
 clear hM hl l
 generalize J 0 = J1_0 at H1 o1_0 ⊢
 clear J
 refine rN (wp_seq ?_)
 refine zD 8 [.q (sv), .call (.tuple #[N y, .int .i64 0]), .q (.tuple #[N y, .int .i64 0]), .q (N y), .q (.int .i64 0), .made zero6 24, .laid 5 zero6 (zC y), .q (.int .i64 0)] (sB H1) ?ho2 ?he2 (hL := ?hL2)
 case hL2 => exact ⟨⟨_, rfl⟩, trivial⟩
 case ho2 => exact ar (ac (fun w' h => eC call63 (CA.out w')) (ar (ag (ag (am (zH rfl) (ak (fun J => ⟨rfl, rfl, rfl, fun w' h => zL h rfl rfl rfl⟩) (ar trivial)))))))
 intro J w2 l hM hl
 have H2 : Hid (Mm w2 ([(J 5, zC y)] ++ _) ∧ _) := wB H1 hM hl [5]
 have o2_5 := vB H1 hM hl 5
 clear hM hl l H1
 generalize J 5 = J2_5 at H2 o2_5 ⊢
 clear J
 refine rN (wp_seq ?_)
 refine zB 1 [.q (N y)] H2 ?ho3 ?he3
 case ho3 => exact bN 0 trivial
 intro _ w3 H3
 clear H2
 refine zF (l := [1]) rfl ?_
 refine sG rfl (fun h => zM h 1 rfl rfl rfl rfl (Nat.le_of_ble_eq_true rfl)) 1 [_, (_, zC y)] H3 o1_0 fun w4 H4 => ?_
 clear H3
 refine zE (zA (wp_ret ?_))
 repeat (first | refine zJ ?_ | refine zI ?_)
 have c0 := H4.out.1.get 1 rfl 0 rfl
 have c1 := H4.out.1.get 1 rfl 1 rfl
 have c2 := H4.out.1.get 1 rfl 2 rfl
 have c3 := H4.out.1.get 1 rfl 3 rfl
 have c4 := H4.out.1.get 1 rfl 4 rfl
 have c5 := H4.out.1.get 1 rfl 5 rfl
 refine bodyPost_ret (v := N y) (by simp [results, Tryz.results41, go_sem, *]) rfl ?_
 exact ⟨rfl, H4.out.2⟩
def bs_gx : ByteArray := ⟨#[49, 55, 102, 49, 100, 51, 97, 55, 51, 49, 57, 55, 100, 55, 57, 52, 50, 54, 57, 53, 54, 51, 56, 99, 52, 102, 97, 57, 97, 99, 48, 102, 99, 51, 54, 56, 56, 99, 52, 102, 57, 55, 55, 52, 98, 57, 48, 53, 97, 49, 52, 101, 51, 97, 51, 102, 49, 55, 49, 98, 97, 99, 53, 56, 54, 99, 53, 53, 101, 56, 51, 102, 102, 57, 55, 97, 49, 97, 101, 102, 102, 98, 51, 97, 102, 48, 48, 97, 100, 98, 50, 50, 99, 54, 98, 98]⟩
def gx : Nat := 3685416753713387016781088315183077757961620795782546409894578378688607592378376318836054947676345821548104185464507
theorem parse_gx (w : World) : Calls Tryz.prog 63 #[.string bs_gx] w (Rt w (.tuple #[N gx, .int .i64 0])) := by
 have h := parse_loop bs_gx (by decide +kernel) (by decide +kernel) (Or.inl (by decide +kernel)) w
 have e : prv bs_gx = .tuple #[N gx, .int .i64 0] := by
  unfold prv
  rw [if_pos (by decide +kernel), show pvv bs_gx bs_gx.size = gx by decide +kernel]
 rw [e] at h
 exact h
theorem numb_gx (w : World) : Calls Tryz.prog 41 #[.string bs_gx] w (Rt w (N gx)) := number_gen _ gx parse_gx w
def bs_gy : ByteArray := ⟨#[56, 98, 51, 102, 52, 56, 49, 101, 51, 97, 97, 97, 48, 102, 49, 97, 48, 57, 101, 51, 48, 101, 100, 55, 52, 49, 100, 56, 97, 101, 52, 102, 99, 102, 53, 101, 48, 57, 53, 100, 53, 100, 48, 48, 97, 102, 54, 48, 48, 100, 98, 49, 56, 99, 98, 50, 99, 48, 52, 98, 51, 101, 100, 100, 48, 51, 99, 99, 55, 52, 52, 97, 50, 56, 56, 56, 97, 101, 52, 48, 99, 97, 97, 50, 51, 50, 57, 52, 54, 99, 53, 101, 55, 101, 49]⟩
def gy : Nat := 1339506544944476473020471379941921221584933875938349620426543736416511423956333506472724655353366534992391756441569
theorem parse_gy (w : World) : Calls Tryz.prog 63 #[.string bs_gy] w (Rt w (.tuple #[N gy, .int .i64 0])) := by
 have h := parse_loop bs_gy (by decide +kernel) (by decide +kernel) (Or.inl (by decide +kernel)) w
 have e : prv bs_gy = .tuple #[N gy, .int .i64 0] := by
  unfold prv
  rw [if_pos (by decide +kernel), show pvv bs_gy bs_gy.size = gy by decide +kernel]
 rw [e] at h
 exact h
theorem numb_gy (w : World) : Calls Tryz.prog 41 #[.string bs_gy] w (Rt w (N gy)) := number_gen _ gy parse_gy w
def hx0 : Nat := 352701069587466618187139116011060144890029952792775240219908644239793785735715026873347600343865175952761926303160
def hy0 : Nat := 1985150602287291935568054521177171638300868978215655730859378665066344726373823718423869104263333984641494340347905
def hy1 : Nat := 927553665492332455747201965776037880757740193453592970025027978793976877002675564980949289727957565575433344219582
def bs_tr : ByteArray := ⟨#[53, 102, 49, 57, 54, 55, 50, 102, 100, 102, 55, 54, 99, 101, 53, 49, 98, 97, 54, 57, 99, 54, 48, 55, 54, 97, 48, 102, 55, 55, 101, 97, 100, 100, 98, 51, 97, 57, 51, 98, 101, 54, 102, 56, 57, 54, 56, 56, 100, 101, 49, 55, 100, 56, 49, 51, 54, 50, 48, 97, 48, 48, 48, 50, 50, 101, 48, 49, 102, 102, 102, 102, 102, 102, 102, 101, 102, 102, 102, 101]⟩
def tr : Nat := 793479390729215512621379701633421447060886740281060493010456487427281649075476305620758731620350
theorem parse_tr (w : World) : Calls Tryz.prog 63 #[.string bs_tr] w (Rt w (.tuple #[N tr, .int .i64 0])) := by
 have h := parse_loop bs_tr (by decide +kernel) (by decide +kernel) (Or.inl (by decide +kernel)) w
 have e : prv bs_tr = .tuple #[N tr, .int .i64 0] := by
  unfold prv
  rw [if_pos (by decide +kernel), show pvv bs_tr bs_tr.size = tr by decide +kernel]
 rw [e] at h
 exact h
theorem numb_tr (w : World) : Calls Tryz.prog 41 #[.string bs_tr] w (Rt w (N tr)) := number_gen _ tr parse_tr w
theorem gen1_gen (qgx qgy : Nat) (cgx : ∀ w, Calls Tryz.prog 41 #[.string bs_gx] w (Rt w (N qgx))) (cgy : ∀ w, Calls Tryz.prog 41 #[.string bs_gy] w (Rt w (N qgy))) (w : World) :
  Calls Tryz.prog 21 #[] w (Rt w (.agg (pc1 qgx qgy false).toArray)) := by
 have H0 : Hid (_ ∧ _) := ⟨Mm.nil w, Below.refl w.heap.size w⟩
 have CGX : Hid _ := cgx
 clear cgx
 have CGY : Hid _ := cgy
 clear cgy
 go_enter Tryz.func21, Tryz.ntmps21
 refine wp_seq ?_
 refine zD 1 [.made (pc1 0 0 false) 33] (sB H0) ?ho1 ?he1
 case ho1 => exact am (ex_madeP1 rfl) trivial
 intro J w1 l hM hl
 have H1 : Hid (Mm w1 [(J 0, pc1 0 0 false)] ∧ _) := wB H0 hM hl [0]
 have o1_0 := vB H0 hM hl 0
 clear hM hl l
 generalize J 0 = J1_0 at H1 o1_0 ⊢
 clear J
 refine rN (wp_seq ?_)
 refine zB 3 [.call (N qgx), .call (N qgy), .q (.agg (pc1 qgx qgy false).toArray)] H1 ?ho2 ?he2
 case ho2 => exact ac (fun w' h => eC call41 (CGX.out w')) (ac (fun w' h => eC call41 (CGY.out w')) (ak (fun J => ⟨rfl, fun w' _ => ex_buildP1xy rfl rfl rfl⟩) trivial))
 intro _ w2 H2
 clear H1
 refine zF (l := [3]) rfl ?_
 refine sG rfl (fun h => ex_storeT (vs := pc1 qgx qgy false) h 0 rfl rfl rfl rfl As33 rfl (Nat.le_of_ble_eq_true rfl)) 0 [(_, pc1 qgx qgy false)] H2 o1_0 fun w3 H3 => ?_
 clear H2
 refine zE (zA (wp_ret ?_))
 repeat (first | refine zJ ?_ | refine zI ?_)
 have hf0 := var_T H3.out.1 0 rfl Ai33 As33 rfl
 refine bodyPost_ret (v := .agg (pc1 qgx qgy false).toArray) (by simp [results, Tryz.results21, asAddr, hf0]) rfl ?_
 exact ⟨rfl, H3.out.2⟩
theorem belowG_gen (a n : Nat) (r : Int) (cb : ∀ w, Calls Tryz.prog 70 #[] w (Rt w (N n))) (cc : ∀ w, Calls Tryz.prog 42 #[N a, N n] w (Rt w (.int .i64 r))) (bl : Bool) (hr : decide (r < 0) = bl) (w : World) :
  Calls Tryz.prog 72 #[N a] w (Rt w (.bool bl)) := by
 have H0 : Hid (_ ∧ _) := ⟨Mm.nil w, Below.refl w.heap.size w⟩
 have CB : Hid _ := cb
 clear cb
 have CC : Hid _ := cc
 clear cc
 have HR : Hid _ := hr
 clear hr
 go_enter Tryz.func72, Tryz.ntmps72
 refine wp_seq ?_
 refine zD 2 [.made (zC a) 24, .q (.bool false)] (sB H0) ?ho1 ?he1
 case ho1 => exact am (ex_box6 rfl rfl) (ar trivial)
 intro J w1 l hM hl
 have H1 : Hid (Mm w1 [(J 0, zC a)] ∧ _) := wB H0 hM hl [0]
 have o1_0 := vB H0 hM hl 0
 clear hM hl l
 generalize J 0 = J1_0 at H1 o1_0 ⊢
 clear J
 refine rN (wp_seq ?_)
 refine zP 5 [.q (N a), .call (N n), .call (.int .i64 r), .q (.bool bl), .q (.bool bl)] H1 ?ho2 ?he2
 case ho2 => exact bN 0 (ac (fun w' h => eC call70 (CB.out w')) (ac (fun w' h => eC call42 (CC.out w')) (ak (by refine fun J => ⟨rfl, fun w' h => ?_⟩; clear h; rw [← HR.out]; go_simp) (ar trivial))))
 intro _ w2 H2
 clear H1
 refine rN (wp_ret ?_)
 repeat (first | refine zJ ?_ | refine zI ?_)
 refine bodyPost_ret (v := .bool bl) (by simp [results, Tryz.results72, go_sem, *]) rfl ?_
 exact ⟨rfl, H2.out.2⟩
/-! Elements of twelve parts over the integers: number j of them is a j; w to the power 6 is 1 + i. -/
end Rg
end Go.Proofs.YtahgdighnlekdaaGreatDoor
end
section
namespace Go.Proofs.YtahgdighnlekdaaGreatDoor
open Go.RowKit
namespace Rg
open NT
/-! What p divides. -/
def Dv (x : Int) : Prop := (pB : Int) ∣ x
theorem pz_iff (x y : Int) : pz x = pz y ↔ Dv (x - y) := by
 have hx := pz_cast x
 have hy := pz_cast y
 constructor
 ·intro h
  exact Int.dvd_of_emod_eq_zero (Int.emod_eq_emod_iff_emod_sub_eq_zero.1 (by rw [← hx, ← hy, h]))
 ·intro h
  exact pz_congr (Int.emod_eq_emod_iff_emod_sub_eq_zero.2 (Int.emod_eq_zero_of_dvd h))
theorem pz_zero_iff (x : Int) : pz x = 0 ↔ Dv x := by
 rw [← pz_zero, pz_iff, Int.sub_zero]
theorem Dv.add {x y : Int} (h : Dv x) (k : Dv y) : Dv (x + y) := Int.dvd_add h k
theorem Dv.sub {x y : Int} (h : Dv x) (k : Dv y) : Dv (x - y) := Int.dvd_sub h k
theorem Dv.mul {x : Int} (h : Dv x) (y : Int) : Dv (y * x) := Int.dvd_trans h (Int.dvd_mul_left y x)
theorem Dv.mulr {x : Int} (h : Dv x) (y : Int) : Dv (x * y) := Int.dvd_trans h (Int.dvd_mul_right x y)
theorem Dv.of {x y : Int} (h : Dv x) (e : x = y) : Dv y := e ▸ h
theorem dv_zero : Dv 0 := Int.dvd_zero _
theorem pB_prm : Prm pB := prm_p
theorem dv_nat (x : Int) : Dv x ↔ pB ∣ x.natAbs := Int.ofNat_dvd_left
theorem Dv.prime {x y : Int} (h : Dv (x * y)) : Dv x ∨ Dv y := by
 rw [dv_nat, Int.natAbs_mul] at h
 rw [dv_nat, dv_nat]
 exact pB_prm.mul h
/-- A number for an integer, with the power that leaves 1. -/
theorem unit_pow {x : Int} (h : ¬ Dv x) : pz x ^ (pB - 1) % pB = 1 :=
 fermat1 pB_prm (pz x) (fun hd => h (by
  rw [← pz_zero_iff]
  obtain ⟨k, hk⟩ := hd
  have := pz_lt x
  rcases Nat.eq_zero_or_pos k with h0 | h0
  ·rw [hk, h0, Nat.mul_zero]
  ·have := Nat.mul_le_mul (Nat.le_refl pB) h0
   omega))
theorem pow_dv {x : Int} (h : Dv x) : ∀ n, 0 < n → pz x ^ n % pB = 0 := fun n hn => by
 rw [(pz_zero_iff x).2 h, Nat.zero_pow hn, Nat.zero_mod]
def eP : Nat := 1000602388805416848354447456433976039139220704984751971333014534031007912622709466110671907282253916009473568139946
theorem pz_mod (x y : Int) (h : Dv (x - y)) : pz x = pz y := (pz_iff x y).2 h
theorem pz_mulN (x y : Int) : pz (x * y) = pz x * pz y % pB := by
 rw [← pz_mul, ← Int.natCast_mul, pz_nat]
def eT : Nat := 1334136518407222464472596608578634718852294273313002628444019378708010550163612621480895876376338554679298090853262
theorem pB_three : pB - 1 = 3 * eT := by decide +kernel
theorem two_third : 2 ^ eT % pB = 793479390729215512621379701633421447060886740281060493010456487427281649075476305620758731620350 := pm_eq (by decide +kernel)
/-- 2 is no cube. -/
theorem two_cb {m k : Int} (h : Dv (m * (m * m) - 2 * (k * (k * k)))) : Dv k := by
 by_cases hk : Dv k
 ·exact hk
 ·exfalso
  have uk := unit_pow hk
  have e : pz m * (pz m * pz m) % pB = 2 * (pz k * (pz k * pz k)) % pB := by
   have h1 := pz_mod _ _ h
   rw [pz_mulN, pz_mulN, pz_mulN, pz_mulN, pz_mulN, Nat.mul_mod_mod, Nat.mul_mod_mod] at h1
   rw [h1, show pz 2 = 2 by decide +kernel, Nat.mul_mod 2, Nat.mul_mod_mod (pz k), ← Nat.mul_mod 2]
  have c3 : ∀ x : Nat, x * (x * x) = x ^ 3 := fun x => by rw [Nat.pow_succ, Nat.pow_two, Nat.mul_assoc]
  rw [c3, c3] at e
  have e2 : (pz m ^ 3) ^ eT % pB = (2 * (pz k ^ 3)) ^ eT % pB := by rw [Nat.pow_mod, e, ← Nat.pow_mod]
  rw [Nat.mul_pow 2, Nat.mul_mod, two_third, ← Nat.pow_mul, ← Nat.pow_mul, ← pB_three, uk] at e2
  by_cases hm : Dv m
  ·rw [pow_dv hm _ (by decide +kernel)] at e2
   revert e2
   decide +kernel
  ·rw [unit_pow hm] at e2
   revert e2
   decide +kernel
/-! Pairs. -/
abbrev Z2 := Int × Int
def cm (a b : Z2) : Z2 := (a.1 * b.1 - a.2 * b.2, a.1 * b.2 + a.2 * b.1)
def ca (a b : Z2) : Z2 := (a.1 + b.1, a.2 + b.2)
def cs (a b : Z2) : Z2 := (a.1 - b.1, a.2 - b.2)
def cn (a : Z2) : Int := a.1 * a.1 + a.2 * a.2
def xi : Z2 := (1, 1)
def O2 (a : Z2) : Prop := Dv a.1 ∧ Dv a.2
theorem O2.mul {a : Z2} (h : O2 a) (b : Z2) : O2 (cm b a) := ⟨(h.1.mul b.1).sub (h.2.mul b.2), (h.2.mul b.1).add (h.1.mul b.2)⟩
theorem O2.add {a b : Z2} (h : O2 a) (k : O2 b) : O2 (ca a b) := ⟨h.1.add k.1, h.2.add k.2⟩
theorem O2.sub {a b : Z2} (h : O2 a) (k : O2 b) : O2 (cs a b) := ⟨h.1.sub k.1, h.2.sub k.2⟩
theorem O2.of {a b : Z2} (h : O2 a) (e : a = b) : O2 b := e ▸ h
theorem O2.cn {a : Z2} (h : O2 a) : Dv (cn a) := (h.1.mul a.1).add (h.2.mul a.2)
/-! Three parts: v v v is 1 + i. -/
def d0 (x y z : Z2) : Z2 := cs (cm x x) (cm xi (cm y z))
def d1 (x y z : Z2) : Z2 := cs (cm xi (cm z z)) (cm x y)
def d2 (x y z : Z2) : Z2 := cs (cm y y) (cm x z)
end Rg
end Go.Proofs.YtahgdighnlekdaaGreatDoor
end
section
namespace Go.Proofs.YtahgdighnlekdaaGreatDoor
namespace EC
open Ex in
def pairR {α : Type} (R : Rng α) : Rng (α × α) where
 add := fun f g => (R.add f.1 g.1, R.add f.2 g.2)
 mul := fun f g => (R.add (R.mul f.1 g.1) (R.neg (R.mul f.2 g.2)), R.add (R.mul f.1 g.2) (R.mul f.2 g.1))
 zero := (R.zero, R.zero)
 one := (R.one, R.zero)
 neg := fun f => (R.neg f.1, R.neg f.2)
 add_comm := fun f g => Prod.ext (R.add_comm _ _) (R.add_comm _ _)
 add_assoc := fun f g h => Prod.ext (R.add_assoc _ _ _) (R.add_assoc _ _ _)
 zero_add := fun f => Prod.ext (R.zero_add _) (R.zero_add _)
 neg_add := fun f => Prod.ext (R.neg_add _) (R.neg_add _)
 mul_comm := fun f g => Prod.ext
  (ring_f R f.1 f.2 g.1 g.2 R.zero R.zero R.zero R.zero (a (m (v 0) (v 2)) (n (m (v 1) (v 3)))) (a (m (v 2) (v 0)) (n (m (v 3) (v 1)))) (by decide +kernel))
  (ring_f R f.1 f.2 g.1 g.2 R.zero R.zero R.zero R.zero (a (m (v 0) (v 3)) (m (v 1) (v 2))) (a (m (v 2) (v 1)) (m (v 3) (v 0))) (by decide +kernel))
 mul_assoc := fun f g h => Prod.ext
  (ring_f R f.1 f.2 g.1 g.2 h.1 h.2 R.zero R.zero (a (m (a (m (v 0) (v 2)) (n (m (v 1) (v 3)))) (v 4)) (n (m (a (m (v 0) (v 3)) (m (v 1) (v 2))) (v 5)))) (a (m (v 0) (a (m (v 2) (v 4)) (n (m (v 3) (v 5))))) (n (m (v 1) (a (m (v 2) (v 5)) (m (v 3) (v 4)))))) (by decide +kernel))
  (ring_f R f.1 f.2 g.1 g.2 h.1 h.2 R.zero R.zero (a (m (a (m (v 0) (v 2)) (n (m (v 1) (v 3)))) (v 5)) (m (a (m (v 0) (v 3)) (m (v 1) (v 2))) (v 4))) (a (m (v 0) (a (m (v 2) (v 5)) (m (v 3) (v 4)))) (m (v 1) (a (m (v 2) (v 4)) (n (m (v 3) (v 5)))))) (by decide +kernel))
 one_mul := fun f => Prod.ext
  (ring_f R f.1 f.2 R.zero R.zero R.zero R.zero R.zero R.zero (a (m o (v 0)) (n (m z (v 1)))) (v 0) (by decide +kernel))
  (ring_f R f.1 f.2 R.zero R.zero R.zero R.zero R.zero R.zero (a (m o (v 1)) (m z (v 0))) (v 1) (by decide +kernel))
 mul_add := fun f g h => Prod.ext
  (ring_f R f.1 f.2 g.1 g.2 h.1 h.2 R.zero R.zero (a (m (v 0) (a (v 2) (v 4))) (n (m (v 1) (a (v 3) (v 5))))) (a (a (m (v 0) (v 2)) (n (m (v 1) (v 3)))) (a (m (v 0) (v 4)) (n (m (v 1) (v 5))))) (by decide +kernel))
  (ring_f R f.1 f.2 g.1 g.2 h.1 h.2 R.zero R.zero (a (m (v 0) (a (v 3) (v 5))) (m (v 1) (a (v 2) (v 4)))) (a (a (m (v 0) (v 3)) (m (v 1) (v 2))) (a (m (v 0) (v 5)) (m (v 1) (v 4)))) (by decide +kernel))
end EC
end Go.Proofs.YtahgdighnlekdaaGreatDoor
end
section
namespace Go.Proofs.YtahgdighnlekdaaGreatDoor
open Go.RowKit
namespace Rg
open NT
abbrev Fp := {n : Nat // n < pB}
theorem pB_pos : 0 < pB := pB_prm.pos
theorem pB_one : 1 < pB := pB_prm.1
theorem pB_four_lt : 4 < pB := by decide +kernel
def fpR : EC.Rng Fp where
 add := fun a b => ⟨(a.1 + b.1) % pB, Nat.mod_lt _ pB_pos⟩
 mul := fun a b => ⟨a.1 * b.1 % pB, Nat.mod_lt _ pB_pos⟩
 zero := ⟨0, pB_pos⟩
 one := ⟨1, pB_one⟩
 neg := fun a => ⟨(pB - a.1) % pB, Nat.mod_lt _ pB_pos⟩
 add_comm := fun a b => Subtype.ext (by dsimp only; rw [Nat.add_comm])
 add_assoc := fun a b c => Subtype.ext (by dsimp only; rw [Nat.mod_add_mod, Nat.add_mod_mod, Nat.add_assoc])
 zero_add := fun a => Subtype.ext (by dsimp only; rw [Nat.zero_add, Nat.mod_eq_of_lt a.2])
 neg_add := fun a => Subtype.ext (by
  dsimp only
  rw [Nat.mod_add_mod, Nat.sub_add_cancel (Nat.le_of_lt a.2), Nat.mod_self])
 mul_comm := fun a b => Subtype.ext (by dsimp only; rw [Nat.mul_comm])
 mul_assoc := fun a b c => Subtype.ext (by dsimp only; rw [Nat.mod_mul_mod, Nat.mul_mod_mod, Nat.mul_assoc])
 one_mul := fun a => Subtype.ext (by dsimp only; rw [Nat.one_mul, Nat.mod_eq_of_lt a.2])
 mul_add := fun a b c => Subtype.ext (by dsimp only; rw [Nat.mul_mod_mod, Nat.mul_add, Nat.add_mod])
def fpI (a : Fp) : Fp := ⟨invm pB a.1 % pB, Nat.mod_lt _ pB_pos⟩
theorem fp_gcd {a : Fp} (h : a ≠ fpR.zero) : Nat.gcd pB a.1 = 1 := by
 refine pB_prm.cop (fun hd => h ?_)
 refine Subtype.ext ?_
 show a.1 = 0
 have h2 := a.2
 rcases Nat.eq_zero_or_pos a.1 with h0 | h0
 ·exact h0
 ·have := Nat.le_of_dvd h0 hd
  omega
theorem fpI_val {a : Fp} (h : a ≠ fpR.zero) : (fpI a).1 = invm pB a.1 := Nat.mod_eq_of_lt (invm_spec pB_ok (fp_gcd h)).1
theorem fpI_mul (a : Fp) (h : a ≠ fpR.zero) : fpR.mul (fpI a) a = fpR.one := by
 refine Subtype.ext ?_
 show (fpI a).1 * a.1 % pB = 1
 rw [fpI_val h]
 exact (invm_spec pB_ok (fp_gcd h)).2
def fp4 : Fp := ⟨4, pB_four_lt⟩
theorem not_dv {k : Nat} (h0 : 0 < k) (h : k < pB) : ¬ Dv (k : Int) := fun hd => by
 have := Nat.le_of_dvd h0 ((dv_nat (k : Int)).1 hd)
 omega
theorem side_dv {t : Fp} (h : EC.side fpR fp4 t = fpR.zero) : Dv ((t.1 : Int) * ((t.1 : Int) * t.1) + 4) := by
 have e : (t.1 * (t.1 * t.1 % pB) % pB + 4) % pB = 0 := congrArg Subtype.val h
 rw [Nat.mul_mod_mod, Nat.mod_add_mod] at e
 have hd : (pB : Int) ∣ ((t.1 * (t.1 * t.1) + 4 : Nat) : Int) := Int.ofNat_dvd.2 (Nat.dvd_of_mod_eq_zero e)
 rw [Int.natCast_add, Int.natCast_mul, Int.natCast_mul] at hd
 exact hd
theorem fp_cube (t : Fp) : EC.side fpR fp4 t ≠ fpR.zero := fun h => by
 have hd := side_dv h
 have h2 : Dv (2 : Int) := two_cb (m := (t.1 : Int) * t.1) (k := 2) ((hd.mul ((t.1 : Int) * ((t.1 : Int) * t.1) - 4)).of (by grind))
 exact not_dv (k := 2) (by decide) (by decide +kernel) h2
theorem fp_two : fpR.add fpR.one fpR.one ≠ fpR.zero := fun h => by
 have e : (1 + 1) % pB = 0 := congrArg Subtype.val h
 revert e
 decide +kernel
theorem fp_one : fpR.one ≠ fpR.zero := fun h => absurd (congrArg Subtype.val h) (by decide)
/-- The first curve. -/
def Inv1 (I : Fp → Fp) : Prop := ∀ a, a ≠ fpR.zero → fpR.mul (I a) a = fpR.one
theorem inv1_ex : ∃ I, Inv1 I := ⟨fpI, fpI_mul⟩
def K1 {I : Fp → Fp} (hI : Inv1 I) : EC.Crv Fp := ⟨fpR, I, fp4, hI, fp_cube, fp_one, fp_two⟩
/-! Pairs. -/
abbrev Fq := Fp × Fp
def fqR : EC.Rng Fq := EC.pairR fpR
def fq4 : Fq := (fp4, fp4)
theorem fpz (a b : Fp) : (((fpR.add a b).1 : Nat) : Int) % pB = ((a.1 : Int) + b.1) % pB := by
 show (((a.1 + b.1) % pB : Nat) : Int) % pB = _
 rw [Int.natCast_emod, Int.emod_emod, Int.natCast_add]
theorem fpm (a b : Fp) : (((fpR.mul a b).1 : Nat) : Int) % pB = ((a.1 : Int) * b.1) % pB := by
 show (((a.1 * b.1) % pB : Nat) : Int) % pB = _
 rw [Int.natCast_emod, Int.emod_emod, Int.natCast_mul]
theorem fpn (a : Fp) : (((fpR.neg a).1 : Nat) : Int) % pB = (-(a.1 : Int)) % pB := by
 show (((pB - a.1) % pB : Nat) : Int) % pB = _
 rw [Int.natCast_emod, Int.emod_emod, Int.ofNat_sub (Nat.le_of_lt a.2), Int.sub_eq_add_neg, Int.add_emod_left]
/-- A number of the field is congruent to an integer. -/
def Cg (a : Fp) (x : Int) : Prop := Dv ((a.1 : Int) - x)
theorem cg_of {a : Fp} {x : Int} (h : ((a.1 : Nat) : Int) % pB = x % pB) : Cg a x := Int.dvd_of_emod_eq_zero (Int.emod_eq_emod_iff_emod_sub_eq_zero.1 h)
theorem Cg.add {a b : Fp} {x y : Int} (h : Cg a x) (k : Cg b y) : Cg (fpR.add a b) (x + y) := by
 have e : Dv (((fpR.add a b).1 : Int) - ((a.1 : Int) + b.1)) := cg_of (fpz a b)
 have h1 : Dv ((a.1 : Int) - x) := h
 have h2 : Dv ((b.1 : Int) - y) := k
 exact Dv.of ((e.add h1).add h2) (by omega)
theorem Cg.mul {a b : Fp} {x y : Int} (h : Cg a x) (k : Cg b y) : Cg (fpR.mul a b) (x * y) := by
 show Dv (((fpR.mul a b).1 : Int) - x * y)
 have e : Dv (((fpR.mul a b).1 : Int) - ((a.1 : Int) * b.1)) := cg_of (fpm a b)
 have h1 : Dv ((a.1 : Int) - x) := h
 have h2 : Dv ((b.1 : Int) - y) := k
 have h3 := h1.mulr (b.1 : Int)
 have h4 := h2.mul x
 clear h k h1 h2
 generalize ((fpR.mul a b).1 : Int) = m at *
 generalize (a.1 : Int) = u at *
 generalize (b.1 : Int) = v at *
 exact Dv.of ((e.add h3).add h4) (by grind)
theorem Cg.neg {a : Fp} {x : Int} (h : Cg a x) : Cg (fpR.neg a) (-x) := by
 have e : Dv (((fpR.neg a).1 : Int) - -(a.1 : Int)) := cg_of (fpn a)
 have h1 : Dv ((a.1 : Int) - x) := h
 exact Dv.of (e.sub h1) (by omega)
theorem Cg.zero {a : Fp} {x : Int} (h : Cg a x) (e : a = fpR.zero) : Dv x := by
 subst e
 exact ((dv_zero).sub h).of (by show 0 - (((0 : Nat) : Int) - x) = x; omega)
end Rg
end Go.Proofs.YtahgdighnlekdaaGreatDoor
end
section
namespace Go.Proofs.YtahgdighnlekdaaGreatDoor
namespace EC
section
variable {β : Type _} (O : Ops β)
def ptog (b : β) (p q : Tri β) : Tri β :=
 let xx := O.mul p.1 q.1
 let yy := O.mul p.2.1 q.2.1
 let zz := O.mul p.2.2 q.2.2
 let xy := osub O (O.mul (O.add p.1 p.2.1) (O.add q.1 q.2.1)) (O.add xx yy)
 let yz := osub O (O.mul (O.add p.2.1 p.2.2) (O.add q.2.1 q.2.2)) (O.add yy zz)
 let xz := osub O (O.mul (O.add p.1 p.2.2) (O.add q.1 q.2.2)) (O.add xx zz)
 let xx3 := o3 O xx
 let xz3 := o3 O (O.mul b xz)
 let zz3 := o3 O (O.mul b zz)
 let less := osub O yy zz3
 let more := O.add yy zz3
 (osub O (O.mul less xy) (O.mul yz xz3), O.add (O.mul less more) (O.mul xx3 xz3), O.add (O.mul more yz) (O.mul xx3 xy))
end
section
variable {α : Type} (C : Crv α)
open Ex in
theorem Crv.ptog_eq (A B : Tri α) : ptog (rops C.R) C.b A B = C.tog A B := by
 obtain ⟨x1, y1, z1⟩ := A
 obtain ⟨x2, y2, z2⟩ := B
 refine Prod.ext ?_ (Prod.ext ?_ ?_)
 ·exact ring_f C.R C.b x1 y1 z1 x2 y2 z2 C.b (ptog exo (v 0) (v 1, v 2, v 3) (v 4, v 5, v 6)).1 (EC.tog exo (v 0) (v 1, v 2, v 3) (v 4, v 5, v 6)).1 (by decide +kernel)
 ·exact ring_f C.R C.b x1 y1 z1 x2 y2 z2 C.b (ptog exo (v 0) (v 1, v 2, v 3) (v 4, v 5, v 6)).2.1 (EC.tog exo (v 0) (v 1, v 2, v 3) (v 4, v 5, v 6)).2.1 (by decide +kernel)
 ·exact ring_f C.R C.b x1 y1 z1 x2 y2 z2 C.b (ptog exo (v 0) (v 1, v 2, v 3) (v 4, v 5, v 6)).2.2 (EC.tog exo (v 0) (v 1, v 2, v 3) (v 4, v 5, v 6)).2.2 (by decide +kernel)
end
section
variable {α : Type} [DecidableEq α] (C : Crv α)
/-! Digits of a word, and six words: what the rounds come to. -/
theorem Crv.times_step {P : Option (α × α)} (h : C.on P) (n d : Nat) : C.add (C.times P (16 * n)) (C.times P d) = C.times P (16 * n + d) := (C.times_add h _ _).symm
theorem Crv.times_two {P : Option (α × α)} (h : C.on P) (n : Nat) : C.add (C.times P n) (C.times P n) = C.times P (2 * n) := by
 rw [← C.times_add h, show n + n = 2 * n by omega]
theorem Crv.times_sixteen {P : Option (α × α)} (h : C.on P) (n : Nat) {T : Tri α} (hT : C.rep T (C.times P n)) : C.rep (C.twice (C.twice (C.twice (C.twice T)))) (C.times P (16 * n)) := by
 have o := fun k => C.times_on h k
 have h1 := C.rep_twice hT (o n)
 rw [C.times_two h] at h1
 have h2 := C.rep_twice h1 (o _)
 rw [C.times_two h] at h2
 have h3 := C.rep_twice h2 (o _)
 rw [C.times_two h] at h3
 have h4 := C.rep_twice h3 (o _)
 rw [C.times_two h] at h4
 rw [show 16 * n = 2 * (2 * (2 * (2 * n))) by omega]
 exact h4
end
end EC
end Go.Proofs.YtahgdighnlekdaaGreatDoor
end
section
namespace Go.Proofs.YtahgdighnlekdaaGreatDoor
open Go.RowKit
namespace Rg
end Rg
end Go.Proofs.YtahgdighnlekdaaGreatDoor
end
section
namespace Go.Proofs.YtahgdighnlekdaaGreatDoor
open Go.RowKit
namespace Rg
open NT
end Rg
end Go.Proofs.YtahgdighnlekdaaGreatDoor
end
section
namespace Go.Proofs.YtahgdighnlekdaaGreatDoor
open Go.RowKit
namespace Rg
open NT
def p0 (a : Fp) : Nat := a.1
def q0 (a : Fq) : Nat := a.1.1
def q1 (a : Fq) : Nat := a.2.1
theorem p0_big (a : Fp) : p0 a < big := Nat.lt_trans a.2 pB_lt
theorem sub_val {I : Fp → Fp} (hI : Inv1 I) (x y : Fp) : subm pB (p0 x) (p0 y) = p0 (EC.osub (EC.rops (K1 hI).R) x y) := by
 show (x.1 + (pB - y.1 % pB)) % pB = (x.1 + (pB - y.1) % pB) % pB
 rw [Nat.mod_eq_of_lt y.2, Nat.add_mod_mod]
theorem iv_I {I : Fp → Fp} (hI : Inv1 I) {x : Fp} (hx : x ≠ fpR.zero) : invm pB (p0 x) = p0 ((K1 hI).inv x) := invm_eq (I x).2 (congrArg Subtype.val (hI x hx))
theorem va_1 {I : Fp → Fp} (hI : Inv1 I) (x y : Fp) : (p0 x + p0 y) % pB = p0 ((K1 hI).R.add x y) := rfl
theorem vm_1 {I : Fp → Fp} (hI : Inv1 I) (x y : Fp) : p0 x * p0 y % pB = p0 ((K1 hI).R.mul x y) := rfl
theorem vz_1 {I : Fp → Fp} (hI : Inv1 I) : p0 (K1 hI).R.zero = 0 := rfl
theorem fd1 {I : Fp → Fp} (hI : Inv1 I) (g : Nat) : Fd1 g p0 (K1 hI).R.add (EC.osub (EC.rops (K1 hI).R)) (K1 hI).R.mul (K1 hI).inv (K1 hI).R.zero where
 ca := fun x y w hm => by
  have h := addm_any (g := g) pB_ok (p0_big x) (p0_big y) w (hm.one 0 rfl)
  rw [va_1 hI] at h
  exact h
 cs := fun x y w hm => by
  have h := subm_any (g := g) pB_ok (p0_big x) (p0_big y) w (hm.one 0 rfl)
  rw [sub_val hI] at h
  exact h
 cm := fun x y w hm => by
  have h := mulm_any (g := g) pB_ok (p0_big x) (p0_big y) w (hm.one 0 rfl)
  rw [vm_1 hI] at h
  exact h
 cz := fun x w hm => by
  have h := subm_any (g := g) pB_ok (p0_big (K1 hI).R.zero) (p0_big x) w (hm.one 0 rfl)
  rw [sub_val hI, vz_1 hI] at h
  exact h
 ci := fun x w hx hm => by
  have h := inv_ok (g := g) pB_ok (p0_big x) (fp_gcd hx) w hm
  rw [iv_I hI hx] at h
  exact h
end Rg
end Go.Proofs.YtahgdighnlekdaaGreatDoor
end
section
namespace Go.Proofs.YtahgdighnlekdaaGreatDoor
open Go.RowKit
namespace Rg
set_option maxHeartbeats 2000000 in
theorem first3_gen (n one four : Nat) (qtr : Nat) (ctr : ∀ w, Calls Tryz.prog 41 #[.string bs_tr] w (Rt w (N qtr))) (co : ∀ w, Calls Tryz.prog 6 #[.int .u64 1] w (Rt w (N one))) (cf : ∀ w, Calls Tryz.prog 6 #[.int .u64 4] w (Rt w (N four))) (cb : ∀ w, Calls Tryz.prog 70 #[] w (Rt w (N n))) (cn : ∀ w, Calls Tryz.prog 32 #[N n] w fun e w' => Below w.heap.size w w' ∧ ∃ g, e = .returned (.tuple #[PT g 0, .int .i64 0]) ∧ w.heap.size ≤ g ∧ g < w'.heap.size ∧ Blk w' g (zQ n)) (w : World) :
  Calls Tryz.prog 47 #[] w fun e w' => Below w.heap.size w w' ∧ ∃ g x y, e = .returned (.agg (G1 g (.func (.func 73) #[] #[PT x 0, PT y 0]) one four).toArray) ∧ (∀ q ∈ [(g, zQ n), (x, [PT g 0]), (y, zC qtr)], w.heap.size ≤ q.1) ∧ Mm w' [(g, zQ n), (x, [PT g 0]), (y, zC qtr)] := by
 have H0 : Hid (_ ∧ _) := ⟨Mm.nil w, Below.refl w.heap.size w⟩
 have CTR : Hid _ := ctr
 clear ctr
 have CO : Hid _ := co
 clear co
 have CF : Hid _ := cf
 clear cf
 have CB : Hid _ := cb
 clear cb
 have CN : Hid _ := cn
 clear cn
 go_enter Tryz.func47, Tryz.ntmps47
 refine wp_seq ?_
 refine zD 1 [.made ([Value.nilFunc, Value.nilFunc, Value.nilFunc, Value.nilFunc, Value.nilFunc] ++ (cel [0, 0] ++ [Value.nilFunc, Value.int .i64 0])) 102] (sB H0) ?ho1 ?he1
 case ho1 => exact am (ex_madeGN rfl) trivial
 intro J w1 l hM hl
 have H1 : Hid (Mm w1 [(J 0, [Value.nilFunc, Value.nilFunc, Value.nilFunc, Value.nilFunc, Value.nilFunc] ++ (cel [0, 0] ++ [Value.nilFunc, Value.int .i64 0]))] ∧ _) := wB H0 hM hl [0]
 have o1_0 := vB H0 hM hl 0
 clear hM hl l
 generalize J 0 = J1_0 at H1 o1_0 ⊢
 clear J
 refine rN (wp_seq ?_)
 refine zD 2 [.call (N n), .born (fun g => .tuple #[PT g 0, .int .i64 0]) (zQ n)] (sB H1) ?ho2 ?he2
 case ho2 => exact ak (fun J => ⟨rfl, fun w' h => eC call70 (CB.out w')⟩) (ak (fun J => ⟨rfl, fun w' h => eC call32 (CN.out w')⟩) trivial)
 intro J w2 l hM hl
 have H2 : Hid (Mm w2 ([(J 1, zQ n)] ++ _) ∧ _) := wB H1 hM hl [1]
 have o2_1 := vB H1 hM hl 1
 clear hM hl l H1
 generalize J 1 = J2_1 at H2 o2_1 ⊢
 clear J
 refine zF (l := [2, 3, 4, 5, 6, 7]) rfl ?_
 refine zG (d := 4) rfl rfl rfl rfl ?_
 simp only [Act.put, sa, sz, ss]
 refine zG (d := 7) (v := PT J2_1 0) (w' := w2) rfl rfl rfl (by go_simp) ?_
 simp only [Act.put, sa, sz, ss]
 refine zG (d := 8) (v := .int .i64 0) (w' := w2) rfl rfl rfl (by go_simp) ?_
 simp only [Act.put, sa, sz, ss]
 refine zG (d := 1) (v := PT w2.heap.size 0) (w' := w2.alloc (.cells ([Value.pointer none] : List Value).toArray 51)) rfl rfl rfl (ex_madeQ rfl) ?_
 simp only [Act.put, sa, sz, ss]
 have o_Js3 : Hid (w.heap.size ≤ w2.heap.size) := H2.out.2.size
 have H3 : Hid (Mm (w2.alloc (.cells ([Value.pointer none] : List Value).toArray 51)) ((w2.heap.size, [Value.pointer none]) :: [(J2_1, zQ n), (J1_0, [Value.nilFunc, Value.nilFunc, Value.nilFunc, Value.nilFunc, Value.nilFunc] ++ (cel [0, 0] ++ [Value.nilFunc, Value.int .i64 0]))]) ∧ Below w.heap.size w (w2.alloc (.cells ([Value.pointer none] : List Value).toArray 51))) := ⟨H2.out.1.alloc _ 51 rfl, H2.out.2.alloc H2.out.2.size _⟩
 clear H2
 generalize hgw : w2.alloc (.cells ([Value.pointer none] : List Value).toArray 51) = w3 at H3 ⊢
 clear hgw
 generalize w2.heap.size = Js3 at o_Js3 H3 ⊢
 refine sG rfl (fun h => ex_storeQ h 0 rfl rfl rfl rfl (Nat.le_of_ble_eq_true rfl)) 0 [(_, [PT J2_1 0]), _, _] H3 o_Js3 fun w4 H4 => ?_
 clear H3
 refine zG (d := 2) rfl rfl rfl rfl ?_
 simp only [Act.put, sa, sz, ss]
 refine zE (zA (wp_seq ?_))
 refine zD 3 [.call (N qtr), .made zero6 24, .laid 1 zero6 (zC qtr)] (sB H4) ?ho3 ?he3 (hL := ?hL3)
 case hL3 => exact ⟨⟨_, rfl⟩, trivial⟩
 case ho3 => exact ac (fun w' h => eC call41 (CTR.out w')) (am (zH rfl) (ak (fun J => ⟨rfl, rfl, rfl, fun w' h => zL h rfl rfl rfl⟩) trivial))
 intro J w5 l hM hl
 have H5 : Hid (Mm w5 ([(J 1, zC qtr)] ++ _) ∧ _) := wB H4 hM hl [1]
 have o3_1 := vB H4 hM hl 1
 clear hM hl l H4
 generalize J 1 = J3_1 at H5 o3_1 ⊢
 clear J
 refine rN (wp_seq ?_)
 refine zP 13 [.q (PT J2_1 0), .q (.func (.func 17) #[PT J2_1 0] #[]), .q (PT J2_1 0), .q (.func (.func 33) #[PT J2_1 0] #[]), .q (PT J2_1 0), .q (.func (.func 71) #[PT J2_1 0] #[]), .q (PT J2_1 0), .q (.func (.func 20) #[PT J2_1 0] #[]), .call (N one), .q (.agg ([Value.func (.func 17) #[PT J2_1 0] #[], Value.func (.func 33) #[PT J2_1 0] #[], Value.func (.func 71) #[PT J2_1 0] #[], Value.func (.func 20) #[PT J2_1 0] #[], Value.func (.func 72) #[] #[]] ++ cel [one]).toArray), .call (N four), .q (.func (.func 73) #[] #[PT Js3 0, PT J3_1 0]), .q (.agg (G1 J2_1 (.func (.func 73) #[] #[PT Js3 0, PT J3_1 0]) one four).toArray)] H5 ?ho4 ?he4
 case ho4 => exact bC 1 Ai51 (ak (fun J => ⟨rfl, fun w' _ => ex_makeM rfl (mpn rfl)⟩) (bC 1 Ai51 (ak (fun J => ⟨rfl, fun w' _ => ex_makeM rfl (mpn rfl)⟩) (bC 1 Ai51 (ak (fun J => ⟨rfl, fun w' _ => ex_makeM rfl (mpn rfl)⟩) (bC 1 Ai51 (ak (fun J => ⟨rfl, fun w' _ => ex_makeM rfl (mpn rfl)⟩) (ac (fun w' h => eC call6 (CO.out w')) (ak (fun J => ⟨rfl, fun w' _ => ex_buildFN rfl rfl rfl rfl rfl rfl rfl⟩) (ac (fun w' h => eC call6 (CF.out w')) (ak (fun J => ⟨rfl, fun w' _ => ex_makeC rfl (mpn rfl)⟩) (ak (fun J => ⟨rfl, fun w' _ => ex_buildGN rfl rfl rfl rfl rfl⟩) trivial))))))))))))
 intro _ w6 H6
 clear H5
 refine zF (l := [13]) rfl ?_
 refine sG rfl (fun h => ex_storeT (vs := G1 J2_1 (.func (.func 73) #[] #[PT Js3 0, PT J3_1 0]) one four) h 3 rfl rfl rfl rfl As102 rfl (Nat.le_of_ble_eq_true rfl)) 3 [_, _, _, (_, G1 J2_1 (.func (.func 73) #[] #[PT Js3 0, PT J3_1 0]) one four)] H6 o1_0 fun w7 H7 => ?_
 clear H6
 refine zE (zA (wp_ret ?_))
 repeat (first | refine zJ ?_ | refine zI ?_)
 have hf0 := var_T H7.out.1 3 rfl Ai102 As102 rfl
 refine bodyPost_ret (v := .agg (G1 J2_1 (.func (.func 73) #[] #[PT Js3 0, PT J3_1 0]) one four).toArray) (by simp [results, Tryz.results47, asAddr, hf0]) rfl ?_
 refine ⟨H7.out.2, J2_1, Js3, J3_1, rfl, fun q hq => ?_, H7.out.1.pick [2, 1, 0] rfl (by decide)⟩
 simp only [List.mem_cons, List.not_mem_nil, or_false] at hq
 rcases hq with rfl | rfl | rfl
 ·exact o2_1.out
 ·exact o_Js3.out
 ·exact o3_1.out
end Rg
end Go.Proofs.YtahgdighnlekdaaGreatDoor
end
section
namespace Go.Proofs.YtahgdighnlekdaaGreatDoor
open Go.RowKit
namespace Rg
open NT
abbrev GV1 (g : Nat) (tn : Value) : Value := .agg (G1 g tn 1 4).toArray
abbrev t1 (T : EC.Tri Fp) : List Nat := [p0 T.1, p0 T.2.1, p0 T.2.2]
def c1x : Option (Fp × Fp) → Nat
 | none => 0
 | some (x, _) => p0 x
def c1y : Option (Fp × Fp) → Nat
 | none => 0
 | some (_, y) => p0 y
def c1z : Option (Fp × Fp) → Bool
 | none => true
 | some _ => false
abbrev pv1 (x y : Nat) (z : Bool) : Value := .agg (cel [x, y] ++ [Value.bool z]).toArray
abbrev enc1 (P : Option (Fp × Fp)) : Value := pv1 (c1x P) (c1y P) (c1z P)
theorem c1x_big (P : Option (Fp × Fp)) : c1x P < big := by
 cases P with
 | none => exact big_pos
 | some q => exact p0_big _
theorem c1y_big (P : Option (Fp × Fp)) : c1y P < big := by
 cases P with
 | none => exact big_pos
 | some q => exact p0_big _
theorem togE_1 {I : Fp → Fp} (hI : Inv1 I) {g : Nat} {tn : Value} (A B : EC.Tri Fp) (w : World) (hm : Mm w [(g, zQ pB), (0, dtab)]) : Calls Tryz.prog 76 #[(GV1 g tn), V (t1 A), V (t1 B)] w (Rt w (V (t1 ((K1 hI).tog A B)))) := by
 have h := togetherV_1 (u := (K1 hI).R.one) (b := (K1 hI).b) (tn := tn) (fd1 hI g) A.1 A.2.1 A.2.2 B.1 B.2.1 B.2.2 _ _ _ _ _ _ _ _ _ _ _ _ _ _ _ _ _ _ _ _ _ _ _ _ _ _ _ _ _ _ _ _ _ _ rfl rfl rfl rfl rfl rfl rfl rfl rfl rfl rfl rfl rfl rfl rfl rfl rfl rfl rfl rfl rfl rfl rfl rfl rfl rfl rfl rfl rfl rfl rfl rfl rfl rfl w hm
 rw [← (K1 hI).ptog_eq A B]
 exact h
theorem zeroE_1 {I : Fp → Fp} (hI : Inv1 I) {g : Nat} {tn : Value} (w : World) (hm : Mm w [(g, zQ pB), (0, dtab)]) : Calls Tryz.prog 102 #[(GV1 g tn)] w (Rt w (V (t1 ((K1 hI).lift none)))) := zero_1 (u := (K1 hI).R.one) (b := (K1 hI).b) (tn := tn) (fd1 hI g) w hm
theorem liftE_1 {I : Fp → Fp} (hI : Inv1 I) {g : Nat} {tn : Value} (P : Option (Fp × Fp)) (w : World) (hm : Mm w [(g, zQ pB), (0, dtab)]) : Calls Tryz.prog 77 #[(GV1 g tn), enc1 P] w (Rt w (V (t1 ((K1 hI).lift P)))) := by
 rcases P with _ | ⟨x, y⟩
 ·exact liftT_1 (u := (K1 hI).R.one) (b := (K1 hI).b) (tn := tn) (fd1 hI g) 0 0 w hm
 ·exact liftF_1 (u := (K1 hI).R.one) (b := (K1 hI).b) (tn := tn) (fd1 hI g) (p0 x) (p0 y) w hm
theorem isz_1 (t : Fp) : (p0 t = 0) ↔ t = fpR.zero := ⟨fun h => Subtype.ext h, fun h => by rw [h]; rfl⟩
theorem eqz_1 (t : Fp) {r : Bool} (hr : decide (t = fpR.zero) = r) : ∀ w, (Op.equalIn 10000 24 (N (p0 t)) (N 0)).run Tryz.prog w = .ok r w := fun w => by
 have h := run_eqGD 9998 (p0 t) 0 (p0_big t) big_pos w
 rw [← hr, show decide (t = fpR.zero) = decide (p0 t = 0) from decide_eq_decide.2 (isz_1 t).symm]
 exact h
theorem eqe_1 (s t : Fp) {r : Bool} (hr : decide (s = t) = r) : ∀ w, (Op.equalIn 10000 24 (N (p0 s)) (N (p0 t))).run Tryz.prog w = .ok r w := fun w => by
 have h := run_eqGD 9998 (p0 s) (p0 t) (p0_big s) (p0_big t) w
 rw [← hr, show decide (s = t) = decide (p0 s = p0 t) from decide_eq_decide.2 ⟨fun e => by rw [e], fun e => Subtype.ext e⟩]
 exact h
theorem twiceE_1 {I : Fp → Fp} (hI : Inv1 I) {g : Nat} {tn : Value} (A : EC.Tri Fp) (w : World) (hm : Mm w [(g, zQ pB), (0, dtab)]) : Calls Tryz.prog 109 #[(GV1 g tn), V (t1 A)] w (Rt w (V (t1 ((K1 hI).twice A)))) := by
 unfold EC.Crv.twice
 by_cases hz : A.2.2 = (K1 hI).R.zero
 ·rw [if_pos hz]
  exact twiceT_1 (u := (K1 hI).R.one) (b := (K1 hI).b) (tn := tn) (fd1 hI g) (p0 A.1) (p0 A.2.1) (p0 A.2.2) (eqz_1 _ (decide_eq_true hz)) w hm
 ·rw [if_neg hz]
  exact twiceV_1 (u := (K1 hI).R.one) (b := (K1 hI).b) (tn := tn) (fd1 hI g) A.1 A.2.1 A.2.2 (eqz_1 _ (decide_eq_false hz)) _ _ _ _ _ _ _ _ _ _ _ _ _ _ _ _ _ _ rfl rfl rfl rfl rfl rfl rfl rfl rfl rfl rfl rfl rfl rfl rfl rfl rfl rfl w hm
theorem lowerE_1 {I : Fp → Fp} (hI : Inv1 I) {g : Nat} {tn : Value} (A : EC.Tri Fp) (w : World) (hm : Mm w [(g, zQ pB), (0, dtab)]) : Calls Tryz.prog 75 #[(GV1 g tn), V (t1 A)] w (Rt w (enc1 ((K1 hI).lower A))) := by
 by_cases hz : A.2.2 = (K1 hI).R.zero
 ·rw [(K1 hI).lower_none hz]
  exact lowerT_1 (u := (K1 hI).R.one) (b := (K1 hI).b) (tn := tn) (fd1 hI g) (p0 A.1) (p0 A.2.1) (p0 A.2.2) (eqz_1 _ (decide_eq_true hz)) w hm
 ·rw [(K1 hI).lower_some hz]
  exact lowerF_1 (u := (K1 hI).R.one) (b := (K1 hI).b) (tn := tn) (fd1 hI g) A.1 A.2.1 A.2.2 (eqz_1 _ (decide_eq_false hz)) hz w hm
theorem belE_1 (a : Nat) (ha : a < big) (w : World) : Calls Tryz.prog 72 #[N a] w (Rt w (.bool (decide (a < pB)))) :=
 belowG_gen a pB (cmpv a pB) base_pB (fun w => compare_any a pB ha pB_lt w) (decide (a < pB)) (by
  by_cases h : a < pB
  ·rw [cmp_lt h, decide_eq_true h]
   rfl
  ·rw [decide_eq_false h]
   exact decide_eq_false (cmp_ge h)) w
/-- What the numbers say: a point of the first curve, or none. -/
def rd1 (x y : Nat) (z : Bool) : Option (Option (Fp × Fp)) :=
 if z = true then (if x = 0 ∧ y = 0 then some none else none)
 else if h : x < pB ∧ y < pB then (if EC.side fpR fp4 ⟨x, h.1⟩ = fpR.mul ⟨y, h.2⟩ ⟨y, h.2⟩ then some (some (⟨x, h.1⟩, ⟨y, h.2⟩)) else none) else none
theorem checkE_1 {I : Fp → Fp} (hI : Inv1 I) {g : Nat} {tn : Value} (x y : Nat) (z : Bool) (hx : x < big) (hy : y < big) (w : World) (hm : Mm w [(g, zQ pB), (0, dtab)]) : Calls Tryz.prog 74 #[(GV1 g tn), pv1 x y z] w (Rt w (.bool (rd1 x y z).isSome)) := by
 cases z with
 | true =>
  have e : (rd1 x y true).isSome = decide (x = 0 ∧ y = 0) := by
   unfold rd1
   rw [if_pos rfl]
   by_cases h : x = 0 ∧ y = 0
   ·rw [if_pos h, decide_eq_true h]; rfl
   ·rw [if_neg h, decide_eq_false h]; rfl
  refine checkZ_1 (u := (K1 hI).R.one) (b := (K1 hI).b) (tn := tn) (fd1 hI g) x y _ (fun w => ?_) w hm
  have h := run_eqPN x y 0 0 true true hx hy big_pos big_pos w
  rw [e]
  refine h.trans (congrArg (fun q => Result.ok q w) ?_)
  rw [Bool.eq_iff_iff]
  simp
 | false =>
  by_cases hX : x < pB
  ·have bx := fun w (_ : Mm w [(g, zQ pB), (0, dtab)]) => belE_1 x hx w
   rw [decide_eq_true hX] at bx
   by_cases hY : y < pB
   ·have by_ := fun w (_ : Mm w [(g, zQ pB), (0, dtab)]) => belE_1 y hy w
    rw [decide_eq_true hY] at by_
    have e : (rd1 x y false).isSome = decide (fpR.mul (⟨y, hY⟩ : Fp) (⟨y, hY⟩ : Fp) = EC.side fpR fp4 (⟨x, hX⟩ : Fp)) := by
     unfold rd1
     rw [if_neg (by decide), dif_pos ⟨hX, hY⟩]
     by_cases h : fpR.mul (⟨y, hY⟩ : Fp) (⟨y, hY⟩ : Fp) = EC.side fpR fp4 (⟨x, hX⟩ : Fp)
     ·rw [if_pos h.symm, decide_eq_true h]; rfl
     ·rw [if_neg (fun q => h q.symm), decide_eq_false h]; rfl
    rw [e]
    exact checkB_1 (u := (K1 hI).R.one) (b := (K1 hI).b) (tn := tn) (fd1 hI g) (⟨x, hX⟩ : Fp) (⟨y, hY⟩ : Fp) _ bx by_ (eqe_1 _ _ rfl) w hm
   ·have by_ := fun w (_ : Mm w [(g, zQ pB), (0, dtab)]) => belE_1 y hy w
    rw [decide_eq_false hY] at by_
    have e : (rd1 x y false).isSome = false := by
     unfold rd1
     rw [if_neg (by decide), dif_neg (fun q => hY q.2)]; rfl
    rw [e]
    exact checkY_1 (u := (K1 hI).R.one) (b := (K1 hI).b) (tn := tn) (fd1 hI g) x y bx by_ w hm
  ·have bx := fun w (_ : Mm w [(g, zQ pB), (0, dtab)]) => belE_1 x hx w
   rw [decide_eq_false hX] at bx
   have e : (rd1 x y false).isSome = false := by
    unfold rd1
    rw [if_neg (by decide), dif_neg (fun q => hX q.1)]; rfl
   rw [e]
   exact checkX_1 (u := (K1 hI).R.one) (b := (K1 hI).b) (tn := tn) (fd1 hI g) x y bx w hm
theorem rd1_enc {I : Fp → Fp} (hI : Inv1 I) {x y : Nat} {z : Bool} {P : Option (Fp × Fp)} (h : rd1 x y z = some P) : pv1 x y z = enc1 P ∧ (K1 hI).on P := by
 unfold rd1 at h
 split at h
 ·rename_i hz
  split at h
  ·rename_i h0
   injection h with h
   subst h hz
   obtain ⟨rfl, rfl⟩ := h0
   exact ⟨rfl, trivial⟩
  ·cases h
 ·rename_i hz
  have hz' : z = false := by cases z with | true => exact absurd rfl hz | false => rfl
  subst hz'
  split at h
  ·rename_i hb
   split at h
   ·rename_i hs
    injection h with h
    subst h
    exact ⟨rfl, hs.symm⟩
   ·cases h
  ·cases h
theorem rd1_of {I : Fp → Fp} (hI : Inv1 I) {P : Option (Fp × Fp)} (h : (K1 hI).on P) : rd1 (c1x P) (c1y P) (c1z P) = some P := by
 rcases P with _ | ⟨x, y⟩
 ·rfl
 ·have hs : (K1 hI).R.mul y y = EC.side (K1 hI).R (K1 hI).b x := h
  unfold rd1
  rw [if_neg (by show ¬ false = true; decide), dif_pos ⟨x.2, y.2⟩]
  exact if_pos hs.symm
theorem ckE_1 {I : Fp → Fp} (hI : Inv1 I) {g : Nat} {tn : Value} {P : Option (Fp × Fp)} (hP : (K1 hI).on P) (w : World) (hm : Mm w [(g, zQ pB), (0, dtab)]) : Calls Tryz.prog 74 #[(GV1 g tn), enc1 P] w (Rt w (.bool true)) := by
 have h := checkE_1 hI (g := g) (tn := tn) (c1x P) (c1y P) (c1z P) (c1x_big P) (c1y_big P) w hm
 rw [rd1_of hI hP] at h
 exact h
theorem firstE (w : World) : Calls Tryz.prog 47 #[] w fun e w' => Below w.heap.size w w' ∧ ∃ g x y, e = .returned (.agg (G1 g (.func (.func 73) #[] #[PT x 0, PT y 0]) 1 4).toArray) ∧ w.heap.size ≤ g ∧ g < w'.heap.size ∧ Blk w' g (zQ pB) := (first3_gen pB 1 4 tr numb_tr (fun w => of_any 1 (by decide) w) (fun w => of_any 4 (by decide) w) base_pB (fun w => new_ok pB_ok w) w).mono fun e w' h => by
 obtain ⟨hB, g, x, y, he, hN, hM⟩ := h
 exact ⟨hB, g, x, y, he, hN _ (List.mem_cons_self ..), hM.blk _ (List.mem_cons_self ..)⟩
end Rg
end Go.Proofs.YtahgdighnlekdaaGreatDoor
end
section
namespace Go.Proofs.YtahgdighnlekdaaGreatDoor
open Go.RowKit
namespace Rg
open NT
abbrev t2 (T : EC.Tri Fq) : List Nat := [q0 T.1, q1 T.1, q0 T.2.1, q1 T.2.1, q0 T.2.2, q1 T.2.2]
/-- What the numbers say: a point of the second curve, or none. -/
def rd2 (x0 x1 y0 y1 : Nat) (z : Bool) : Option (Option (Fq × Fq)) :=
 if z = true then (if (x0 = 0 ∧ x1 = 0) ∧ (y0 = 0 ∧ y1 = 0) then some none else none)
 else if h : (x0 < pB ∧ x1 < pB) ∧ (y0 < pB ∧ y1 < pB) then (if EC.side fqR fq4 (⟨x0, h.1.1⟩, ⟨x1, h.1.2⟩) = fqR.mul (⟨y0, h.2.1⟩, ⟨y1, h.2.2⟩) (⟨y0, h.2.1⟩, ⟨y1, h.2.2⟩) then some (some ((⟨x0, h.1.1⟩, ⟨x1, h.1.2⟩), (⟨y0, h.2.1⟩, ⟨y1, h.2.2⟩))) else none) else none
end Rg
end Go.Proofs.YtahgdighnlekdaaGreatDoor
end
section
namespace Go.Proofs.YtahgdighnlekdaaGreatDoor
open Go.RowKit
namespace Rg
set_option maxHeartbeats 8000000 in
theorem tableOf_1 {α : Type} {en : α → Nat} {fa fs fm : α → α → α} {fi : α → α} {z u b : α} {g : Nat} {tn : Value} (_C : Fd1 g en fa fs fm fi z) (f : Nat → Nat) (x y : Nat) (zb : Bool) (cz : ∀ w, Mm w [(g, zQ pB), (0, dtab)] → Calls Tryz.prog 102 #[.agg (G1 g tn (en u) (en b)).toArray] w (Rt w (V [f 0, f 1, f 2]))) (cl : ∀ w, Mm w [(g, zQ pB), (0, dtab)] → Calls Tryz.prog 77 #[.agg (G1 g tn (en u) (en b)).toArray, .agg (pc1 x y zb).toArray] w (Rt w (V [f 3, f 4, f 5]))) (c2 : ∀ w, Mm w [(g, zQ pB), (0, dtab)] → Calls Tryz.prog 109 #[.agg (G1 g tn (en u) (en b)).toArray, V [f 3, f 4, f 5]] w (Rt w (V [f 6, f 7, f 8]))) (c3 : ∀ w, Mm w [(g, zQ pB), (0, dtab)] → Calls Tryz.prog 76 #[.agg (G1 g tn (en u) (en b)).toArray, V [f 6, f 7, f 8], V [f 3, f 4, f 5]] w (Rt w (V [f 9, f 10, f 11]))) (c4 : ∀ w, Mm w [(g, zQ pB), (0, dtab)] → Calls Tryz.prog 109 #[.agg (G1 g tn (en u) (en b)).toArray, V [f 6, f 7, f 8]] w (Rt w (V [f 12, f 13, f 14]))) (c5 : ∀ w, Mm w [(g, zQ pB), (0, dtab)] → Calls Tryz.prog 76 #[.agg (G1 g tn (en u) (en b)).toArray, V [f 12, f 13, f 14], V [f 3, f 4, f 5]] w (Rt w (V [f 15, f 16, f 17]))) (c6 : ∀ w, Mm w [(g, zQ pB), (0, dtab)] → Calls Tryz.prog 109 #[.agg (G1 g tn (en u) (en b)).toArray, V [f 9, f 10, f 11]] w (Rt w (V [f 18, f 19, f 20]))) (c7 : ∀ w, Mm w [(g, zQ pB), (0, dtab)] → Calls Tryz.prog 76 #[.agg (G1 g tn (en u) (en b)).toArray, V [f 18, f 19, f 20], V [f 3, f 4, f 5]] w (Rt w (V [f 21, f 22, f 23]))) (c8 : ∀ w, Mm w [(g, zQ pB), (0, dtab)] → Calls Tryz.prog 109 #[.agg (G1 g tn (en u) (en b)).toArray, V [f 12, f 13, f 14]] w (Rt w (V [f 24, f 25, f 26]))) (c9 : ∀ w, Mm w [(g, zQ pB), (0, dtab)] → Calls Tryz.prog 76 #[.agg (G1 g tn (en u) (en b)).toArray, V [f 24, f 25, f 26], V [f 3, f 4, f 5]] w (Rt w (V [f 27, f 28, f 29]))) (c10 : ∀ w, Mm w [(g, zQ pB), (0, dtab)] → Calls Tryz.prog 109 #[.agg (G1 g tn (en u) (en b)).toArray, V [f 15, f 16, f 17]] w (Rt w (V [f 30, f 31, f 32]))) (c11 : ∀ w, Mm w [(g, zQ pB), (0, dtab)] → Calls Tryz.prog 76 #[.agg (G1 g tn (en u) (en b)).toArray, V [f 30, f 31, f 32], V [f 3, f 4, f 5]] w (Rt w (V [f 33, f 34, f 35]))) (c12 : ∀ w, Mm w [(g, zQ pB), (0, dtab)] → Calls Tryz.prog 109 #[.agg (G1 g tn (en u) (en b)).toArray, V [f 18, f 19, f 20]] w (Rt w (V [f 36, f 37, f 38]))) (c13 : ∀ w, Mm w [(g, zQ pB), (0, dtab)] → Calls Tryz.prog 76 #[.agg (G1 g tn (en u) (en b)).toArray, V [f 36, f 37, f 38], V [f 3, f 4, f 5]] w (Rt w (V [f 39, f 40, f 41]))) (c14 : ∀ w, Mm w [(g, zQ pB), (0, dtab)] → Calls Tryz.prog 109 #[.agg (G1 g tn (en u) (en b)).toArray, V [f 21, f 22, f 23]] w (Rt w (V [f 42, f 43, f 44]))) (c15 : ∀ w, Mm w [(g, zQ pB), (0, dtab)] → Calls Tryz.prog 76 #[.agg (G1 g tn (en u) (en b)).toArray, V [f 42, f 43, f 44], V [f 3, f 4, f 5]] w (Rt w (V [f 45, f 46, f 47]))) (w : World) (hm : Mm w [(g, zQ pB), (0, dtab)]) :
  Calls Tryz.prog 121 #[.agg (G1 g tn (en u) (en b)).toArray, .agg (pc1 x y zb).toArray] w (Rt w (V (tb1 f))) := by
 have H0 : Hid (_ ∧ _) := ⟨hm, Below.refl w.heap.size w⟩
 clear hm
 have CZ : Hid _ := cz
 clear cz
 have CL : Hid _ := cl
 clear cl
 have C2 : Hid _ := c2
 clear c2
 have C3 : Hid _ := c3
 clear c3
 have C4 : Hid _ := c4
 clear c4
 have C5 : Hid _ := c5
 clear c5
 have C6 : Hid _ := c6
 clear c6
 have C7 : Hid _ := c7
 clear c7
 have C8 : Hid _ := c8
 clear c8
 have C9 : Hid _ := c9
 clear c9
 have C10 : Hid _ := c10
 clear c10
 have C11 : Hid _ := c11
 clear c11
 have C12 : Hid _ := c12
 clear c12
 have C13 : Hid _ := c13
 clear c13
 have C14 : Hid _ := c14
 clear c14
 have C15 : Hid _ := c15
 clear c15
 go_enter Tryz.func121, Tryz.ntmps121
 refine wp_seq ?_
 refine zD 3 [.made (G1 g tn (en u) (en b)) 102, .made (pc1 x y zb) 95, .made (cel [0, 0, 0, 0, 0, 0, 0, 0, 0, 0, 0, 0, 0, 0, 0, 0, 0, 0, 0, 0, 0, 0, 0, 0, 0, 0, 0, 0, 0, 0, 0, 0, 0, 0, 0, 0, 0, 0, 0, 0, 0, 0, 0, 0, 0, 0, 0, 0]) 170] (sB H0) ?ho1 ?he1
 case ho1 => exact am (zN rfl rfl) (am (zN rfl rfl) (am (ex_madeTB1 rfl) trivial))
 intro J w1 l hM hl
 have H1 : Hid (Mm w1 ([(J 0, G1 g tn (en u) (en b)), (J 1, pc1 x y zb), (J 2, cel [0, 0, 0, 0, 0, 0, 0, 0, 0, 0, 0, 0, 0, 0, 0, 0, 0, 0, 0, 0, 0, 0, 0, 0, 0, 0, 0, 0, 0, 0, 0, 0, 0, 0, 0, 0, 0, 0, 0, 0, 0, 0, 0, 0, 0, 0, 0, 0])] ++ _) ∧ _) := wB H0 hM hl [0, 1, 2]
 have o1_0 := vB H0 hM hl 0
 have o1_1 := vB H0 hM hl 1
 have o1_2 := vB H0 hM hl 2
 clear hM hl l
 generalize J 0 = J1_0 at H1 o1_0 ⊢
 generalize J 1 = J1_1 at H1 o1_1 ⊢
 generalize J 2 = J1_2 at H1 o1_2 ⊢
 clear J
 refine rN (wp_seq ?_)
 refine walk_anyA 8 [.q (.agg (G1 g tn (en u) (en b)).toArray), .call (V [f 0, f 1, f 2]), .q (.agg (G1 g tn (en u) (en b)).toArray), .q (.agg (pc1 x y zb).toArray), .call (V [f 3, f 4, f 5]), .q (V (tbz1 6 f)), .made (cel [0, 0, 0, 0, 0, 0, 0, 0, 0, 0, 0, 0, 0, 0, 0, 0, 0, 0, 0, 0, 0, 0, 0, 0, 0, 0, 0, 0, 0, 0, 0, 0, 0, 0, 0, 0, 0, 0, 0, 0, 0, 0, 0, 0, 0, 0, 0, 0]) 170, .laid 6 (cel [0, 0, 0, 0, 0, 0, 0, 0, 0, 0, 0, 0, 0, 0, 0, 0, 0, 0, 0, 0, 0, 0, 0, 0, 0, 0, 0, 0, 0, 0, 0, 0, 0, 0, 0, 0, 0, 0, 0, 0, 0, 0, 0, 0, 0, 0, 0, 0]) (cel (tbz1 6 f))] (sB H1) ?ho2 ?he2 (hL := ?hL2)
 case hL2 => exact ⟨⟨_, rfl⟩, trivial⟩
 case ho2 => exact bT 0 Ai102 As102 (ac (fun w' h => eC call102 (CZ.out w' (h.two 3 4 rfl rfl (by decide)))) (bT 0 Ai102 As102 (bT 1 Ai95 As95 (ac (fun w' h => eC call77 (CL.out w' (h.two 3 4 rfl rfl (by decide)))) (ak (fun J => ⟨rfl, fun w' _ => ex_buildTB1 rfl rfl rfl⟩) (am (ex_madeTB1 rfl) (ak (fun J => ⟨rfl, rfl, rfl, fun w' h => ex_laidA h rfl As170 rfl rfl rfl⟩) trivial)))))))
 intro J w2 l hM hl
 have H2 : Hid (Mm w2 ([(J 6, cel (tbz1 6 f))] ++ _) ∧ _) := wB H1 hM hl [6]
 have o2_6 := vB H1 hM hl 6
 clear hM hl l H1
 generalize J 6 = J2_6 at H2 o2_6 ⊢
 clear J
 refine rN (wp_seq (wp_seq ?_))
 refine zB 1 [.q (.int .i64 2)] H2 ?ho3 ?he3
 case ho3 => exact ar trivial
 intro _ w3 H3
 clear H2
 refine rN (wp_block ?_)
 refine wp_loop_rounds 8 ?_
 refine zR (n := 7) ?_
 refine wp_seq (wp_seq ?_)
 refine zB 2 [.q (.int .i64 2), .q (.bool true)] H3 ?ho4 ?he4
 case ho4 => exact ar (ag trivial)
 intro _ w4 H4
 clear H3
 refine rN (wp_cond_true rfl ?_)
 refine wp_skip (zA ?_)
 refine wp_seq (wp_block (wp_seq ?_))
 refine zP 8 [.q (.int .i64 2), .q (.agg (G1 g tn (en u) (en b)).toArray), .q (.int .i64 2), .q (.int .i64 1), .q (PT J2_6 18), .q (V [f 3, f 4, f 5]), .call (V [f 6, f 7, f 8]), .q (PT J2_6 36)] H4 ?ho5 ?he5
 case ho5 => exact ar (bT 1 Ai102 As102 (ar (av (ag (bA 3 3 0 Ai137 As137 (ac (fun w' h => eC call109 (C2.out w' (h.two 4 5 rfl rfl (by decide)))) (ag trivial)))))))
 intro _ w5 H5
 clear H4
 refine zF (l := [8]) rfl ?_
 refine sA 0 6 [f 6, f 7, f 8] [(_, cel (tbz1 9 f)), _, _, _, _, _] H5 o2_6 As137 fun w6 H6 => ?_
 clear H5
 refine zE (zA ?_)
 refine zP 10 [.q (.int .i64 2), .q (.int .i64 3), .q (.agg (G1 g tn (en u) (en b)).toArray), .q (.int .i64 2), .q (PT J2_6 36), .q (V [f 6, f 7, f 8]), .q (PT J2_6 18), .q (V [f 3, f 4, f 5]), .call (V [f 9, f 10, f 11]), .q (PT J2_6 54)] H6 ?ho6 ?he6
 case ho6 => exact ar (av (bT 1 Ai102 As102 (ar (ag (bA 6 3 0 Ai137 As137 (ag (bA 3 3 0 Ai137 As137 (ac (fun w' h => eC call76 (C3.out w' (h.two 4 5 rfl rfl (by decide)))) (ag trivial)))))))))
 intro _ w7 H7
 clear H6
 refine zF (l := [10]) rfl ?_
 refine sA 0 9 [f 9, f 10, f 11] [(_, cel (tbz1 12 f)), _, _, _, _, _] H7 o2_6 As137 fun w8 H8 => ?_
 clear H7
 refine zE (zK (zA ?_))
 refine zB 2 [.q (.int .i64 2), .q (.int .i64 4)] H8 ?ho7 ?he7
 case ho7 => exact ar (av trivial)
 intro _ w9 H9
 clear H8
 refine zF (l := [2]) rfl ?_
 refine zG (d := 6) rfl rfl rfl rfl ?_
 simp only [Act.put, sa, sz, ss]
 refine zE (zA ?_)
 refine zR (n := 6) ?_
 refine wp_seq (wp_seq ?_)
 refine zB 2 [.q (.int .i64 4), .q (.bool true)] H9 ?ho8 ?he8
 case ho8 => exact ar (ag trivial)
 intro _ w10 H10
 clear H9
 refine rN (wp_cond_true rfl ?_)
 refine wp_skip (zA ?_)
 refine wp_seq (wp_block (wp_seq ?_))
 refine zP 8 [.q (.int .i64 4), .q (.agg (G1 g tn (en u) (en b)).toArray), .q (.int .i64 4), .q (.int .i64 2), .q (PT J2_6 36), .q (V [f 6, f 7, f 8]), .call (V [f 12, f 13, f 14]), .q (PT J2_6 72)] H10 ?ho9 ?he9
 case ho9 => exact ar (bT 1 Ai102 As102 (ar (av (ag (bA 6 3 0 Ai137 As137 (ac (fun w' h => eC call109 (C4.out w' (h.two 4 5 rfl rfl (by decide)))) (ag trivial)))))))
 intro _ w11 H11
 clear H10
 refine zF (l := [8]) rfl ?_
 refine sA 0 12 [f 12, f 13, f 14] [(_, cel (tbz1 15 f)), _, _, _, _, _] H11 o2_6 As137 fun w12 H12 => ?_
 clear H11
 refine zE (zA ?_)
 refine zP 10 [.q (.int .i64 4), .q (.int .i64 5), .q (.agg (G1 g tn (en u) (en b)).toArray), .q (.int .i64 4), .q (PT J2_6 72), .q (V [f 12, f 13, f 14]), .q (PT J2_6 18), .q (V [f 3, f 4, f 5]), .call (V [f 15, f 16, f 17]), .q (PT J2_6 90)] H12 ?ho10 ?he10
 case ho10 => exact ar (av (bT 1 Ai102 As102 (ar (ag (bA 12 3 0 Ai137 As137 (ag (bA 3 3 0 Ai137 As137 (ac (fun w' h => eC call76 (C5.out w' (h.two 4 5 rfl rfl (by decide)))) (ag trivial)))))))))
 intro _ w13 H13
 clear H12
 refine zF (l := [10]) rfl ?_
 refine sA 0 15 [f 15, f 16, f 17] [(_, cel (tbz1 18 f)), _, _, _, _, _] H13 o2_6 As137 fun w14 H14 => ?_
 clear H13
 refine zE (zK (zA ?_))
 refine zB 2 [.q (.int .i64 4), .q (.int .i64 6)] H14 ?ho11 ?he11
 case ho11 => exact ar (av trivial)
 intro _ w15 H15
 clear H14
 refine zF (l := [2]) rfl ?_
 refine zG (d := 6) rfl rfl rfl rfl ?_
 simp only [Act.put, sa, sz, ss]
 refine zE (zA ?_)
 refine zR (n := 5) ?_
 refine wp_seq (wp_seq ?_)
 refine zB 2 [.q (.int .i64 6), .q (.bool true)] H15 ?ho12 ?he12
 case ho12 => exact ar (ag trivial)
 intro _ w16 H16
 clear H15
 refine rN (wp_cond_true rfl ?_)
 refine wp_skip (zA ?_)
 refine wp_seq (wp_block (wp_seq ?_))
 refine zP 8 [.q (.int .i64 6), .q (.agg (G1 g tn (en u) (en b)).toArray), .q (.int .i64 6), .q (.int .i64 3), .q (PT J2_6 54), .q (V [f 9, f 10, f 11]), .call (V [f 18, f 19, f 20]), .q (PT J2_6 108)] H16 ?ho13 ?he13
 case ho13 => exact ar (bT 1 Ai102 As102 (ar (av (ag (bA 9 3 0 Ai137 As137 (ac (fun w' h => eC call109 (C6.out w' (h.two 4 5 rfl rfl (by decide)))) (ag trivial)))))))
 intro _ w17 H17
 clear H16
 refine zF (l := [8]) rfl ?_
 refine sA 0 18 [f 18, f 19, f 20] [(_, cel (tbz1 21 f)), _, _, _, _, _] H17 o2_6 As137 fun w18 H18 => ?_
 clear H17
 refine zE (zA ?_)
 refine zP 10 [.q (.int .i64 6), .q (.int .i64 7), .q (.agg (G1 g tn (en u) (en b)).toArray), .q (.int .i64 6), .q (PT J2_6 108), .q (V [f 18, f 19, f 20]), .q (PT J2_6 18), .q (V [f 3, f 4, f 5]), .call (V [f 21, f 22, f 23]), .q (PT J2_6 126)] H18 ?ho14 ?he14
 case ho14 => exact ar (av (bT 1 Ai102 As102 (ar (ag (bA 18 3 0 Ai137 As137 (ag (bA 3 3 0 Ai137 As137 (ac (fun w' h => eC call76 (C7.out w' (h.two 4 5 rfl rfl (by decide)))) (ag trivial)))))))))
 intro _ w19 H19
 clear H18
 refine zF (l := [10]) rfl ?_
 refine sA 0 21 [f 21, f 22, f 23] [(_, cel (tbz1 24 f)), _, _, _, _, _] H19 o2_6 As137 fun w20 H20 => ?_
 clear H19
 refine zE (zK (zA ?_))
 refine zB 2 [.q (.int .i64 6), .q (.int .i64 8)] H20 ?ho15 ?he15
 case ho15 => exact ar (av trivial)
 intro _ w21 H21
 clear H20
 refine zF (l := [2]) rfl ?_
 refine zG (d := 6) rfl rfl rfl rfl ?_
 simp only [Act.put, sa, sz, ss]
 refine zE (zA ?_)
 refine zR (n := 4) ?_
 refine wp_seq (wp_seq ?_)
 refine zB 2 [.q (.int .i64 8), .q (.bool true)] H21 ?ho16 ?he16
 case ho16 => exact ar (ag trivial)
 intro _ w22 H22
 clear H21
 refine rN (wp_cond_true rfl ?_)
 refine wp_skip (zA ?_)
 refine wp_seq (wp_block (wp_seq ?_))
 refine zP 8 [.q (.int .i64 8), .q (.agg (G1 g tn (en u) (en b)).toArray), .q (.int .i64 8), .q (.int .i64 4), .q (PT J2_6 72), .q (V [f 12, f 13, f 14]), .call (V [f 24, f 25, f 26]), .q (PT J2_6 144)] H22 ?ho17 ?he17
 case ho17 => exact ar (bT 1 Ai102 As102 (ar (av (ag (bA 12 3 0 Ai137 As137 (ac (fun w' h => eC call109 (C8.out w' (h.two 4 5 rfl rfl (by decide)))) (ag trivial)))))))
 intro _ w23 H23
 clear H22
 refine zF (l := [8]) rfl ?_
 refine sA 0 24 [f 24, f 25, f 26] [(_, cel (tbz1 27 f)), _, _, _, _, _] H23 o2_6 As137 fun w24 H24 => ?_
 clear H23
 refine zE (zA ?_)
 refine zP 10 [.q (.int .i64 8), .q (.int .i64 9), .q (.agg (G1 g tn (en u) (en b)).toArray), .q (.int .i64 8), .q (PT J2_6 144), .q (V [f 24, f 25, f 26]), .q (PT J2_6 18), .q (V [f 3, f 4, f 5]), .call (V [f 27, f 28, f 29]), .q (PT J2_6 162)] H24 ?ho18 ?he18
 case ho18 => exact ar (av (bT 1 Ai102 As102 (ar (ag (bA 24 3 0 Ai137 As137 (ag (bA 3 3 0 Ai137 As137 (ac (fun w' h => eC call76 (C9.out w' (h.two 4 5 rfl rfl (by decide)))) (ag trivial)))))))))
 intro _ w25 H25
 clear H24
 refine zF (l := [10]) rfl ?_
 refine sA 0 27 [f 27, f 28, f 29] [(_, cel (tbz1 30 f)), _, _, _, _, _] H25 o2_6 As137 fun w26 H26 => ?_
 clear H25
 refine zE (zK (zA ?_))
 refine zB 2 [.q (.int .i64 8), .q (.int .i64 10)] H26 ?ho19 ?he19
 case ho19 => exact ar (av trivial)
 intro _ w27 H27
 clear H26
 refine zF (l := [2]) rfl ?_
 refine zG (d := 6) rfl rfl rfl rfl ?_
 simp only [Act.put, sa, sz, ss]
 refine zE (zA ?_)
 refine zR (n := 3) ?_
 refine wp_seq (wp_seq ?_)
 refine zB 2 [.q (.int .i64 10), .q (.bool true)] H27 ?ho20 ?he20
 case ho20 => exact ar (ag trivial)
 intro _ w28 H28
 clear H27
 refine rN (wp_cond_true rfl ?_)
 refine wp_skip (zA ?_)
 refine wp_seq (wp_block (wp_seq ?_))
 refine zP 8 [.q (.int .i64 10), .q (.agg (G1 g tn (en u) (en b)).toArray), .q (.int .i64 10), .q (.int .i64 5), .q (PT J2_6 90), .q (V [f 15, f 16, f 17]), .call (V [f 30, f 31, f 32]), .q (PT J2_6 180)] H28 ?ho21 ?he21
 case ho21 => exact ar (bT 1 Ai102 As102 (ar (av (ag (bA 15 3 0 Ai137 As137 (ac (fun w' h => eC call109 (C10.out w' (h.two 4 5 rfl rfl (by decide)))) (ag trivial)))))))
 intro _ w29 H29
 clear H28
 refine zF (l := [8]) rfl ?_
 refine sA 0 30 [f 30, f 31, f 32] [(_, cel (tbz1 33 f)), _, _, _, _, _] H29 o2_6 As137 fun w30 H30 => ?_
 clear H29
 refine zE (zA ?_)
 refine zP 10 [.q (.int .i64 10), .q (.int .i64 11), .q (.agg (G1 g tn (en u) (en b)).toArray), .q (.int .i64 10), .q (PT J2_6 180), .q (V [f 30, f 31, f 32]), .q (PT J2_6 18), .q (V [f 3, f 4, f 5]), .call (V [f 33, f 34, f 35]), .q (PT J2_6 198)] H30 ?ho22 ?he22
 case ho22 => exact ar (av (bT 1 Ai102 As102 (ar (ag (bA 30 3 0 Ai137 As137 (ag (bA 3 3 0 Ai137 As137 (ac (fun w' h => eC call76 (C11.out w' (h.two 4 5 rfl rfl (by decide)))) (ag trivial)))))))))
 intro _ w31 H31
 clear H30
 refine zF (l := [10]) rfl ?_
 refine sA 0 33 [f 33, f 34, f 35] [(_, cel (tbz1 36 f)), _, _, _, _, _] H31 o2_6 As137 fun w32 H32 => ?_
 clear H31
 refine zE (zK (zA ?_))
 refine zB 2 [.q (.int .i64 10), .q (.int .i64 12)] H32 ?ho23 ?he23
 case ho23 => exact ar (av trivial)
 intro _ w33 H33
 clear H32
 refine zF (l := [2]) rfl ?_
 refine zG (d := 6) rfl rfl rfl rfl ?_
 simp only [Act.put, sa, sz, ss]
 refine zE (zA ?_)
 refine zR (n := 2) ?_
 refine wp_seq (wp_seq ?_)
 refine zB 2 [.q (.int .i64 12), .q (.bool true)] H33 ?ho24 ?he24
 case ho24 => exact ar (ag trivial)
 intro _ w34 H34
 clear H33
 refine rN (wp_cond_true rfl ?_)
 refine wp_skip (zA ?_)
 refine wp_seq (wp_block (wp_seq ?_))
 refine zP 8 [.q (.int .i64 12), .q (.agg (G1 g tn (en u) (en b)).toArray), .q (.int .i64 12), .q (.int .i64 6), .q (PT J2_6 108), .q (V [f 18, f 19, f 20]), .call (V [f 36, f 37, f 38]), .q (PT J2_6 216)] H34 ?ho25 ?he25
 case ho25 => exact ar (bT 1 Ai102 As102 (ar (av (ag (bA 18 3 0 Ai137 As137 (ac (fun w' h => eC call109 (C12.out w' (h.two 4 5 rfl rfl (by decide)))) (ag trivial)))))))
 intro _ w35 H35
 clear H34
 refine zF (l := [8]) rfl ?_
 refine sA 0 36 [f 36, f 37, f 38] [(_, cel (tbz1 39 f)), _, _, _, _, _] H35 o2_6 As137 fun w36 H36 => ?_
 clear H35
 refine zE (zA ?_)
 refine zP 10 [.q (.int .i64 12), .q (.int .i64 13), .q (.agg (G1 g tn (en u) (en b)).toArray), .q (.int .i64 12), .q (PT J2_6 216), .q (V [f 36, f 37, f 38]), .q (PT J2_6 18), .q (V [f 3, f 4, f 5]), .call (V [f 39, f 40, f 41]), .q (PT J2_6 234)] H36 ?ho26 ?he26
 case ho26 => exact ar (av (bT 1 Ai102 As102 (ar (ag (bA 36 3 0 Ai137 As137 (ag (bA 3 3 0 Ai137 As137 (ac (fun w' h => eC call76 (C13.out w' (h.two 4 5 rfl rfl (by decide)))) (ag trivial)))))))))
 intro _ w37 H37
 clear H36
 refine zF (l := [10]) rfl ?_
 refine sA 0 39 [f 39, f 40, f 41] [(_, cel (tbz1 42 f)), _, _, _, _, _] H37 o2_6 As137 fun w38 H38 => ?_
 clear H37
 refine zE (zK (zA ?_))
 refine zB 2 [.q (.int .i64 12), .q (.int .i64 14)] H38 ?ho27 ?he27
 case ho27 => exact ar (av trivial)
 intro _ w39 H39
 clear H38
 refine zF (l := [2]) rfl ?_
 refine zG (d := 6) rfl rfl rfl rfl ?_
 simp only [Act.put, sa, sz, ss]
 refine zE (zA ?_)
 refine zR (n := 1) ?_
 refine wp_seq (wp_seq ?_)
 refine zB 2 [.q (.int .i64 14), .q (.bool true)] H39 ?ho28 ?he28
 case ho28 => exact ar (ag trivial)
 intro _ w40 H40
 clear H39
 refine rN (wp_cond_true rfl ?_)
 refine wp_skip (zA ?_)
 refine wp_seq (wp_block (wp_seq ?_))
 refine zP 8 [.q (.int .i64 14), .q (.agg (G1 g tn (en u) (en b)).toArray), .q (.int .i64 14), .q (.int .i64 7), .q (PT J2_6 126), .q (V [f 21, f 22, f 23]), .call (V [f 42, f 43, f 44]), .q (PT J2_6 252)] H40 ?ho29 ?he29
 case ho29 => exact ar (bT 1 Ai102 As102 (ar (av (ag (bA 21 3 0 Ai137 As137 (ac (fun w' h => eC call109 (C14.out w' (h.two 4 5 rfl rfl (by decide)))) (ag trivial)))))))
 intro _ w41 H41
 clear H40
 refine zF (l := [8]) rfl ?_
 refine sA 0 42 [f 42, f 43, f 44] [(_, cel (tbz1 45 f)), _, _, _, _, _] H41 o2_6 As137 fun w42 H42 => ?_
 clear H41
 refine zE (zA ?_)
 refine zP 10 [.q (.int .i64 14), .q (.int .i64 15), .q (.agg (G1 g tn (en u) (en b)).toArray), .q (.int .i64 14), .q (PT J2_6 252), .q (V [f 42, f 43, f 44]), .q (PT J2_6 18), .q (V [f 3, f 4, f 5]), .call (V [f 45, f 46, f 47]), .q (PT J2_6 270)] H42 ?ho30 ?he30
 case ho30 => exact ar (av (bT 1 Ai102 As102 (ar (ag (bA 42 3 0 Ai137 As137 (ag (bA 3 3 0 Ai137 As137 (ac (fun w' h => eC call76 (C15.out w' (h.two 4 5 rfl rfl (by decide)))) (ag trivial)))))))))
 intro _ w43 H43
 clear H42
 refine zF (l := [10]) rfl ?_
 refine sA 0 45 [f 45, f 46, f 47] [(_, cel (tb1 f)), _, _, _, _, _] H43 o2_6 As137 fun w44 H44 => ?_
 clear H43
 refine zE (zK (zA ?_))
 refine zB 2 [.q (.int .i64 14), .q (.int .i64 16)] H44 ?ho31 ?he31
 case ho31 => exact ar (av trivial)
 intro _ w45 H45
 clear H44
 refine zF (l := [2]) rfl ?_
 refine zG (d := 6) rfl rfl rfl rfl ?_
 simp only [Act.put, sa, sz, ss]
 refine zE (zA ?_)
 refine zR (n := 0) ?_
 refine wp_seq (wp_seq ?_)
 refine zB 2 [.q (.int .i64 16), .q (.bool false)] H45 ?ho32 ?he32
 case ho32 => exact ar (ag trivial)
 intro _ w46 H46
 clear H45
 refine rN (wp_cond_false rfl ?_)
 refine wp_exit ?_
 repeat refine then_exit ?_
 refine block_exit ?_
 refine zA (wp_seq ?_)
 refine zB 1 [.q (V (tb1 f))] H46 ?ho33 ?he33
 case ho33 => exact bA 0 48 0 Tryz.isAgg170 As170 trivial
 intro _ w47 H47
 clear H46
 refine zF (l := [1]) rfl ?_
 refine sA 3 0 [f 0, f 1, f 2, f 3, f 4, f 5, f 6, f 7, f 8, f 9, f 10, f 11, f 12, f 13, f 14, f 15, f 16, f 17, f 18, f 19, f 20, f 21, f 22, f 23, f 24, f 25, f 26, f 27, f 28, f 29, f 30, f 31, f 32, f 33, f 34, f 35, f 36, f 37, f 38, f 39, f 40, f 41, f 42, f 43, f 44, f 45, f 46, f 47] [_, _, _, (_, cel (tb1 f)), _, _] H47 o1_2 As170 fun w48 H48 => ?_
 clear H47
 refine zE (zA (wp_ret ?_))
 repeat (first | refine zJ ?_ | refine zI ?_)
 have hf0 := cel_var (k := 48) H48.out.1 3 rfl Tryz.isAgg170 As170 rfl
 refine bodyPost_ret (v := V (tb1 f)) (by simp [results, Tryz.results121, asAddr, hf0]) rfl ?_
 exact ⟨rfl, H48.out.2⟩
set_option maxHeartbeats 8000000 in
theorem byRow_1 {α : Type} {en : α → Nat} {fa fs fm : α → α → α} {fi : α → α} {z u b : α} {g : Nat} {tn : Value} (_C : Fd1 g en fa fs fm fi z) (f : Nat → Nat) (tw : EC.Tri α → EC.Tri α) (tg : EC.Tri α → Nat → EC.Tri α) (A : Nat → EC.Tri α) (wo : Nat → Int) (dg : Nat → Nat) (gt gr : Nat)
  (ctw : ∀ T w, Mm w [(g, zQ pB), (0, dtab)] → Calls Tryz.prog 109 #[.agg (G1 g tn (en u) (en b)).toArray, V [en T.1, en T.2.1, en T.2.2]] w (Rt w (V [en ((tw T).1), en ((tw T).2.1), en ((tw T).2.2)])))
  (ctg : ∀ T d, d < 16 → ∀ w, Mm w [(g, zQ pB), (0, dtab)] → Calls Tryz.prog 76 #[.agg (G1 g tn (en u) (en b)).toArray, V [en T.1, en T.2.1, en T.2.2], V [f (3 * d), f (3 * d + 1), f (3 * d + 2)]] w (Rt w (V [en ((tg T d).1), en ((tg T d).2.1), en ((tg T d).2.2)])))
  (hd : ∀ k, wo k / 2 ^ 60 = ((dg k : Nat) : Int)) (hdl : ∀ k, dg k < 16) (hw : ∀ k, IntKind.u64.wrap (wo k * 2 ^ 4) = wo (k + 1))
  (ha0 : ∀ k, dg k = 0 → tw (tw (tw (tw (A k)))) = A (k + 1)) (ha1 : ∀ k, 0 < dg k → tg (tw (tw (tw (tw (A k))))) (dg k) = A (k + 1)) (w : World) (hm : Mm w [(g, zQ pB), (0, dtab), (gt, cel (tb1 f)), (gr, [Value.int .u64 (wo 0)])]) :
  Calls Tryz.prog 122 #[.agg (G1 g tn (en u) (en b)).toArray, V [en ((A 0).1), en ((A 0).2.1), en ((A 0).2.2)], .slice (some ⟨gt, 0, none⟩) 1 1, .slice (some ⟨gr, 0, none⟩) 1 1] w fun e w' => e = .returned (V [en ((A 16).1), en ((A 16).2.1), en ((A 16).2.2)]) ∧ Mm w' [(gr, [Value.int .u64 (wo 16)])] ∧ Kp gr w w' := by
 have H0 : Hid (_ ∧ _) := ⟨hm, Kp.refl gr w⟩
 clear hm
 have CTW : Hid _ := ctw
 clear ctw
 have CTG : Hid _ := ctg
 clear ctg
 have HD : Hid _ := hd
 clear hd
 have HDL : Hid _ := hdl
 clear hdl
 have HW : Hid _ := hw
 clear hw
 have HA0 : Hid _ := ha0
 clear ha0
 have HA1 : Hid _ := ha1
 clear ha1
 go_enter Tryz.func122, Tryz.ntmps122
 refine wp_seq ?_
 refine zD 3 [.made (G1 g tn (en u) (en b)) 102, .made (cel [en ((A 0).1), en ((A 0).2.1), en ((A 0).2.2)]) 137, .made (cel [0, 0, 0]) 137] (sB H0) ?ho1 ?he1
 case ho1 => exact am (zN rfl rfl) (am (ex_boxA rfl rfl) (am (ex_madeTN rfl) trivial))
 intro J w1 l hM hl
 have H1 : Hid (Mm w1 ([(J 0, G1 g tn (en u) (en b)), (J 1, cel [en ((A 0).1), en ((A 0).2.1), en ((A 0).2.2)]), (J 2, cel [0, 0, 0])] ++ _) ∧ _) := wK H0 hM hl [0, 1, 2]
 have o1_0 := vK H0 hM hl 0
 have o1_1 := vK H0 hM hl 1
 have o1_2 := vK H0 hM hl 2
 clear hM hl l
 generalize J 0 = J1_0 at H1 o1_0 ⊢
 generalize J 1 = J1_1 at H1 o1_1 ⊢
 generalize J 2 = J1_2 at H1 o1_2 ⊢
 clear J
 refine rN (wp_seq (wp_seq ?_))
 refine zD 1 [.q (.int .i64 0)] (sB H1) ?ho2 ?he2
 case ho2 => exact ar trivial
 intro J w2 l hM hl
 have H2 := zT H1 hM.below
 clear hM hl l H1 J
 refine rN (wp_block ?_)
 refine loop_ghost (α := Nat) (fun k a' w' => ∃ s0 : Nat → Value, a' = ⟨#[.agg (G1 g tn (en u) (en b)).toArray, V [en ((A 0).1), en ((A 0).2.1), en ((A 0).2.2)], .slice (some ⟨gt, 0, none⟩) 1 1, .slice (some ⟨gr, 0, none⟩) 1 1, PT J1_0 0, PT J1_1 0, ud, ud, PT J1_2 0, s0 9, s0 10, s0 11, .int .i64 ((k : Nat) : Int), s0 13, s0 14, s0 15, s0 16, s0 17, s0 18, s0 19, s0 20, s0 21, s0 22, s0 23, s0 24, s0 25, s0 26, s0 27, s0 28, s0 29, s0 30, s0 31, s0 32, s0 33, s0 34, s0 35, s0 36, s0 37, s0 38, s0 39, s0 40, s0 41, s0 42, s0 43, s0 44, s0 45, s0 46, ud], []⟩ ∧ (Mm w' [(J1_0, G1 g tn (en u) (en b)), (J1_1, cel [en ((A k).1), en ((A k).2.1), en ((A k).2.2)]), (J1_2, cel [0, 0, 0]), (g, zQ pB), (0, dtab), (gt, cel (tb1 f)), (gr, [Value.int .u64 (wo k)])] ∧ Kp gr w w') ∧ k ≤ 16) (fun k => 16 - k) 0 ?st0 ?rd0
 case st0 => exact ⟨(slotfn [ud, ud, ud, ud, ud, ud, ud, ud, ud, ud, ud, ud, ud, ud, ud, ud, ud, ud, ud, ud, ud, ud, ud, ud, ud, ud, ud, ud, ud, ud, ud, ud, ud, ud, ud, ud, ud, ud, ud, ud, ud, ud, ud, ud, ud, ud, ud]), rfl, ⟨H2.out.1, H2.out.2⟩, by omega⟩
 intro k a' w3 hI
 obtain ⟨s0, rfl, hMB, hk0⟩ := hI
 have H3 : Hid (_ ∧ _) := hMB
 clear hMB H2
 by_cases hlt0 : k < 16
 ·have hrd : True := trivial
  clear hrd
  by_cases hdz : dg k = 0
  ·have hrd : True := trivial
   clear hrd
   have hlt : k < 16 := by omega
   refine wp_seq ?_
   refine zD 1 [.q (.bool true)] (sB H3) ?ho3 ?he3
   case ho3 => exact ak (by refine fun J => ⟨rfl, fun w' h => ?_⟩; clear h; go_simp <;> omega) trivial
   intro J w4 l hM hl
   have H4 := zT H3 hM.below
   clear hM hl l H3 J
   refine rN (wp_seq ?_)
   refine wp_cond_true rfl (wp_skip ?_)
   refine zA (wp_seq ?_)
   refine wp_block (wp_seq (wp_seq ?_))
   refine zD 1 [.q (.int .i64 0)] (sB H4) ?ho4 ?he4
   case ho4 => exact ar trivial
   intro J w5 l hM hl
   have H5 := zT H4 hM.below
   clear hM hl l H4 J
   refine rN (wp_block ?_)
   refine wp_loop_rounds 5 ?_
   refine zR (n := 4) ?_
   refine wp_seq ?_
   refine zD 1 [.q (.bool true)] (sB H5) ?ho5 ?he5
   case ho5 => exact ag trivial
   intro J w6 l hM hl
   have H6 := zT H5 hM.below
   clear hM hl l H5 J
   refine rN (wp_seq ?_)
   refine wp_cond_true rfl (wp_skip ?_)
   refine zA (wp_seq (wp_block ?_))
   refine zD 3 [.q (.agg (G1 g tn (en u) (en b)).toArray), .q (V [en ((A k).1), en ((A k).2.1), en ((A k).2.2)]), .call (V [en ((tw (A k)).1), en ((tw (A k)).2.1), en ((tw (A k)).2.2)])] (sB H6) ?ho6 ?he6
   case ho6 => exact bT 0 Ai102 As102 (bA 0 3 1 Ai137 As137 (ac (fun w' h => eC call109 (CTW.out (A k) w' (h.two 3 4 rfl rfl (by decide)))) trivial))
   intro J w7 l hM hl
   have H7 := zT H6 hM.below
   clear hM hl l H6 J
   refine zF (l := [3]) rfl ?_
   refine sL 1 [en ((tw (A k)).1), en ((tw (A k)).2.1), en ((tw (A k)).2.2)] [_, _, _, _, _, _, _] H7 o1_1 As137 fun w8 H8 => ?_
   clear H7
   refine zE (zK (zA ?_))
   refine zD 1 [.q (.int .i64 1)] (sB H8) ?ho7 ?he7
   case ho7 => exact av trivial
   intro J w9 l hM hl
   have H9 := zT H8 hM.below
   clear hM hl l H8 J
   refine zF (l := [1]) rfl ?_
   refine zG (d := 14) rfl rfl rfl rfl ?_
   simp only [Act.put, sa, sz, ss]
   refine zE (zA ?_)
   refine zR (n := 3) ?_
   refine wp_seq ?_
   refine zD 1 [.q (.bool true)] (sB H9) ?ho8 ?he8
   case ho8 => exact ag trivial
   intro J w10 l hM hl
   have H10 := zT H9 hM.below
   clear hM hl l H9 J
   refine rN (wp_seq ?_)
   refine wp_cond_true rfl (wp_skip ?_)
   refine zA (wp_seq (wp_block ?_))
   refine zD 3 [.q (.agg (G1 g tn (en u) (en b)).toArray), .q (V [en ((tw (A k)).1), en ((tw (A k)).2.1), en ((tw (A k)).2.2)]), .call (V [en ((tw (tw (A k))).1), en ((tw (tw (A k))).2.1), en ((tw (tw (A k))).2.2)])] (sB H10) ?ho9 ?he9
   case ho9 => exact bT 0 Ai102 As102 (bA 0 3 1 Ai137 As137 (ac (fun w' h => eC call109 (CTW.out (tw (A k)) w' (h.two 3 4 rfl rfl (by decide)))) trivial))
   intro J w11 l hM hl
   have H11 := zT H10 hM.below
   clear hM hl l H10 J
   refine zF (l := [3]) rfl ?_
   refine sL 1 [en ((tw (tw (A k))).1), en ((tw (tw (A k))).2.1), en ((tw (tw (A k))).2.2)] [_, _, _, _, _, _, _] H11 o1_1 As137 fun w12 H12 => ?_
   clear H11
   refine zE (zK (zA ?_))
   refine zD 1 [.q (.int .i64 2)] (sB H12) ?ho10 ?he10
   case ho10 => exact av trivial
   intro J w13 l hM hl
   have H13 := zT H12 hM.below
   clear hM hl l H12 J
   refine zF (l := [1]) rfl ?_
   refine zG (d := 14) rfl rfl rfl rfl ?_
   simp only [Act.put, sa, sz, ss]
   refine zE (zA ?_)
   refine zR (n := 2) ?_
   refine wp_seq ?_
   refine zD 1 [.q (.bool true)] (sB H13) ?ho11 ?he11
   case ho11 => exact ag trivial
   intro J w14 l hM hl
   have H14 := zT H13 hM.below
   clear hM hl l H13 J
   refine rN (wp_seq ?_)
   refine wp_cond_true rfl (wp_skip ?_)
   refine zA (wp_seq (wp_block ?_))
   refine zD 3 [.q (.agg (G1 g tn (en u) (en b)).toArray), .q (V [en ((tw (tw (A k))).1), en ((tw (tw (A k))).2.1), en ((tw (tw (A k))).2.2)]), .call (V [en ((tw (tw (tw (A k)))).1), en ((tw (tw (tw (A k)))).2.1), en ((tw (tw (tw (A k)))).2.2)])] (sB H14) ?ho12 ?he12
   case ho12 => exact bT 0 Ai102 As102 (bA 0 3 1 Ai137 As137 (ac (fun w' h => eC call109 (CTW.out (tw (tw (A k))) w' (h.two 3 4 rfl rfl (by decide)))) trivial))
   intro J w15 l hM hl
   have H15 := zT H14 hM.below
   clear hM hl l H14 J
   refine zF (l := [3]) rfl ?_
   refine sL 1 [en ((tw (tw (tw (A k)))).1), en ((tw (tw (tw (A k)))).2.1), en ((tw (tw (tw (A k)))).2.2)] [_, _, _, _, _, _, _] H15 o1_1 As137 fun w16 H16 => ?_
   clear H15
   refine zE (zK (zA ?_))
   refine zD 1 [.q (.int .i64 3)] (sB H16) ?ho13 ?he13
   case ho13 => exact av trivial
   intro J w17 l hM hl
   have H17 := zT H16 hM.below
   clear hM hl l H16 J
   refine zF (l := [1]) rfl ?_
   refine zG (d := 14) rfl rfl rfl rfl ?_
   simp only [Act.put, sa, sz, ss]
   refine zE (zA ?_)
   refine zR (n := 1) ?_
   refine wp_seq ?_
   refine zD 1 [.q (.bool true)] (sB H17) ?ho14 ?he14
   case ho14 => exact ag trivial
   intro J w18 l hM hl
   have H18 := zT H17 hM.below
   clear hM hl l H17 J
   refine rN (wp_seq ?_)
   refine wp_cond_true rfl (wp_skip ?_)
   refine zA (wp_seq (wp_block ?_))
   refine zD 3 [.q (.agg (G1 g tn (en u) (en b)).toArray), .q (V [en ((tw (tw (tw (A k)))).1), en ((tw (tw (tw (A k)))).2.1), en ((tw (tw (tw (A k)))).2.2)]), .call (V [en ((tw (tw (tw (tw (A k))))).1), en ((tw (tw (tw (tw (A k))))).2.1), en ((tw (tw (tw (tw (A k))))).2.2)])] (sB H18) ?ho15 ?he15
   case ho15 => exact bT 0 Ai102 As102 (bA 0 3 1 Ai137 As137 (ac (fun w' h => eC call109 (CTW.out (tw (tw (tw (A k)))) w' (h.two 3 4 rfl rfl (by decide)))) trivial))
   intro J w19 l hM hl
   have H19 := zT H18 hM.below
   clear hM hl l H18 J
   refine zF (l := [3]) rfl ?_
   refine sL 1 [en ((tw (tw (tw (tw (A k))))).1), en ((tw (tw (tw (tw (A k))))).2.1), en ((tw (tw (tw (tw (A k))))).2.2)] [_, _, _, _, _, _, _] H19 o1_1 As137 fun w20 H20 => ?_
   clear H19
   refine zE (zK (zA ?_))
   refine zD 1 [.q (.int .i64 4)] (sB H20) ?ho16 ?he16
   case ho16 => exact av trivial
   intro J w21 l hM hl
   have H21 := zT H20 hM.below
   clear hM hl l H20 J
   refine zF (l := [1]) rfl ?_
   refine zG (d := 14) rfl rfl rfl rfl ?_
   simp only [Act.put, sa, sz, ss]
   refine zE (zA ?_)
   refine zR (n := 0) ?_
   refine wp_seq ?_
   refine zD 1 [.q (.bool false)] (sB H21) ?ho17 ?he17
   case ho17 => exact ag trivial
   intro J w22 l hM hl
   have H22 := zT H21 hM.below
   clear hM hl l H21 J
   refine rN (wp_seq (wp_cond_false rfl ?_))
   refine wp_exit ?_
   repeat refine then_exit ?_
   refine block_exit ?_
   refine zA (wp_seq ?_)
   refine zD 3 [.q (.slice (some ⟨gr, 0, none⟩) 1 1), .q (.int .i64 1), .q (.int .i64 0)] (sB H22) ?ho18 ?he18
   case ho18 => exact ar (ag (ar trivial))
   intro J w23 l hM hl
   have H23 := zT H22 hM.below
   clear hM hl l H22 J
   refine rN (wp_block ?_)
   refine wp_loop_rounds 2 ?_
   refine zR (n := 1) ?_
   refine wp_seq ?_
   refine zD 1 [.q (.bool true)] (sB H23) ?ho19 ?he19
   case ho19 => exact ag trivial
   intro J w24 l hM hl
   have H24 := zT H23 hM.below
   clear hM hl l H23 J
   refine rN (wp_seq ?_)
   refine wp_cond_true rfl (wp_skip ?_)
   refine zA (wp_seq ?_)
   refine wp_block (wp_seq ?_)
   refine zD 5 [.q (.int .i64 0), .q (PT gr 0), .q (.int .u64 (wo k)), .q (.int .i64 0), .q (.int .u64 (wo k))] (sB H24) ?ho20 ?he20
   case ho20 => exact ar (ag (bC 6 Ai22 (ar (ar trivial))))
   intro J w25 l hM hl
   have H25 := zT H24 hM.below
   clear hM hl l H24 J
   refine rN (wp_seq (wp_seq ?_))
   refine zD 3 [.q (.int .u64 (wo k)), .q (.int .u64 ((dg k : Nat) : Int)), .q (.int .u64 ((dg k : Nat) : Int))] (sB H25) ?ho21 ?he21
   case ho21 => exact ar (ak (fun J => ⟨rfl, fun w' _ => by rw [← HD.out k]; exact ex_shr60 rfl rfl rfl⟩) (ar trivial))
   intro J w26 l hM hl
   have H26 := zT H25 hM.below
   clear hM hl l H25 J
   refine rN (wp_seq ?_)
   refine zD 2 [.q (.int .u64 ((dg k : Nat) : Int)), .q (.bool false)] (sB H26) ?ho22 ?he22
   case ho22 => exact ar (ak (by refine fun J => ⟨rfl, fun w' h => ?_⟩; clear h; go_simp <;> omega) trivial)
   intro J w27 l hM hl
   have H27 := zT H26 hM.below
   clear hM hl l H26 J
   refine rN (wp_cond_false rfl ?_)
   refine wp_skip (zA ?_)
   refine zD 5 [.q (.slice (some ⟨gr, 0, none⟩) 1 1), .q (.int .i64 0), .q (.int .u64 (wo k)), .q (.int .u64 (IntKind.u64.wrap (wo k * 2 ^ 4))), .q (PT gr 0)] (sB H27) ?ho23 ?he23
   case ho23 => exact ar (ar (ar (ak (fun J => ⟨rfl, fun w' _ => ex_shl4 rfl rfl rfl⟩) (ag trivial))))
   intro J w28 l hM hl
   have H28 := zT H27 hM.below
   clear hM hl l H27 J
   refine zF (l := [5]) rfl ?_
   refine sH rfl (fun h => ex_storeI h 6 rfl rfl As22 rfl rfl (Nat.le_of_ble_eq_true rfl)) 6 [_, _, _, _, _, _, (_, [Value.int .u64 (IntKind.u64.wrap (wo k * 2 ^ 4))])] H28 (Or.inl rfl) fun w29 H29 => ?_
   clear H28
   refine zE (zK (zA ?_))
   refine zD 1 [.q (.int .i64 1)] (sB H29) ?ho24 ?he24
   case ho24 => exact av trivial
   intro J w30 l hM hl
   have H30 := zT H29 hM.below
   clear hM hl l H29 J
   refine zF (l := [1]) rfl ?_
   refine zG (d := 22) rfl rfl rfl rfl ?_
   simp only [Act.put, sa, sz, ss]
   refine zE (zA ?_)
   refine zR (n := 0) ?_
   refine wp_seq ?_
   refine zD 1 [.q (.bool false)] (sB H30) ?ho25 ?he25
   case ho25 => exact ag trivial
   intro J w31 l hM hl
   have H31 := zT H30 hM.below
   clear hM hl l H30 J
   refine rN (wp_seq (wp_cond_false rfl ?_))
   refine wp_exit ?_
   repeat refine then_exit ?_
   refine block_exit ?_
   refine zK (zA ?_)
   refine zD 1 [.q (.int .i64 ((k + 1 : Nat) : Int))] (sB H31) ?ho26 ?he26
   case ho26 => exact ak (by refine fun J => ⟨rfl, fun w' h => ?_⟩; clear h; go_simp; rw [IntKind.wrap_i64]; omega) trivial
   intro J w32 l hM hl
   have H32 := zT H31 hM.below
   clear hM hl l H31 J
   refine zF (l := [1]) rfl ?_
   refine zG (d := 12) rfl rfl rfl rfl ?_
   simp only [Act.put, sa, sz, ss]
   refine zE (zA ?_)
   exact ⟨k + 1, ⟨(slotfn [ud, ud, ud, ud, ud, ud, ud, ud, ud, .int .i64 0, .int .u64 (wo k), .int .u64 ((dg k : Nat) : Int), ud, .bool true, .int .i64 4, .bool false, .agg (G1 g tn (en u) (en b)).toArray, V [en ((tw (tw (tw (A k)))).1), en ((tw (tw (tw (A k)))).2.1), en ((tw (tw (tw (A k)))).2.2)], V [en ((tw (tw (tw (tw (A k))))).1), en ((tw (tw (tw (tw (A k))))).2.1), en ((tw (tw (tw (tw (A k))))).2.2)], .int .i64 4, .slice (some ⟨gr, 0, none⟩) 1 1, .int .i64 1, .int .i64 1, .bool false, .int .i64 0, PT gr 0, .int .u64 (wo k), .int .u64 (wo k), .int .u64 ((dg k : Nat) : Int), .int .u64 ((dg k : Nat) : Int), .bool false, s0 31, s0 32, s0 33, s0 34, s0 35, s0 36, s0 37, s0 38, s0 39, .slice (some ⟨gr, 0, none⟩) 1 1, .int .i64 0, .int .u64 (wo k), .int .u64 (IntKind.u64.wrap (wo k * 2 ^ 4)), PT gr 0, .int .i64 1, .int .i64 ((k + 1 : Nat) : Int)]), rfl, ⟨(H32.out.1).atk (by rw [HA0.out k hdz, HW.out]), H32.out.2⟩, by omega⟩, by omega⟩
  ·have hrd : True := trivial
   clear hrd
   have hdz := Nat.pos_of_ne_zero hdz
   have hlt : k < 16 := by omega
   refine wp_seq ?_
   refine zD 1 [.q (.bool true)] (sB H3) ?ho27 ?he27
   case ho27 => exact ak (by refine fun J => ⟨rfl, fun w' h => ?_⟩; clear h; go_simp <;> omega) trivial
   intro J w33 l hM hl
   have H33 := zT H3 hM.below
   clear hM hl l H3 J
   refine rN (wp_seq ?_)
   refine wp_cond_true rfl (wp_skip ?_)
   refine zA (wp_seq ?_)
   refine wp_block (wp_seq (wp_seq ?_))
   refine zD 1 [.q (.int .i64 0)] (sB H33) ?ho28 ?he28
   case ho28 => exact ar trivial
   intro J w34 l hM hl
   have H34 := zT H33 hM.below
   clear hM hl l H33 J
   refine rN (wp_block ?_)
   refine wp_loop_rounds 5 ?_
   refine zR (n := 4) ?_
   refine wp_seq ?_
   refine zD 1 [.q (.bool true)] (sB H34) ?ho29 ?he29
   case ho29 => exact ag trivial
   intro J w35 l hM hl
   have H35 := zT H34 hM.below
   clear hM hl l H34 J
   refine rN (wp_seq ?_)
   refine wp_cond_true rfl (wp_skip ?_)
   refine zA (wp_seq (wp_block ?_))
   refine zD 3 [.q (.agg (G1 g tn (en u) (en b)).toArray), .q (V [en ((A k).1), en ((A k).2.1), en ((A k).2.2)]), .call (V [en ((tw (A k)).1), en ((tw (A k)).2.1), en ((tw (A k)).2.2)])] (sB H35) ?ho30 ?he30
   case ho30 => exact bT 0 Ai102 As102 (bA 0 3 1 Ai137 As137 (ac (fun w' h => eC call109 (CTW.out (A k) w' (h.two 3 4 rfl rfl (by decide)))) trivial))
   intro J w36 l hM hl
   have H36 := zT H35 hM.below
   clear hM hl l H35 J
   refine zF (l := [3]) rfl ?_
   refine sL 1 [en ((tw (A k)).1), en ((tw (A k)).2.1), en ((tw (A k)).2.2)] [_, _, _, _, _, _, _] H36 o1_1 As137 fun w37 H37 => ?_
   clear H36
   refine zE (zK (zA ?_))
   refine zD 1 [.q (.int .i64 1)] (sB H37) ?ho31 ?he31
   case ho31 => exact av trivial
   intro J w38 l hM hl
   have H38 := zT H37 hM.below
   clear hM hl l H37 J
   refine zF (l := [1]) rfl ?_
   refine zG (d := 14) rfl rfl rfl rfl ?_
   simp only [Act.put, sa, sz, ss]
   refine zE (zA ?_)
   refine zR (n := 3) ?_
   refine wp_seq ?_
   refine zD 1 [.q (.bool true)] (sB H38) ?ho32 ?he32
   case ho32 => exact ag trivial
   intro J w39 l hM hl
   have H39 := zT H38 hM.below
   clear hM hl l H38 J
   refine rN (wp_seq ?_)
   refine wp_cond_true rfl (wp_skip ?_)
   refine zA (wp_seq (wp_block ?_))
   refine zD 3 [.q (.agg (G1 g tn (en u) (en b)).toArray), .q (V [en ((tw (A k)).1), en ((tw (A k)).2.1), en ((tw (A k)).2.2)]), .call (V [en ((tw (tw (A k))).1), en ((tw (tw (A k))).2.1), en ((tw (tw (A k))).2.2)])] (sB H39) ?ho33 ?he33
   case ho33 => exact bT 0 Ai102 As102 (bA 0 3 1 Ai137 As137 (ac (fun w' h => eC call109 (CTW.out (tw (A k)) w' (h.two 3 4 rfl rfl (by decide)))) trivial))
   intro J w40 l hM hl
   have H40 := zT H39 hM.below
   clear hM hl l H39 J
   refine zF (l := [3]) rfl ?_
   refine sL 1 [en ((tw (tw (A k))).1), en ((tw (tw (A k))).2.1), en ((tw (tw (A k))).2.2)] [_, _, _, _, _, _, _] H40 o1_1 As137 fun w41 H41 => ?_
   clear H40
   refine zE (zK (zA ?_))
   refine zD 1 [.q (.int .i64 2)] (sB H41) ?ho34 ?he34
   case ho34 => exact av trivial
   intro J w42 l hM hl
   have H42 := zT H41 hM.below
   clear hM hl l H41 J
   refine zF (l := [1]) rfl ?_
   refine zG (d := 14) rfl rfl rfl rfl ?_
   simp only [Act.put, sa, sz, ss]
   refine zE (zA ?_)
   refine zR (n := 2) ?_
   refine wp_seq ?_
   refine zD 1 [.q (.bool true)] (sB H42) ?ho35 ?he35
   case ho35 => exact ag trivial
   intro J w43 l hM hl
   have H43 := zT H42 hM.below
   clear hM hl l H42 J
   refine rN (wp_seq ?_)
   refine wp_cond_true rfl (wp_skip ?_)
   refine zA (wp_seq (wp_block ?_))
   refine zD 3 [.q (.agg (G1 g tn (en u) (en b)).toArray), .q (V [en ((tw (tw (A k))).1), en ((tw (tw (A k))).2.1), en ((tw (tw (A k))).2.2)]), .call (V [en ((tw (tw (tw (A k)))).1), en ((tw (tw (tw (A k)))).2.1), en ((tw (tw (tw (A k)))).2.2)])] (sB H43) ?ho36 ?he36
   case ho36 => exact bT 0 Ai102 As102 (bA 0 3 1 Ai137 As137 (ac (fun w' h => eC call109 (CTW.out (tw (tw (A k))) w' (h.two 3 4 rfl rfl (by decide)))) trivial))
   intro J w44 l hM hl
   have H44 := zT H43 hM.below
   clear hM hl l H43 J
   refine zF (l := [3]) rfl ?_
   refine sL 1 [en ((tw (tw (tw (A k)))).1), en ((tw (tw (tw (A k)))).2.1), en ((tw (tw (tw (A k)))).2.2)] [_, _, _, _, _, _, _] H44 o1_1 As137 fun w45 H45 => ?_
   clear H44
   refine zE (zK (zA ?_))
   refine zD 1 [.q (.int .i64 3)] (sB H45) ?ho37 ?he37
   case ho37 => exact av trivial
   intro J w46 l hM hl
   have H46 := zT H45 hM.below
   clear hM hl l H45 J
   refine zF (l := [1]) rfl ?_
   refine zG (d := 14) rfl rfl rfl rfl ?_
   simp only [Act.put, sa, sz, ss]
   refine zE (zA ?_)
   refine zR (n := 1) ?_
   refine wp_seq ?_
   refine zD 1 [.q (.bool true)] (sB H46) ?ho38 ?he38
   case ho38 => exact ag trivial
   intro J w47 l hM hl
   have H47 := zT H46 hM.below
   clear hM hl l H46 J
   refine rN (wp_seq ?_)
   refine wp_cond_true rfl (wp_skip ?_)
   refine zA (wp_seq (wp_block ?_))
   refine zD 3 [.q (.agg (G1 g tn (en u) (en b)).toArray), .q (V [en ((tw (tw (tw (A k)))).1), en ((tw (tw (tw (A k)))).2.1), en ((tw (tw (tw (A k)))).2.2)]), .call (V [en ((tw (tw (tw (tw (A k))))).1), en ((tw (tw (tw (tw (A k))))).2.1), en ((tw (tw (tw (tw (A k))))).2.2)])] (sB H47) ?ho39 ?he39
   case ho39 => exact bT 0 Ai102 As102 (bA 0 3 1 Ai137 As137 (ac (fun w' h => eC call109 (CTW.out (tw (tw (tw (A k)))) w' (h.two 3 4 rfl rfl (by decide)))) trivial))
   intro J w48 l hM hl
   have H48 := zT H47 hM.below
   clear hM hl l H47 J
   refine zF (l := [3]) rfl ?_
   refine sL 1 [en ((tw (tw (tw (tw (A k))))).1), en ((tw (tw (tw (tw (A k))))).2.1), en ((tw (tw (tw (tw (A k))))).2.2)] [_, _, _, _, _, _, _] H48 o1_1 As137 fun w49 H49 => ?_
   clear H48
   refine zE (zK (zA ?_))
   refine zD 1 [.q (.int .i64 4)] (sB H49) ?ho40 ?he40
   case ho40 => exact av trivial
   intro J w50 l hM hl
   have H50 := zT H49 hM.below
   clear hM hl l H49 J
   refine zF (l := [1]) rfl ?_
   refine zG (d := 14) rfl rfl rfl rfl ?_
   simp only [Act.put, sa, sz, ss]
   refine zE (zA ?_)
   refine zR (n := 0) ?_
   refine wp_seq ?_
   refine zD 1 [.q (.bool false)] (sB H50) ?ho41 ?he41
   case ho41 => exact ag trivial
   intro J w51 l hM hl
   have H51 := zT H50 hM.below
   clear hM hl l H50 J
   refine rN (wp_seq (wp_cond_false rfl ?_))
   refine wp_exit ?_
   repeat refine then_exit ?_
   refine block_exit ?_
   refine zA (wp_seq ?_)
   refine zD 3 [.q (.slice (some ⟨gr, 0, none⟩) 1 1), .q (.int .i64 1), .q (.int .i64 0)] (sB H51) ?ho42 ?he42
   case ho42 => exact ar (ag (ar trivial))
   intro J w52 l hM hl
   have H52 := zT H51 hM.below
   clear hM hl l H51 J
   refine rN (wp_block ?_)
   refine wp_loop_rounds 2 ?_
   refine zR (n := 1) ?_
   refine wp_seq ?_
   refine zD 1 [.q (.bool true)] (sB H52) ?ho43 ?he43
   case ho43 => exact ag trivial
   intro J w53 l hM hl
   have H53 := zT H52 hM.below
   clear hM hl l H52 J
   refine rN (wp_seq ?_)
   refine wp_cond_true rfl (wp_skip ?_)
   refine zA (wp_seq ?_)
   refine wp_block (wp_seq ?_)
   refine zD 5 [.q (.int .i64 0), .q (PT gr 0), .q (.int .u64 (wo k)), .q (.int .i64 0), .q (.int .u64 (wo k))] (sB H53) ?ho44 ?he44
   case ho44 => exact ar (ag (bC 6 Ai22 (ar (ar trivial))))
   intro J w54 l hM hl
   have H54 := zT H53 hM.below
   clear hM hl l H53 J
   refine rN (wp_seq (wp_seq ?_))
   refine zD 3 [.q (.int .u64 (wo k)), .q (.int .u64 ((dg k : Nat) : Int)), .q (.int .u64 ((dg k : Nat) : Int))] (sB H54) ?ho45 ?he45
   case ho45 => exact ar (ak (fun J => ⟨rfl, fun w' _ => by rw [← HD.out k]; exact ex_shr60 rfl rfl rfl⟩) (ar trivial))
   intro J w55 l hM hl
   have H55 := zT H54 hM.below
   clear hM hl l H54 J
   refine rN (wp_seq ?_)
   refine zD 2 [.q (.int .u64 ((dg k : Nat) : Int)), .q (.bool true)] (sB H55) ?ho46 ?he46
   case ho46 => exact ar (ak (by refine fun J => ⟨rfl, fun w' h => ?_⟩; clear h; go_simp <;> omega) trivial)
   intro J w56 l hM hl
   have H56 := zT H55 hM.below
   clear hM hl l H55 J
   refine rN (wp_cond_true rfl ?_)
   refine walk_anyA 9 [.q (.agg (G1 g tn (en u) (en b)).toArray), .q (V [en ((tw (tw (tw (tw (A k))))).1), en ((tw (tw (tw (tw (A k))))).2.1), en ((tw (tw (tw (tw (A k))))).2.2)]), .q (.slice (some ⟨gt, 0, none⟩) 1 1), .q (.int .i64 0), .q (.int .u64 ((dg k : Nat) : Int)), .q (PT gt 0), .q (PT gt (6 * (3 * (dg k)))), .q (V [f (3 * dg k), f (3 * dg k + 1), f (3 * dg k + 2)]), .call (V [en ((tg (tw (tw (tw (tw (A k))))) (dg k)).1), en ((tg (tw (tw (tw (tw (A k))))) (dg k)).2.1), en ((tg (tw (tw (tw (tw (A k))))) (dg k)).2.2)])] (sB H56) ?ho47 ?he47
   case ho47 => exact bT 0 Ai102 As102 (bA 0 3 1 Ai137 As137 (ar (ar (ar (ag (ak (fun J => ⟨rfl, fun w' _ => ex_idxTB1 rfl rfl rfl (HDL.out _)⟩) (aq (fun w' h => ex_loadA (i := 3 * (dg k)) (k := 3) h 5 rfl rfl rfl Ai137 As137 (tb1_ld f (HDL.out k)) rfl) (ac (fun w' h => eC call76 (CTG.out (tw (tw (tw (tw (A k))))) _ (HDL.out k) w' (h.two 3 4 rfl rfl (by decide)))) trivial))))))))
   intro J w57 l hM hl
   have H57 := zT H56 hM.below
   clear hM hl l H56 J
   refine zF (l := [9]) rfl ?_
   refine sL 1 [en ((tg (tw (tw (tw (tw (A k))))) (dg k)).1), en ((tg (tw (tw (tw (tw (A k))))) (dg k)).2.1), en ((tg (tw (tw (tw (tw (A k))))) (dg k)).2.2)] [_, _, _, _, _, _, _] H57 o1_1 As137 fun w58 H58 => ?_
   clear H57
   refine zE (zA ?_)
   refine zD 5 [.q (.slice (some ⟨gr, 0, none⟩) 1 1), .q (.int .i64 0), .q (.int .u64 (wo k)), .q (.int .u64 (IntKind.u64.wrap (wo k * 2 ^ 4))), .q (PT gr 0)] (sB H58) ?ho48 ?he48
   case ho48 => exact ar (ar (ar (ak (fun J => ⟨rfl, fun w' _ => ex_shl4 rfl rfl rfl⟩) (ag trivial))))
   intro J w59 l hM hl
   have H59 := zT H58 hM.below
   clear hM hl l H58 J
   refine zF (l := [5]) rfl ?_
   refine sH rfl (fun h => ex_storeI h 6 rfl rfl As22 rfl rfl (Nat.le_of_ble_eq_true rfl)) 6 [_, _, _, _, _, _, (_, [Value.int .u64 (IntKind.u64.wrap (wo k * 2 ^ 4))])] H59 (Or.inl rfl) fun w60 H60 => ?_
   clear H59
   refine zE (zK (zA ?_))
   refine zD 1 [.q (.int .i64 1)] (sB H60) ?ho49 ?he49
   case ho49 => exact av trivial
   intro J w61 l hM hl
   have H61 := zT H60 hM.below
   clear hM hl l H60 J
   refine zF (l := [1]) rfl ?_
   refine zG (d := 22) rfl rfl rfl rfl ?_
   simp only [Act.put, sa, sz, ss]
   refine zE (zA ?_)
   refine zR (n := 0) ?_
   refine wp_seq ?_
   refine zD 1 [.q (.bool false)] (sB H61) ?ho50 ?he50
   case ho50 => exact ag trivial
   intro J w62 l hM hl
   have H62 := zT H61 hM.below
   clear hM hl l H61 J
   refine rN (wp_seq (wp_cond_false rfl ?_))
   refine wp_exit ?_
   repeat refine then_exit ?_
   refine block_exit ?_
   refine zK (zA ?_)
   refine zD 1 [.q (.int .i64 ((k + 1 : Nat) : Int))] (sB H62) ?ho51 ?he51
   case ho51 => exact ak (by refine fun J => ⟨rfl, fun w' h => ?_⟩; clear h; go_simp; rw [IntKind.wrap_i64]; omega) trivial
   intro J w63 l hM hl
   have H63 := zT H62 hM.below
   clear hM hl l H62 J
   refine zF (l := [1]) rfl ?_
   refine zG (d := 12) rfl rfl rfl rfl ?_
   simp only [Act.put, sa, sz, ss]
   refine zE (zA ?_)
   exact ⟨k + 1, ⟨(slotfn [ud, ud, ud, ud, ud, ud, ud, ud, ud, .int .i64 0, .int .u64 (wo k), .int .u64 ((dg k : Nat) : Int), ud, .bool true, .int .i64 4, .bool false, .agg (G1 g tn (en u) (en b)).toArray, V [en ((tw (tw (tw (A k)))).1), en ((tw (tw (tw (A k)))).2.1), en ((tw (tw (tw (A k)))).2.2)], V [en ((tw (tw (tw (tw (A k))))).1), en ((tw (tw (tw (tw (A k))))).2.1), en ((tw (tw (tw (tw (A k))))).2.2)], .int .i64 4, .slice (some ⟨gr, 0, none⟩) 1 1, .int .i64 1, .int .i64 1, .bool false, .int .i64 0, PT gr 0, .int .u64 (wo k), .int .u64 (wo k), .int .u64 ((dg k : Nat) : Int), .int .u64 ((dg k : Nat) : Int), .bool true, .agg (G1 g tn (en u) (en b)).toArray, V [en ((tw (tw (tw (tw (A k))))).1), en ((tw (tw (tw (tw (A k))))).2.1), en ((tw (tw (tw (tw (A k))))).2.2)], .slice (some ⟨gt, 0, none⟩) 1 1, .int .i64 0, .int .u64 ((dg k : Nat) : Int), PT gt 0, PT gt (6 * (3 * (dg k))), V [f (3 * dg k), f (3 * dg k + 1), f (3 * dg k + 2)], V [en ((tg (tw (tw (tw (tw (A k))))) (dg k)).1), en ((tg (tw (tw (tw (tw (A k))))) (dg k)).2.1), en ((tg (tw (tw (tw (tw (A k))))) (dg k)).2.2)], .slice (some ⟨gr, 0, none⟩) 1 1, .int .i64 0, .int .u64 (wo k), .int .u64 (IntKind.u64.wrap (wo k * 2 ^ 4)), PT gr 0, .int .i64 1, .int .i64 ((k + 1 : Nat) : Int)]), rfl, ⟨(H63.out.1).atk (by rw [HA1.out k hdz, HW.out]), H63.out.2⟩, by omega⟩, by omega⟩
 have hk16 : k = 16 := by omega
 subst hk16
 refine wp_seq ?_
 refine zD 1 [.q (.bool false)] (sB H3) ?ho52 ?he52
 case ho52 => exact ak (by refine fun J => ⟨rfl, fun w' h => ?_⟩; clear h; go_simp <;> omega) trivial
 intro J w64 l hM hl
 have H64 := zT H3 hM.below
 clear hM hl l H3 J
 refine rN (wp_seq (wp_cond_false rfl ?_))
 refine wp_exit ?_
 repeat refine then_exit ?_
 refine block_exit ?_
 refine zA (wp_seq ?_)
 refine zD 1 [.q (V [en ((A 16).1), en ((A 16).2.1), en ((A 16).2.2)])] (sB H64) ?ho53 ?he53
 case ho53 => exact bA 0 3 1 Ai137 As137 trivial
 intro J w65 l hM hl
 have H65 := zT H64 hM.below
 clear hM hl l H64 J
 refine zF (l := [1]) rfl ?_
 refine sL 2 [en ((A 16).1), en ((A 16).2.1), en ((A 16).2.2)] [_, _, _, _, _, _, _] H65 o1_2 As137 fun w66 H66 => ?_
 clear H65
 refine zE (zA (wp_ret ?_))
 repeat (first | refine zJ ?_ | refine zI ?_)
 have hf0 := cel_var (k := 3) H66.out.1 2 rfl Ai137 As137 rfl
 refine bodyPost_ret (v := V [en ((A 16).1), en ((A 16).2.1), en ((A 16).2.2)]) (by simp [results, Tryz.results122, asAddr, hf0]) rfl ?_
 exact ⟨rfl, H66.out.1.one 6 rfl, H66.out.2⟩
theorem ex_bs89 {ρ : Operand → Value} {o : Oper} {x : Operand} {a b : Nat} {z : Bool} {w : World} (ho : o.op = .buildSlice 89 1 #[(0, x)]) (hx : ρ x = .agg (cel [a, b] ++ [Value.bool z]).toArray) :
  (execOp ρ o).run Tryz.prog w = .ok (.value (.slice (some ⟨w.heap.size, 0, none⟩) 1 1)) (w.alloc (.cells (cel [a, b] ++ [Value.bool z] : List Value).toArray 33)) := by
 simp only [execOp, ho, List.map_toArray, List.map_cons, List.map_nil, hx]
 kernel_rfl
theorem ex_bs73 {ρ : Operand → Value} {o : Oper} {x : Operand} {a : Nat} {w : World} (ho : o.op = .buildSlice 73 1 #[(0, x)]) (hx : ρ x = N a) :
  (execOp ρ o).run Tryz.prog w = .ok (.value (.slice (some ⟨w.heap.size, 0, none⟩) 1 1)) (w.alloc (.cells (zC a : List Value).toArray 24)) := by
 simp only [execOp, ho, List.map_toArray, List.map_cons, List.map_nil, hx]
 kernel_rfl
end Rg
end Go.Proofs.YtahgdighnlekdaaGreatDoor
end
