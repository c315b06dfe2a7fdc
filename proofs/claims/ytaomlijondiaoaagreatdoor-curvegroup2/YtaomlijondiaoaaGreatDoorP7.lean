/- Texts of the proof, joined. -/
import Derived.Test.YtaomlijondiaoaaGreatDoorP6
set_option maxRecDepth 100000
section
namespace Go.Proofs.YtaomlijondiaoaaGreatDoor
open Go.RowKit
namespace Rg
theorem zero_1 {α : Type} {en : α → Nat} {fa fs fm : α → α → α} {fi : α → α} {z u b : α} {g : Nat} {tn : Value} (_C : Fd1 g en fa fs fm fi z) (w : World) (hm : Mm w [(g, zR pB), (0, dtab)]) :
  Calls Tryz.prog 117 #[.agg (G1 g tn (en u) (en b)).toArray] w (Rt w (V [0, en u, 0])) := by
 have H0 : Hid (_ ∧ _) := ⟨hm, Below.refl w.heap.size w⟩
 clear hm
 go_enter Tryz.func117, Tryz.ntmps117
 refine wp_seq ?_
 refine zD 2 [.made (G1 g tn (en u) (en b)) 81, .made (cel [0, 0, 0]) 124] (sB H0) ?ho1 ?he1
 case ho1 => exact ak (fun γ => ⟨rfl, fun w' => yA rfl rfl⟩) (ak (fun γ => ⟨rfl, fun w' => ex_madeTN rfl⟩) trivial)
 intro γ w1 l hM hl
 have H1 : Hid (Mm w1 [(γ 0, G1 g tn (en u) (en b)), (γ 1, cel [0, 0, 0]), (g, zR pB), (0, dtab)] ∧ _) := zS H0 hM (Nat.le_refl _) hl [0, 1] rfl (by decide)
 have o1_0 := zP H0 hM (Nat.le_refl _) hl (i := 0) rfl
 have o1_1 := zP H0 hM (Nat.le_refl _) hl (i := 1) rfl
 clear hM hl l
 generalize γ 0 = γ1_0 at H1 o1_0 ⊢
 generalize γ 1 = γ1_1 at H1 o1_1 ⊢
 clear γ
 refine zG rfl (zA (wp_seq ?_))
 refine zE 4 [.quiet (PT γ1_0 0), .quiet (PT γ1_0 5), .quiet (N (en u)), .quiet (V [0, en u, 0])] H1 ?ho2 ?he2
 case ho2 => exact ag (ag (aq (fun w' h => l6 h 0) (ak (fun γ => ⟨rfl, fun w' _ => ex_buildTNy rfl rfl⟩) trivial)))
 intro _ w2 H2
 clear H1
 refine zJ (l := [4]) rfl ?_
 refine zI rfl rfl rfl (zT (i := 0) (ms := [0, en u, 0]) H2.out.1 1 rfl rfl rfl rfl Tryz.sizeOf124 (Nat.le_of_ble_eq_true rfl)) ?_
 have H3 : Hid (Mm (w2.setCells γ1_1 (6 * 0) (cel [0, en u, 0])) [(γ1_0, G1 g tn (en u) (en b)), (γ1_1, cel [0, en u, 0]), (g, zR pB), (0, dtab)] ∧ Below w.heap.size w (w2.setCells γ1_1 (6 * 0) (cel [0, en u, 0]))) := ⟨by
  have h := H2.out.1.put 1 (off := 6 * 0) (vs := cel [0, en u, 0]) rfl (by simp only [cel_len]; exact Nat.le_of_ble_eq_true rfl)
  rw [zU] at h
  exact h, zF _ o1_1.out _ _ _ H2.out.2⟩
 clear H2
 generalize hgw : World.setCells _ _ _ _ = w3 at H3 ⊢
 clear hgw
 refine zH (zA (wp_ret ?_))
 repeat (first | refine zM ?_ | refine zK ?_)
 have hf0 := cel_var (k := 3) H3.out.1 1 rfl Tryz.isAgg124 Tryz.sizeOf124 rfl
 refine bodyPost_ret (v := V [0, en u, 0]) (by simp [results, Tryz.results117, asAddr, hf0]) rfl ?_
 exact ⟨rfl, H3.out.2⟩
theorem liftT_1 {α : Type} {en : α → Nat} {fa fs fm : α → α → α} {fi : α → α} {z u b : α} {g : Nat} {tn : Value} (C : Fd1 g en fa fs fm fi z) (x y : Nat) (w : World) (hm : Mm w [(g, zR pB), (0, dtab)]) :
  Calls Tryz.prog 89 #[.agg (G1 g tn (en u) (en b)).toArray, .agg (cel [x, y] ++ [Value.bool true]).toArray] w (Rt w (V [0, en u, 0])) := by
 have H0 : Hid (_ ∧ _) := ⟨hm, Below.refl w.heap.size w⟩
 clear hm
 go_enter Tryz.func89, Tryz.ntmps89
 refine wp_seq ?_
 refine zD 3 [.made (G1 g tn (en u) (en b)) 81, .made (cel [x, y] ++ [Value.bool true]) 84, .made (cel [0, 0, 0]) 124] (sB H0) ?ho1 ?he1
 case ho1 => exact ak (fun γ => ⟨rfl, fun w' => yA rfl rfl⟩) (ak (fun γ => ⟨rfl, fun w' => yA rfl rfl⟩) (ak (fun γ => ⟨rfl, fun w' => ex_madeTN rfl⟩) trivial))
 intro γ w1 l hM hl
 have H1 : Hid (Mm w1 [(γ 0, G1 g tn (en u) (en b)), (γ 1, cel [x, y] ++ [Value.bool true]), (γ 2, cel [0, 0, 0]), (g, zR pB), (0, dtab)] ∧ _) := zS H0 hM (Nat.le_refl _) hl [0, 1, 2] rfl (by decide)
 have o1_0 := zP H0 hM (Nat.le_refl _) hl (i := 0) rfl
 have o1_1 := zP H0 hM (Nat.le_refl _) hl (i := 1) rfl
 have o1_2 := zP H0 hM (Nat.le_refl _) hl (i := 2) rfl
 clear hM hl l
 generalize γ 0 = γ1_0 at H1 o1_0 ⊢
 generalize γ 1 = γ1_1 at H1 o1_1 ⊢
 generalize γ 2 = γ1_2 at H1 o1_2 ⊢
 clear γ
 refine zG rfl (zA (wp_seq (wp_seq ?_)))
 refine zE 2 [.quiet (PT γ1_1 12), .quiet (.bool true)] H1 ?ho2 ?he2
 case ho2 => exact ag (aq (fun w' h => lC h 1 Tryz.isAgg4) trivial)
 intro _ w2 H2
 clear H1
 refine zG rfl (zA (wp_cond_true rfl (wp_seq ?_)))
 refine zE 2 [.quiet (.agg (G1 g tn (en u) (en b)).toArray), .call (V [0, en u, 0])] H2 ?ho3 ?he3
 case ho3 => exact aq (fun w' h => lT h 0 Tryz.isAgg81 Tryz.sizeOf81) (ac (fun w' h => ⟨117, #[.agg (G1 g tn (en u) (en b)).toArray], zC rfl call117 rfl (zX rfl), zero_1 C w' (h.two 3 4 rfl rfl (by decide))⟩) trivial)
 intro _ w3 H3
 clear H2
 refine zJ (l := [2]) rfl ?_
 refine zI rfl rfl rfl (zT (i := 0) (ms := [0, en u, 0]) H3.out.1 2 rfl rfl rfl rfl Tryz.sizeOf124 (Nat.le_of_ble_eq_true rfl)) ?_
 have H4 : Hid (Mm (w3.setCells γ1_2 (6 * 0) (cel [0, en u, 0])) [(γ1_0, G1 g tn (en u) (en b)), (γ1_1, cel [x, y] ++ [Value.bool true]), (γ1_2, cel [0, en u, 0]), (g, zR pB), (0, dtab)] ∧ Below w.heap.size w (w3.setCells γ1_2 (6 * 0) (cel [0, en u, 0]))) := ⟨by
  have h := H3.out.1.put 2 (off := 6 * 0) (vs := cel [0, en u, 0]) rfl (by simp only [cel_len]; exact Nat.le_of_ble_eq_true rfl)
  rw [zU] at h
  exact h, zF _ o1_2.out _ _ _ H3.out.2⟩
 clear H3
 generalize hgw : World.setCells _ _ _ _ = w4 at H4 ⊢
 clear hgw
 refine zH (zA (wp_ret ?_))
 repeat (first | refine zM ?_ | refine zK ?_)
 have hf0 := cel_var (k := 3) H4.out.1 2 rfl Tryz.isAgg124 Tryz.sizeOf124 rfl
 refine bodyPost_ret (v := V [0, en u, 0]) (by simp [results, Tryz.results89, asAddr, hf0]) rfl ?_
 exact ⟨rfl, H4.out.2⟩
theorem liftF_1 {α : Type} {en : α → Nat} {fa fs fm : α → α → α} {fi : α → α} {z u b : α} {g : Nat} {tn : Value} (_C : Fd1 g en fa fs fm fi z) (x y : Nat) (w : World) (hm : Mm w [(g, zR pB), (0, dtab)]) :
  Calls Tryz.prog 89 #[.agg (G1 g tn (en u) (en b)).toArray, .agg (cel [x, y] ++ [Value.bool false]).toArray] w (Rt w (V [x, y, en u])) := by
 have H0 : Hid (_ ∧ _) := ⟨hm, Below.refl w.heap.size w⟩
 clear hm
 go_enter Tryz.func89, Tryz.ntmps89
 refine wp_seq ?_
 refine zD 3 [.made (G1 g tn (en u) (en b)) 81, .made (cel [x, y] ++ [Value.bool false]) 84, .made (cel [0, 0, 0]) 124] (sB H0) ?ho1 ?he1
 case ho1 => exact ak (fun γ => ⟨rfl, fun w' => yA rfl rfl⟩) (ak (fun γ => ⟨rfl, fun w' => yA rfl rfl⟩) (ak (fun γ => ⟨rfl, fun w' => ex_madeTN rfl⟩) trivial))
 intro γ w1 l hM hl
 have H1 : Hid (Mm w1 [(γ 0, G1 g tn (en u) (en b)), (γ 1, cel [x, y] ++ [Value.bool false]), (γ 2, cel [0, 0, 0]), (g, zR pB), (0, dtab)] ∧ _) := zS H0 hM (Nat.le_refl _) hl [0, 1, 2] rfl (by decide)
 have o1_0 := zP H0 hM (Nat.le_refl _) hl (i := 0) rfl
 have o1_1 := zP H0 hM (Nat.le_refl _) hl (i := 1) rfl
 have o1_2 := zP H0 hM (Nat.le_refl _) hl (i := 2) rfl
 clear hM hl l
 generalize γ 0 = γ1_0 at H1 o1_0 ⊢
 generalize γ 1 = γ1_1 at H1 o1_1 ⊢
 generalize γ 2 = γ1_2 at H1 o1_2 ⊢
 clear γ
 refine zG rfl (zA (wp_seq (wp_seq ?_)))
 refine zE 2 [.quiet (PT γ1_1 12), .quiet (.bool false)] H1 ?ho2 ?he2
 case ho2 => exact ag (aq (fun w' h => lC h 1 Tryz.isAgg4) trivial)
 intro _ w2 H2
 clear H1
 refine zG rfl (zA (wp_cond_false rfl ?_))
 refine wp_skip (zA (wp_seq ?_))
 refine zE 8 [.quiet (PT γ1_1 0), .quiet (N x), .quiet (PT γ1_1 6), .quiet (N y), .quiet (PT γ1_0 0), .quiet (PT γ1_0 5), .quiet (N (en u)), .quiet (V [x, y, en u])] H2 ?ho3 ?he3
 case ho3 => exact ag (aq (fun w' h => l6 h 1) (ag (aq (fun w' h => l6 h 1) (ag (ag (aq (fun w' h => l6 h 0) (ak (fun γ => ⟨rfl, fun w' _ => ex_buildTN rfl rfl rfl rfl⟩) trivial)))))))
 intro _ w3 H3
 clear H2
 refine zJ (l := [8]) rfl ?_
 refine zI rfl rfl rfl (zT (i := 0) (ms := [x, y, en u]) H3.out.1 2 rfl rfl rfl rfl Tryz.sizeOf124 (Nat.le_of_ble_eq_true rfl)) ?_
 have H4 : Hid (Mm (w3.setCells γ1_2 (6 * 0) (cel [x, y, en u])) [(γ1_0, G1 g tn (en u) (en b)), (γ1_1, cel [x, y] ++ [Value.bool false]), (γ1_2, cel [x, y, en u]), (g, zR pB), (0, dtab)] ∧ Below w.heap.size w (w3.setCells γ1_2 (6 * 0) (cel [x, y, en u]))) := ⟨by
  have h := H3.out.1.put 2 (off := 6 * 0) (vs := cel [x, y, en u]) rfl (by simp only [cel_len]; exact Nat.le_of_ble_eq_true rfl)
  rw [zU] at h
  exact h, zF _ o1_2.out _ _ _ H3.out.2⟩
 clear H3
 generalize hgw : World.setCells _ _ _ _ = w4 at H4 ⊢
 clear hgw
 refine zH (zA (wp_ret ?_))
 repeat (first | refine zM ?_ | refine zK ?_)
 have hf0 := cel_var (k := 3) H4.out.1 2 rfl Tryz.isAgg124 Tryz.sizeOf124 rfl
 refine bodyPost_ret (v := V [x, y, en u]) (by simp [results, Tryz.results89, asAddr, hf0]) rfl ?_
 exact ⟨rfl, H4.out.2⟩
theorem isZero_1 (x y t : Nat) (bz : Bool) (hz : ∀ w, (Op.equalIn 10000 24 (N t) (N 0)).run Tryz.prog w = .ok bz w) (w : World) :
  Calls Tryz.prog 136 #[V [x, y, t]] w (Rt w (.bool bz)) := by
 have H0 : Hid (_ ∧ _) := ⟨Mm.nil w, Below.refl w.heap.size w⟩
 have HZ : Hid _ := hz
 clear hz
 go_enter Tryz.func136, Tryz.ntmps136
 refine wp_seq ?_
 refine zD 2 [.made (cel [x, y, t]) 124, .quiet (.bool false)] (sB H0) ?ho1 ?he1
 case ho1 => exact ak (fun γ => ⟨rfl, fun w' => ex_boxA rfl rfl⟩) (ar trivial)
 intro γ w1 l hM hl
 have H1 : Hid (Mm w1 [(γ 0, cel [x, y, t])] ∧ _) := zS H0 hM (Nat.le_refl _) hl [0] rfl (by decide)
 have o1_0 := zP H0 hM (Nat.le_refl _) hl (i := 0) rfl
 clear hM hl l
 generalize γ 0 = γ1_0 at H1 o1_0 ⊢
 clear γ
 refine zG rfl (zA (wp_seq ?_))
 refine zD 1 [.made zero6 24] (sB H1) ?ho2 ?he2
 case ho2 => exact ak (fun γ => ⟨rfl, fun w' => zL rfl⟩) trivial
 intro γ w2 l hM hl
 have H2 : Hid (Mm w2 [(γ 0, zero6), (γ1_0, cel [x, y, t])] ∧ _) := zS H1 hM (Nat.le_refl _) hl [0] rfl (by decide)
 have o2_0 := zP H1 hM (Nat.le_refl _) hl (i := 0) rfl
 clear hM hl l H1
 generalize γ 0 = γ2_0 at H2 o2_0 ⊢
 clear γ
 refine zG rfl (zA (wp_seq ?_))
 refine zE 5 [.quiet (PT γ1_0 12), .quiet (N t), .quiet (N 0), .quiet (.bool bz), .quiet (.bool bz)] H2 ?ho3 ?he3
 case ho3 => exact ag (aq (fun w' h => yB (i := 2) h 1 rfl rfl rfl rfl) (aq (fun w' h => ex_load6 (v := 0) h 0 rfl rfl rfl zero_take) (ak (fun γ => ⟨rfl, fun w' _ => exec_eq6 HZ.out rfl rfl rfl⟩) (ar trivial))))
 intro _ w3 H3
 clear H2
 refine zG rfl (zA (wp_ret ?_))
 repeat (first | refine zM ?_ | refine zK ?_)
 refine bodyPost_ret (v := .bool bz) (by simp [results, Tryz.results136, go_sem, *]) rfl ?_
 exact ⟨rfl, H3.out.2⟩
theorem lowerT_1 {α : Type} {en : α → Nat} {fa fs fm : α → α → α} {fi : α → α} {z u b : α} {g : Nat} {tn : Value} (_C : Fd1 g en fa fs fm fi z) (x y t : Nat) (hz : ∀ w, (Op.equalIn 10000 24 (N t) (N 0)).run Tryz.prog w = .ok true w) (w : World) (hm : Mm w [(g, zR pB), (0, dtab)]) :
  Calls Tryz.prog 93 #[.agg (G1 g tn (en u) (en b)).toArray, V [x, y, t]] w (Rt w (.agg (cel [0, 0] ++ [Value.bool true]).toArray)) := by
 have H0 : Hid (_ ∧ _) := ⟨hm, Below.refl w.heap.size w⟩
 clear hm
 have HZ : Hid _ := hz
 clear hz
 go_enter Tryz.func93, Tryz.ntmps93
 refine wp_seq ?_
 refine zD 3 [.made (G1 g tn (en u) (en b)) 81, .made (cel [x, y, t]) 124, .made (cel [0, 0] ++ [Value.bool false]) 84] (sB H0) ?ho1 ?he1
 case ho1 => exact ak (fun γ => ⟨rfl, fun w' => yA rfl rfl⟩) (ak (fun γ => ⟨rfl, fun w' => ex_boxA rfl rfl⟩) (ak (fun γ => ⟨rfl, fun w' => ex_madePN rfl⟩) trivial))
 intro γ w1 l hM hl
 have H1 : Hid (Mm w1 [(γ 0, G1 g tn (en u) (en b)), (γ 1, cel [x, y, t]), (γ 2, cel [0, 0] ++ [Value.bool false]), (g, zR pB), (0, dtab)] ∧ _) := zS H0 hM (Nat.le_refl _) hl [0, 1, 2] rfl (by decide)
 have o1_0 := zP H0 hM (Nat.le_refl _) hl (i := 0) rfl
 have o1_1 := zP H0 hM (Nat.le_refl _) hl (i := 1) rfl
 have o1_2 := zP H0 hM (Nat.le_refl _) hl (i := 2) rfl
 clear hM hl l
 generalize γ 0 = γ1_0 at H1 o1_0 ⊢
 generalize γ 1 = γ1_1 at H1 o1_1 ⊢
 generalize γ 2 = γ1_2 at H1 o1_2 ⊢
 clear γ
 refine zG rfl (zA (wp_seq (wp_seq ?_)))
 refine zE 2 [.quiet (V [x, y, t]), .call (.bool true)] H1 ?ho2 ?he2
 case ho2 => exact aq (fun w' h => lA 0 3 h 1 Tryz.isAgg124 Tryz.sizeOf124) (ac (fun w' h => ⟨136, #[V [x, y, t]], zC rfl call136 rfl (zX rfl), isZero_1 _ _ _ true HZ.out w'⟩) trivial)
 intro _ w2 H2
 clear H1
 refine zG rfl (zA (wp_cond_true rfl (wp_seq ?_)))
 refine zE 1 [.quiet (.agg (cel [0, 0] ++ [Value.bool true]).toArray)] H2 ?ho3 ?he3
 case ho3 => exact ak (fun γ => ⟨rfl, fun w' _ => ex_buildPNt rfl rfl⟩) trivial
 intro _ w3 H3
 clear H2
 refine zJ (l := [1]) rfl ?_
 refine zI rfl rfl rfl (ex_storeT (vs := cel [0, 0] ++ [Value.bool true]) H3.out.1 2 rfl rfl rfl rfl Tryz.sizeOf84 rfl (Nat.le_of_ble_eq_true rfl)) ?_
 have H4 : Hid (Mm (w3.setCells γ1_2 0 (cel [0, 0] ++ [Value.bool true])) [(γ1_0, G1 g tn (en u) (en b)), (γ1_1, cel [x, y, t]), (γ1_2, cel [0, 0] ++ [Value.bool true]), (g, zR pB), (0, dtab)] ∧ Below w.heap.size w (w3.setCells γ1_2 0 (cel [0, 0] ++ [Value.bool true]))) := ⟨H3.out.1.put 2 (off := 0) (vs := cel [0, 0] ++ [Value.bool true]) rfl (Nat.le_of_ble_eq_true rfl), zF _ o1_2.out _ _ _ H3.out.2⟩
 clear H3
 generalize hgw : World.setCells _ _ _ _ = w4 at H4 ⊢
 clear hgw
 refine zH (zA (wp_ret ?_))
 repeat (first | refine zM ?_ | refine zK ?_)
 have hf0 := var_T H4.out.1 2 rfl Tryz.isAgg84 Tryz.sizeOf84 rfl
 refine bodyPost_ret (v := .agg (cel [0, 0] ++ [Value.bool true]).toArray) (by simp [results, Tryz.results93, asAddr, hf0]) rfl ?_
 exact ⟨rfl, H4.out.2⟩
theorem lowerF_1 {α : Type} {en : α → Nat} {fa fs fm : α → α → α} {fi : α → α} {z u b : α} {g : Nat} {tn : Value} (C : Fd1 g en fa fs fm fi z) (x y t : α) (hz : ∀ w, (Op.equalIn 10000 24 (N (en t)) (N 0)).run Tryz.prog w = .ok false w) (ht : t ≠ z) (w : World) (hm : Mm w [(g, zR pB), (0, dtab)]) :
  Calls Tryz.prog 93 #[.agg (G1 g tn (en u) (en b)).toArray, V [en x, en y, en t]] w (Rt w (.agg (cel [en (fm x (fi t)), en (fm y (fi t))] ++ [Value.bool false]).toArray)) := by
 have H0 : Hid (_ ∧ _) := ⟨hm, Below.refl w.heap.size w⟩
 clear hm
 have HZ : Hid _ := hz
 clear hz
 have HT : Hid _ := ht
 clear ht
 go_enter Tryz.func93, Tryz.ntmps93
 refine wp_seq ?_
 refine zD 3 [.made (G1 g tn (en u) (en b)) 81, .made (cel [en x, en y, en t]) 124, .made (cel [0, 0] ++ [Value.bool false]) 84] (sB H0) ?ho1 ?he1
 case ho1 => exact ak (fun γ => ⟨rfl, fun w' => yA rfl rfl⟩) (ak (fun γ => ⟨rfl, fun w' => ex_boxA rfl rfl⟩) (ak (fun γ => ⟨rfl, fun w' => ex_madePN rfl⟩) trivial))
 intro γ w1 l hM hl
 have H1 : Hid (Mm w1 [(γ 0, G1 g tn (en u) (en b)), (γ 1, cel [en x, en y, en t]), (γ 2, cel [0, 0] ++ [Value.bool false]), (g, zR pB), (0, dtab)] ∧ _) := zS H0 hM (Nat.le_refl _) hl [0, 1, 2] rfl (by decide)
 have o1_0 := zP H0 hM (Nat.le_refl _) hl (i := 0) rfl
 have o1_1 := zP H0 hM (Nat.le_refl _) hl (i := 1) rfl
 have o1_2 := zP H0 hM (Nat.le_refl _) hl (i := 2) rfl
 clear hM hl l
 generalize γ 0 = γ1_0 at H1 o1_0 ⊢
 generalize γ 1 = γ1_1 at H1 o1_1 ⊢
 generalize γ 2 = γ1_2 at H1 o1_2 ⊢
 clear γ
 refine zG rfl (zA (wp_seq (wp_seq ?_)))
 refine zE 2 [.quiet (V [en x, en y, en t]), .call (.bool false)] H1 ?ho2 ?he2
 case ho2 => exact aq (fun w' h => lA 0 3 h 1 Tryz.isAgg124 Tryz.sizeOf124) (ac (fun w' h => ⟨136, #[V [en x, en y, en t]], zC rfl call136 rfl (zX rfl), isZero_1 _ _ _ false HZ.out w'⟩) trivial)
 intro _ w2 H2
 clear H1
 refine zG rfl (zA (wp_cond_false rfl ?_))
 refine wp_skip (zA (wp_seq ?_))
 refine zD 12 [.quiet (PT γ1_0 0), .quiet (PT γ1_0 3), .quiet (.func (.func 86) #[PT g 0] #[]), .quiet (PT γ1_1 12), .quiet (N (en t)), .call (.tuple #[N (en (fi t)), .int .i64 0]), .quiet (.tuple #[N (en (fi t)), .int .i64 0]), .quiet (N (en (fi t))), .quiet (.int .i64 0), .made zero6 24, .laid 9 zero6 (zB (en (fi t))), .quiet (.int .i64 0)] (sB H2) ?ho3 ?he3 (hL := ?hL3)
 case hL3 => exact ⟨⟨_, rfl⟩, trivial⟩
 case ho3 => exact ag (ag (aq (fun w' h => lC h 0 Tryz.isAgg77) (ag (aq (fun w' h => yB (i := 2) h 1 rfl rfl rfl rfl) (ac (fun w' h => ⟨86, #[PT g 0, N (en t)], zO rfl call86 rfl (zX rfl) rfl, C.ci _ w' HT.out (h.two 3 4 rfl rfl (by decide))⟩) (ar (ag (ag (ak (fun γ => ⟨rfl, fun w' => zL rfl⟩) (ak (fun γ => ⟨rfl, rfl, rfl, fun w' h => zZ h rfl rfl rfl⟩) (ar trivial)))))))))))
 intro γ w3 l hM hl
 have H3 : Hid (Mm w3 [(γ 9, zB (en (fi t))), (γ1_0, G1 g tn (en u) (en b)), (γ1_1, cel [en x, en y, en t]), (γ1_2, cel [0, 0] ++ [Value.bool false]), (g, zR pB), (0, dtab)] ∧ _) := zS H2 hM (Nat.le_refl _) hl [9] rfl (by decide)
 have o3_9 := zP H2 hM (Nat.le_refl _) hl (i := 9) rfl
 clear hM hl l H2
 generalize γ 9 = γ3_9 at H3 o3_9 ⊢
 clear γ
 refine zG rfl (zA (wp_seq ?_))
 refine yC 15 [.quiet (PT γ1_0 0), .quiet (PT γ1_0 2), .quiet (.func (.func 85) #[PT g 0] #[]), .quiet (PT γ1_1 0), .quiet (N (en x)), .quiet (N (en (fi t))), .call (N (en (fm x (fi t)))), .quiet (PT γ1_0 0), .quiet (PT γ1_0 2), .quiet (.func (.func 85) #[PT g 0] #[]), .quiet (PT γ1_1 6), .quiet (N (en y)), .quiet (N (en (fi t))), .call (N (en (fm y (fi t)))), .quiet (.agg (cel [en (fm x (fi t)), en (fm y (fi t))] ++ [Value.bool false]).toArray)] H3 ?ho4 ?he4
 case ho4 => exact ag (ag (aq (fun w' h => lC h 1 Tryz.isAgg75) (ag (aq (fun w' h => yB (i := 0) h 2 rfl rfl rfl rfl) (aq (fun w' h => l6 h 0) (ac (fun w' h => ⟨85, #[PT g 0, N (en x), N (en (fi t))], zO rfl call85 rfl (zX rfl) rfl, C.cm _ _ w' (h.two 4 5 rfl rfl (by decide))⟩) (ag (ag (aq (fun w' h => lC h 1 Tryz.isAgg75) (ag (aq (fun w' h => yB (i := 1) h 2 rfl rfl rfl rfl) (aq (fun w' h => l6 h 0) (ac (fun w' h => ⟨85, #[PT g 0, N (en y), N (en (fi t))], zO rfl call85 rfl (zX rfl) rfl, C.cm _ _ w' (h.two 4 5 rfl rfl (by decide))⟩) (ak (fun γ => ⟨rfl, fun w' _ => ex_buildPNxy rfl rfl rfl⟩) trivial))))))))))))))
 intro _ w4 H4
 clear H3
 refine zJ (l := [15]) rfl ?_
 refine zI rfl rfl rfl (ex_storeT (vs := cel [en (fm x (fi t)), en (fm y (fi t))] ++ [Value.bool false]) H4.out.1 3 rfl rfl rfl rfl Tryz.sizeOf84 rfl (Nat.le_of_ble_eq_true rfl)) ?_
 have H5 : Hid (Mm (w4.setCells γ1_2 0 (cel [en (fm x (fi t)), en (fm y (fi t))] ++ [Value.bool false])) [(γ3_9, zB (en (fi t))), (γ1_0, G1 g tn (en u) (en b)), (γ1_1, cel [en x, en y, en t]), (γ1_2, cel [en (fm x (fi t)), en (fm y (fi t))] ++ [Value.bool false]), (g, zR pB), (0, dtab)] ∧ Below w.heap.size w (w4.setCells γ1_2 0 (cel [en (fm x (fi t)), en (fm y (fi t))] ++ [Value.bool false]))) := ⟨H4.out.1.put 3 (off := 0) (vs := cel [en (fm x (fi t)), en (fm y (fi t))] ++ [Value.bool false]) rfl (Nat.le_of_ble_eq_true rfl), zF _ o1_2.out _ _ _ H4.out.2⟩
 clear H4
 generalize hgw : World.setCells _ _ _ _ = w5 at H5 ⊢
 clear hgw
 refine zH (zA (wp_ret ?_))
 repeat (first | refine zM ?_ | refine zK ?_)
 have hf0 := var_T H5.out.1 3 rfl Tryz.isAgg84 Tryz.sizeOf84 rfl
 refine bodyPost_ret (v := .agg (cel [en (fm x (fi t)), en (fm y (fi t))] ++ [Value.bool false]).toArray) (by simp [results, Tryz.results93, asAddr, hf0]) rfl ?_
 exact ⟨rfl, H5.out.2⟩
set_option maxHeartbeats 4000000 in
theorem togetherV_1 {α : Type} {en : α → Nat} {fa fs fm : α → α → α} {fi : α → α} {z u b : α} {g : Nat} {tn : Value} (C : Fd1 g en fa fs fm fi z) (x1 y1 z1 x2 y2 z2 : α) (v1 v2 v3 v4 v5 v6 v7 v8 v9 v10 v11 v12 v13 v14 v15 v16 v17 v18 v19 v20 v21 v22 v23 v24 v25 v26 v27 v28 v29 v30 v31 v32 v33 v34 : α) (hv1 : fm x1 x2 = v1) (hv2 : fm y1 y2 = v2) (hv3 : fm z1 z2 = v3) (hv4 : fa x1 y1 = v4) (hv5 : fa x2 y2 = v5) (hv6 : fm v4 v5 = v6) (hv7 : fa v1 v2 = v7) (hv8 : fs v6 v7 = v8) (hv9 : fa y1 z1 = v9) (hv10 : fa y2 z2 = v10) (hv11 : fm v9 v10 = v11) (hv12 : fa v2 v3 = v12) (hv13 : fs v11 v12 = v13) (hv14 : fa x1 z1 = v14) (hv15 : fa x2 z2 = v15) (hv16 : fm v14 v15 = v16) (hv17 : fa v1 v3 = v17) (hv18 : fs v16 v17 = v18) (hv19 : fa (fa v1 v1) v1 = v19) (hv20 : fm b v18 = v20) (hv21 : fa (fa v20 v20) v20 = v21) (hv22 : fm b v3 = v22) (hv23 : fa (fa v22 v22) v22 = v23) (hv24 : fs v2 v23 = v24) (hv25 : fa v2 v23 = v25) (hv26 : fm v24 v8 = v26) (hv27 : fm v13 v21 = v27) (hv28 : fs v26 v27 = v28) (hv29 : fm v24 v25 = v29) (hv30 : fm v19 v21 = v30) (hv31 : fa v29 v30 = v31) (hv32 : fm v25 v13 = v32) (hv33 : fm v19 v8 = v33) (hv34 : fa v32 v33 = v34) (w : World) (hm : Mm w [(g, zR pB), (0, dtab)]) :
  Calls Tryz.prog 94 #[.agg (G1 g tn (en u) (en b)).toArray, V [en x1, en y1, en z1], V [en x2, en y2, en z2]] w (Rt w (V [en v28, en v31, en v34])) := by
 have H0 : Hid (_ ∧ _) := ⟨hm, Below.refl w.heap.size w⟩
 clear hm
 have HV1 : Hid _ := hv1
 clear hv1
 have HV2 : Hid _ := hv2
 clear hv2
 have HV3 : Hid _ := hv3
 clear hv3
 have HV4 : Hid _ := hv4
 clear hv4
 have HV5 : Hid _ := hv5
 clear hv5
 have HV6 : Hid _ := hv6
 clear hv6
 have HV7 : Hid _ := hv7
 clear hv7
 have HV8 : Hid _ := hv8
 clear hv8
 have HV9 : Hid _ := hv9
 clear hv9
 have HV10 : Hid _ := hv10
 clear hv10
 have HV11 : Hid _ := hv11
 clear hv11
 have HV12 : Hid _ := hv12
 clear hv12
 have HV13 : Hid _ := hv13
 clear hv13
 have HV14 : Hid _ := hv14
 clear hv14
 have HV15 : Hid _ := hv15
 clear hv15
 have HV16 : Hid _ := hv16
 clear hv16
 have HV17 : Hid _ := hv17
 clear hv17
 have HV18 : Hid _ := hv18
 clear hv18
 have HV19 : Hid _ := hv19
 clear hv19
 have HV20 : Hid _ := hv20
 clear hv20
 have HV21 : Hid _ := hv21
 clear hv21
 have HV22 : Hid _ := hv22
 clear hv22
 have HV23 : Hid _ := hv23
 clear hv23
 have HV24 : Hid _ := hv24
 clear hv24
 have HV25 : Hid _ := hv25
 clear hv25
 have HV26 : Hid _ := hv26
 clear hv26
 have HV27 : Hid _ := hv27
 clear hv27
 have HV28 : Hid _ := hv28
 clear hv28
 have HV29 : Hid _ := hv29
 clear hv29
 have HV30 : Hid _ := hv30
 clear hv30
 have HV31 : Hid _ := hv31
 clear hv31
 have HV32 : Hid _ := hv32
 clear hv32
 have HV33 : Hid _ := hv33
 clear hv33
 have HV34 : Hid _ := hv34
 clear hv34
 go_enter Tryz.func94, Tryz.ntmps94
 refine wp_seq ?_
 refine zD 4 [.made (G1 g tn (en u) (en b)) 81, .made (cel [en x1, en y1, en z1]) 124, .made (cel [en x2, en y2, en z2]) 124, .made (cel [0, 0, 0]) 124] (sB H0) ?ho1 ?he1
 case ho1 => exact ak (fun γ => ⟨rfl, fun w' => yA rfl rfl⟩) (ak (fun γ => ⟨rfl, fun w' => ex_boxA rfl rfl⟩) (ak (fun γ => ⟨rfl, fun w' => ex_boxA rfl rfl⟩) (ak (fun γ => ⟨rfl, fun w' => ex_madeTN rfl⟩) trivial)))
 intro γ w1 l hM hl
 have H1 : Hid (Mm w1 [(γ 0, G1 g tn (en u) (en b)), (γ 1, cel [en x1, en y1, en z1]), (γ 2, cel [en x2, en y2, en z2]), (γ 3, cel [0, 0, 0]), (g, zR pB), (0, dtab)] ∧ _) := zS H0 hM (Nat.le_refl _) hl [0, 1, 2, 3] rfl (by decide)
 have o1_0 := zP H0 hM (Nat.le_refl _) hl (i := 0) rfl
 have o1_1 := zP H0 hM (Nat.le_refl _) hl (i := 1) rfl
 have o1_2 := zP H0 hM (Nat.le_refl _) hl (i := 2) rfl
 have o1_3 := zP H0 hM (Nat.le_refl _) hl (i := 3) rfl
 clear hM hl l
 generalize γ 0 = γ1_0 at H1 o1_0 ⊢
 generalize γ 1 = γ1_1 at H1 o1_1 ⊢
 generalize γ 2 = γ1_2 at H1 o1_2 ⊢
 generalize γ 3 = γ1_3 at H1 o1_3 ⊢
 clear γ
 refine zG rfl (zA (wp_seq ?_))
 refine zY 30 [.quiet (PT γ1_0 0), .quiet (PT γ1_0 2), .quiet (.func (.func 85) #[PT g 0] #[]), .quiet (PT γ1_1 0), .quiet (N (en x1)), .quiet (PT γ1_2 0), .quiet (N (en x2)), .call (N (en v1)), .quiet (PT γ1_0 0), .quiet (PT γ1_0 2), .quiet (.func (.func 85) #[PT g 0] #[]), .quiet (PT γ1_1 6), .quiet (N (en y1)), .quiet (PT γ1_2 6), .quiet (N (en y2)), .call (N (en v2)), .quiet (PT γ1_0 0), .quiet (PT γ1_0 2), .quiet (.func (.func 85) #[PT g 0] #[]), .quiet (PT γ1_1 12), .quiet (N (en z1)), .quiet (PT γ1_2 12), .quiet (N (en z2)), .call (N (en v3)), .made zero6 24, .made zero6 24, .made zero6 24, .laid 24 zero6 (zB (en v1)), .laid 25 zero6 (zB (en v2)), .laid 26 zero6 (zB (en v3))] (sB H1) ?ho2 ?he2 (hL := ?hL2)
 case hL2 => exact ⟨⟨_, rfl⟩, ⟨_, rfl⟩, ⟨_, rfl⟩, trivial⟩
 case ho2 => exact ag (ag (aq (fun w' h => lC h 0 Tryz.isAgg75) (ag (aq (fun w' h => yB (i := 0) h 1 rfl rfl rfl rfl) (ag (aq (fun w' h => yB (i := 0) h 2 rfl rfl rfl rfl) (ac (fun w' h => ⟨85, #[PT g 0, N (en x1), N (en x2)], zO rfl call85 rfl (zX rfl) rfl, C.km HV1.out w' (h.two 4 5 rfl rfl (by decide))⟩) (ag (ag (aq (fun w' h => lC h 0 Tryz.isAgg75) (ag (aq (fun w' h => yB (i := 1) h 1 rfl rfl rfl rfl) (ag (aq (fun w' h => yB (i := 1) h 2 rfl rfl rfl rfl) (ac (fun w' h => ⟨85, #[PT g 0, N (en y1), N (en y2)], zO rfl call85 rfl (zX rfl) rfl, C.km HV2.out w' (h.two 4 5 rfl rfl (by decide))⟩) (ag (ag (aq (fun w' h => lC h 0 Tryz.isAgg75) (ag (aq (fun w' h => yB (i := 2) h 1 rfl rfl rfl rfl) (ag (aq (fun w' h => yB (i := 2) h 2 rfl rfl rfl rfl) (ac (fun w' h => ⟨85, #[PT g 0, N (en z1), N (en z2)], zO rfl call85 rfl (zX rfl) rfl, C.km HV3.out w' (h.two 4 5 rfl rfl (by decide))⟩) (ak (fun γ => ⟨rfl, fun w' => zL rfl⟩) (ak (fun γ => ⟨rfl, fun w' => zL rfl⟩) (ak (fun γ => ⟨rfl, fun w' => zL rfl⟩) (ak (fun γ => ⟨rfl, rfl, rfl, fun w' h => zZ h rfl rfl rfl⟩) (ak (fun γ => ⟨rfl, rfl, rfl, fun w' h => zZ h rfl rfl rfl⟩) (ak (fun γ => ⟨rfl, rfl, rfl, fun w' h => zZ h rfl rfl rfl⟩) trivial)))))))))))))))))))))))))))))
 intro γ w2 l hM hl
 have H2 : Hid (Mm w2 [(γ 24, zB (en v1)), (γ 25, zB (en v2)), (γ 26, zB (en v3)), (γ1_0, G1 g tn (en u) (en b)), (γ1_1, cel [en x1, en y1, en z1]), (γ1_2, cel [en x2, en y2, en z2]), (γ1_3, cel [0, 0, 0]), (g, zR pB), (0, dtab)] ∧ _) := zS H1 hM (Nat.le_refl _) hl [24, 25, 26] rfl (by decide)
 have o2_24 := zP H1 hM (Nat.le_refl _) hl (i := 24) rfl
 have o2_25 := zP H1 hM (Nat.le_refl _) hl (i := 25) rfl
 have o2_26 := zP H1 hM (Nat.le_refl _) hl (i := 26) rfl
 clear hM hl l H1
 generalize γ 24 = γ2_24 at H2 o2_24 ⊢
 generalize γ 25 = γ2_25 at H2 o2_25 ⊢
 generalize γ 26 = γ2_26 at H2 o2_26 ⊢
 clear γ
 refine zG rfl (zA (wp_seq ?_))
 refine zY 32 [.quiet (PT γ1_0 0), .quiet (PT γ1_0 1), .quiet (.func (.func 84) #[PT g 0] #[]), .quiet (PT γ1_0 0), .quiet (PT γ1_0 2), .quiet (.func (.func 85) #[PT g 0] #[]), .quiet (PT γ1_0 0), .quiet (PT γ1_0 0), .quiet (.func (.func 83) #[PT g 0] #[]), .quiet (PT γ1_1 0), .quiet (N (en x1)), .quiet (PT γ1_1 6), .quiet (N (en y1)), .call (N (en v4)), .quiet (PT γ1_0 0), .quiet (PT γ1_0 0), .quiet (.func (.func 83) #[PT g 0] #[]), .quiet (PT γ1_2 0), .quiet (N (en x2)), .quiet (PT γ1_2 6), .quiet (N (en y2)), .call (N (en v5)), .call (N (en v6)), .quiet (PT γ1_0 0), .quiet (PT γ1_0 0), .quiet (.func (.func 83) #[PT g 0] #[]), .quiet (N (en v1)), .quiet (N (en v2)), .call (N (en v7)), .call (N (en v8)), .made zero6 24, .laid 30 zero6 (zB (en v8))] (sB H2) ?ho3 ?he3 (hL := ?hL3)
 case hL3 => exact ⟨⟨_, rfl⟩, trivial⟩
 case ho3 => exact ag (ag (aq (fun w' h => lC h 3 Tryz.isAgg75) (ag (ag (aq (fun w' h => lC h 3 Tryz.isAgg75) (ag (ag (aq (fun w' h => lC h 3 Tryz.isAgg75) (ag (aq (fun w' h => yB (i := 0) h 4 rfl rfl rfl rfl) (ag (aq (fun w' h => yB (i := 1) h 4 rfl rfl rfl rfl) (ac (fun w' h => ⟨83, #[PT g 0, N (en x1), N (en y1)], zO rfl call83 rfl (zX rfl) rfl, C.ka HV4.out w' (h.two 7 8 rfl rfl (by decide))⟩) (ag (ag (aq (fun w' h => lC h 3 Tryz.isAgg75) (ag (aq (fun w' h => yB (i := 0) h 5 rfl rfl rfl rfl) (ag (aq (fun w' h => yB (i := 1) h 5 rfl rfl rfl rfl) (ac (fun w' h => ⟨83, #[PT g 0, N (en x2), N (en y2)], zO rfl call83 rfl (zX rfl) rfl, C.ka HV5.out w' (h.two 7 8 rfl rfl (by decide))⟩) (ac (fun w' h => ⟨85, #[PT g 0, N (en v4), N (en v5)], zO rfl call85 rfl (zX rfl) rfl, C.km HV6.out w' (h.two 7 8 rfl rfl (by decide))⟩) (ag (ag (aq (fun w' h => lC h 3 Tryz.isAgg75) (aq (fun w' h => l6 h 0) (aq (fun w' h => l6 h 1) (ac (fun w' h => ⟨83, #[PT g 0, N (en v1), N (en v2)], zO rfl call83 rfl (zX rfl) rfl, C.ka HV7.out w' (h.two 7 8 rfl rfl (by decide))⟩) (ac (fun w' h => ⟨84, #[PT g 0, N (en v6), N (en v7)], zO rfl call84 rfl (zX rfl) rfl, C.ks HV8.out w' (h.two 7 8 rfl rfl (by decide))⟩) (ak (fun γ => ⟨rfl, fun w' => zL rfl⟩) (ak (fun γ => ⟨rfl, rfl, rfl, fun w' h => zZ h rfl rfl rfl⟩) trivial)))))))))))))))))))))))))))))))
 intro γ w3 l hM hl
 have H3 : Hid (Mm w3 [(γ 30, zB (en v8)), (γ2_24, zB (en v1)), (γ2_25, zB (en v2)), (γ2_26, zB (en v3)), (γ1_0, G1 g tn (en u) (en b)), (γ1_1, cel [en x1, en y1, en z1]), (γ1_2, cel [en x2, en y2, en z2]), (γ1_3, cel [0, 0, 0]), (g, zR pB), (0, dtab)] ∧ _) := zS H2 hM (Nat.le_refl _) hl [30] rfl (by decide)
 have o3_30 := zP H2 hM (Nat.le_refl _) hl (i := 30) rfl
 clear hM hl l H2
 generalize γ 30 = γ3_30 at H3 o3_30 ⊢
 clear γ
 refine zG rfl (zA (wp_seq ?_))
 refine zY 32 [.quiet (PT γ1_0 0), .quiet (PT γ1_0 1), .quiet (.func (.func 84) #[PT g 0] #[]), .quiet (PT γ1_0 0), .quiet (PT γ1_0 2), .quiet (.func (.func 85) #[PT g 0] #[]), .quiet (PT γ1_0 0), .quiet (PT γ1_0 0), .quiet (.func (.func 83) #[PT g 0] #[]), .quiet (PT γ1_1 6), .quiet (N (en y1)), .quiet (PT γ1_1 12), .quiet (N (en z1)), .call (N (en v9)), .quiet (PT γ1_0 0), .quiet (PT γ1_0 0), .quiet (.func (.func 83) #[PT g 0] #[]), .quiet (PT γ1_2 6), .quiet (N (en y2)), .quiet (PT γ1_2 12), .quiet (N (en z2)), .call (N (en v10)), .call (N (en v11)), .quiet (PT γ1_0 0), .quiet (PT γ1_0 0), .quiet (.func (.func 83) #[PT g 0] #[]), .quiet (N (en v2)), .quiet (N (en v3)), .call (N (en v12)), .call (N (en v13)), .made zero6 24, .laid 30 zero6 (zB (en v13))] (sB H3) ?ho4 ?he4 (hL := ?hL4)
 case hL4 => exact ⟨⟨_, rfl⟩, trivial⟩
 case ho4 => exact ag (ag (aq (fun w' h => lC h 4 Tryz.isAgg75) (ag (ag (aq (fun w' h => lC h 4 Tryz.isAgg75) (ag (ag (aq (fun w' h => lC h 4 Tryz.isAgg75) (ag (aq (fun w' h => yB (i := 1) h 5 rfl rfl rfl rfl) (ag (aq (fun w' h => yB (i := 2) h 5 rfl rfl rfl rfl) (ac (fun w' h => ⟨83, #[PT g 0, N (en y1), N (en z1)], zO rfl call83 rfl (zX rfl) rfl, C.ka HV9.out w' (h.two 8 9 rfl rfl (by decide))⟩) (ag (ag (aq (fun w' h => lC h 4 Tryz.isAgg75) (ag (aq (fun w' h => yB (i := 1) h 6 rfl rfl rfl rfl) (ag (aq (fun w' h => yB (i := 2) h 6 rfl rfl rfl rfl) (ac (fun w' h => ⟨83, #[PT g 0, N (en y2), N (en z2)], zO rfl call83 rfl (zX rfl) rfl, C.ka HV10.out w' (h.two 8 9 rfl rfl (by decide))⟩) (ac (fun w' h => ⟨85, #[PT g 0, N (en v9), N (en v10)], zO rfl call85 rfl (zX rfl) rfl, C.km HV11.out w' (h.two 8 9 rfl rfl (by decide))⟩) (ag (ag (aq (fun w' h => lC h 4 Tryz.isAgg75) (aq (fun w' h => l6 h 2) (aq (fun w' h => l6 h 3) (ac (fun w' h => ⟨83, #[PT g 0, N (en v2), N (en v3)], zO rfl call83 rfl (zX rfl) rfl, C.ka HV12.out w' (h.two 8 9 rfl rfl (by decide))⟩) (ac (fun w' h => ⟨84, #[PT g 0, N (en v11), N (en v12)], zO rfl call84 rfl (zX rfl) rfl, C.ks HV13.out w' (h.two 8 9 rfl rfl (by decide))⟩) (ak (fun γ => ⟨rfl, fun w' => zL rfl⟩) (ak (fun γ => ⟨rfl, rfl, rfl, fun w' h => zZ h rfl rfl rfl⟩) trivial)))))))))))))))))))))))))))))))
 intro γ w4 l hM hl
 have H4 : Hid (Mm w4 [(γ 30, zB (en v13)), (γ3_30, zB (en v8)), (γ2_24, zB (en v1)), (γ2_25, zB (en v2)), (γ2_26, zB (en v3)), (γ1_0, G1 g tn (en u) (en b)), (γ1_1, cel [en x1, en y1, en z1]), (γ1_2, cel [en x2, en y2, en z2]), (γ1_3, cel [0, 0, 0]), (g, zR pB), (0, dtab)] ∧ _) := zS H3 hM (Nat.le_refl _) hl [30] rfl (by decide)
 have o4_30 := zP H3 hM (Nat.le_refl _) hl (i := 30) rfl
 clear hM hl l H3
 generalize γ 30 = γ4_30 at H4 o4_30 ⊢
 clear γ
 refine zG rfl (zA (wp_seq ?_))
 refine zY 32 [.quiet (PT γ1_0 0), .quiet (PT γ1_0 1), .quiet (.func (.func 84) #[PT g 0] #[]), .quiet (PT γ1_0 0), .quiet (PT γ1_0 2), .quiet (.func (.func 85) #[PT g 0] #[]), .quiet (PT γ1_0 0), .quiet (PT γ1_0 0), .quiet (.func (.func 83) #[PT g 0] #[]), .quiet (PT γ1_1 0), .quiet (N (en x1)), .quiet (PT γ1_1 12), .quiet (N (en z1)), .call (N (en v14)), .quiet (PT γ1_0 0), .quiet (PT γ1_0 0), .quiet (.func (.func 83) #[PT g 0] #[]), .quiet (PT γ1_2 0), .quiet (N (en x2)), .quiet (PT γ1_2 12), .quiet (N (en z2)), .call (N (en v15)), .call (N (en v16)), .quiet (PT γ1_0 0), .quiet (PT γ1_0 0), .quiet (.func (.func 83) #[PT g 0] #[]), .quiet (N (en v1)), .quiet (N (en v3)), .call (N (en v17)), .call (N (en v18)), .made zero6 24, .laid 30 zero6 (zB (en v18))] (sB H4) ?ho5 ?he5 (hL := ?hL5)
 case hL5 => exact ⟨⟨_, rfl⟩, trivial⟩
 case ho5 => exact ag (ag (aq (fun w' h => lC h 5 Tryz.isAgg75) (ag (ag (aq (fun w' h => lC h 5 Tryz.isAgg75) (ag (ag (aq (fun w' h => lC h 5 Tryz.isAgg75) (ag (aq (fun w' h => yB (i := 0) h 6 rfl rfl rfl rfl) (ag (aq (fun w' h => yB (i := 2) h 6 rfl rfl rfl rfl) (ac (fun w' h => ⟨83, #[PT g 0, N (en x1), N (en z1)], zO rfl call83 rfl (zX rfl) rfl, C.ka HV14.out w' (h.two 9 10 rfl rfl (by decide))⟩) (ag (ag (aq (fun w' h => lC h 5 Tryz.isAgg75) (ag (aq (fun w' h => yB (i := 0) h 7 rfl rfl rfl rfl) (ag (aq (fun w' h => yB (i := 2) h 7 rfl rfl rfl rfl) (ac (fun w' h => ⟨83, #[PT g 0, N (en x2), N (en z2)], zO rfl call83 rfl (zX rfl) rfl, C.ka HV15.out w' (h.two 9 10 rfl rfl (by decide))⟩) (ac (fun w' h => ⟨85, #[PT g 0, N (en v14), N (en v15)], zO rfl call85 rfl (zX rfl) rfl, C.km HV16.out w' (h.two 9 10 rfl rfl (by decide))⟩) (ag (ag (aq (fun w' h => lC h 5 Tryz.isAgg75) (aq (fun w' h => l6 h 2) (aq (fun w' h => l6 h 4) (ac (fun w' h => ⟨83, #[PT g 0, N (en v1), N (en v3)], zO rfl call83 rfl (zX rfl) rfl, C.ka HV17.out w' (h.two 9 10 rfl rfl (by decide))⟩) (ac (fun w' h => ⟨84, #[PT g 0, N (en v16), N (en v17)], zO rfl call84 rfl (zX rfl) rfl, C.ks HV18.out w' (h.two 9 10 rfl rfl (by decide))⟩) (ak (fun γ => ⟨rfl, fun w' => zL rfl⟩) (ak (fun γ => ⟨rfl, rfl, rfl, fun w' h => zZ h rfl rfl rfl⟩) trivial)))))))))))))))))))))))))))))))
 intro γ w5 l hM hl
 have H5 : Hid (Mm w5 [(γ 30, zB (en v18)), (γ4_30, zB (en v13)), (γ3_30, zB (en v8)), (γ2_24, zB (en v1)), (γ2_25, zB (en v2)), (γ2_26, zB (en v3)), (γ1_0, G1 g tn (en u) (en b)), (γ1_1, cel [en x1, en y1, en z1]), (γ1_2, cel [en x2, en y2, en z2]), (γ1_3, cel [0, 0, 0]), (g, zR pB), (0, dtab)] ∧ _) := zS H4 hM (Nat.le_refl _) hl [30] rfl (by decide)
 have o5_30 := zP H4 hM (Nat.le_refl _) hl (i := 30) rfl
 clear hM hl l H4
 generalize γ 30 = γ5_30 at H5 o5_30 ⊢
 clear γ
 refine zG rfl (zA (wp_seq ?_))
 refine zY 27 [.quiet (.agg (G1 g tn (en u) (en b)).toArray), .quiet (N (en v1)), .call (N (en v19)), .quiet (.agg (G1 g tn (en u) (en b)).toArray), .quiet (PT γ1_0 0), .quiet (PT γ1_0 2), .quiet (.func (.func 85) #[PT g 0] #[]), .quiet (PT γ1_0 11), .quiet (N (en b)), .quiet (N (en v18)), .call (N (en v20)), .call (N (en v21)), .quiet (.agg (G1 g tn (en u) (en b)).toArray), .quiet (PT γ1_0 0), .quiet (PT γ1_0 2), .quiet (.func (.func 85) #[PT g 0] #[]), .quiet (PT γ1_0 11), .quiet (N (en b)), .quiet (N (en v3)), .call (N (en v22)), .call (N (en v23)), .made zero6 24, .made zero6 24, .made zero6 24, .laid 21 zero6 (zB (en v19)), .laid 22 zero6 (zB (en v21)), .laid 23 zero6 (zB (en v23))] (sB H5) ?ho6 ?he6 (hL := ?hL6)
 case hL6 => exact ⟨⟨_, rfl⟩, ⟨_, rfl⟩, ⟨_, rfl⟩, trivial⟩
 case ho6 => exact aq (fun w' h => lT h 6 Tryz.isAgg81 Tryz.sizeOf81) (aq (fun w' h => l6 h 3) (ac (fun w' h => ⟨137, #[.agg (G1 g tn (en u) (en b)).toArray, N (en v1)], zC rfl call137 rfl (zX rfl), thriceN_1 C HV19.out w' (h.two 10 11 rfl rfl (by decide))⟩) (aq (fun w' h => lT h 6 Tryz.isAgg81 Tryz.sizeOf81) (ag (ag (aq (fun w' h => lC h 6 Tryz.isAgg75) (ag (aq (fun w' h => l6 h 6) (aq (fun w' h => l6 h 0) (ac (fun w' h => ⟨85, #[PT g 0, N (en b), N (en v18)], zO rfl call85 rfl (zX rfl) rfl, C.km HV20.out w' (h.two 10 11 rfl rfl (by decide))⟩) (ac (fun w' h => ⟨137, #[.agg (G1 g tn (en u) (en b)).toArray, N (en v20)], zC rfl call137 rfl (zX rfl), thriceN_1 C HV21.out w' (h.two 10 11 rfl rfl (by decide))⟩) (aq (fun w' h => lT h 6 Tryz.isAgg81 Tryz.sizeOf81) (ag (ag (aq (fun w' h => lC h 6 Tryz.isAgg75) (ag (aq (fun w' h => l6 h 6) (aq (fun w' h => l6 h 5) (ac (fun w' h => ⟨85, #[PT g 0, N (en b), N (en v3)], zO rfl call85 rfl (zX rfl) rfl, C.km HV22.out w' (h.two 10 11 rfl rfl (by decide))⟩) (ac (fun w' h => ⟨137, #[.agg (G1 g tn (en u) (en b)).toArray, N (en v22)], zC rfl call137 rfl (zX rfl), thriceN_1 C HV23.out w' (h.two 10 11 rfl rfl (by decide))⟩) (ak (fun γ => ⟨rfl, fun w' => zL rfl⟩) (ak (fun γ => ⟨rfl, fun w' => zL rfl⟩) (ak (fun γ => ⟨rfl, fun w' => zL rfl⟩) (ak (fun γ => ⟨rfl, rfl, rfl, fun w' h => zZ h rfl rfl rfl⟩) (ak (fun γ => ⟨rfl, rfl, rfl, fun w' h => zZ h rfl rfl rfl⟩) (ak (fun γ => ⟨rfl, rfl, rfl, fun w' h => zZ h rfl rfl rfl⟩) trivial))))))))))))))))))))))))))
 intro γ w6 l hM hl
 have H6 : Hid (Mm w6 [(γ 21, zB (en v19)), (γ 22, zB (en v21)), (γ 23, zB (en v23)), (γ5_30, zB (en v18)), (γ4_30, zB (en v13)), (γ3_30, zB (en v8)), (γ2_24, zB (en v1)), (γ2_25, zB (en v2)), (γ2_26, zB (en v3)), (γ1_0, G1 g tn (en u) (en b)), (γ1_1, cel [en x1, en y1, en z1]), (γ1_2, cel [en x2, en y2, en z2]), (γ1_3, cel [0, 0, 0]), (g, zR pB), (0, dtab)] ∧ _) := zS H5 hM (Nat.le_refl _) hl [21, 22, 23] rfl (by decide)
 have o6_21 := zP H5 hM (Nat.le_refl _) hl (i := 21) rfl
 have o6_22 := zP H5 hM (Nat.le_refl _) hl (i := 22) rfl
 have o6_23 := zP H5 hM (Nat.le_refl _) hl (i := 23) rfl
 clear hM hl l H5
 generalize γ 21 = γ6_21 at H6 o6_21 ⊢
 generalize γ 22 = γ6_22 at H6 o6_22 ⊢
 generalize γ 23 = γ6_23 at H6 o6_23 ⊢
 clear γ
 refine zG rfl (zA (wp_seq ?_))
 refine zY 16 [.quiet (PT γ1_0 0), .quiet (PT γ1_0 1), .quiet (.func (.func 84) #[PT g 0] #[]), .quiet (N (en v2)), .quiet (N (en v23)), .call (N (en v24)), .quiet (PT γ1_0 0), .quiet (PT γ1_0 0), .quiet (.func (.func 83) #[PT g 0] #[]), .quiet (N (en v2)), .quiet (N (en v23)), .call (N (en v25)), .made zero6 24, .made zero6 24, .laid 12 zero6 (zB (en v24)), .laid 13 zero6 (zB (en v25))] (sB H6) ?ho7 ?he7 (hL := ?hL7)
 case hL7 => exact ⟨⟨_, rfl⟩, ⟨_, rfl⟩, trivial⟩
 case ho7 => exact ag (ag (aq (fun w' h => lC h 9 Tryz.isAgg75) (aq (fun w' h => l6 h 7) (aq (fun w' h => l6 h 2) (ac (fun w' h => ⟨84, #[PT g 0, N (en v2), N (en v23)], zO rfl call84 rfl (zX rfl) rfl, C.ks HV24.out w' (h.two 13 14 rfl rfl (by decide))⟩) (ag (ag (aq (fun w' h => lC h 9 Tryz.isAgg75) (aq (fun w' h => l6 h 7) (aq (fun w' h => l6 h 2) (ac (fun w' h => ⟨83, #[PT g 0, N (en v2), N (en v23)], zO rfl call83 rfl (zX rfl) rfl, C.ka HV25.out w' (h.two 13 14 rfl rfl (by decide))⟩) (ak (fun γ => ⟨rfl, fun w' => zL rfl⟩) (ak (fun γ => ⟨rfl, fun w' => zL rfl⟩) (ak (fun γ => ⟨rfl, rfl, rfl, fun w' h => zZ h rfl rfl rfl⟩) (ak (fun γ => ⟨rfl, rfl, rfl, fun w' h => zZ h rfl rfl rfl⟩) trivial)))))))))))))))
 intro γ w7 l hM hl
 have H7 : Hid (Mm w7 [(γ 12, zB (en v24)), (γ 13, zB (en v25)), (γ6_21, zB (en v19)), (γ6_22, zB (en v21)), (γ6_23, zB (en v23)), (γ5_30, zB (en v18)), (γ4_30, zB (en v13)), (γ3_30, zB (en v8)), (γ2_24, zB (en v1)), (γ2_25, zB (en v2)), (γ2_26, zB (en v3)), (γ1_0, G1 g tn (en u) (en b)), (γ1_1, cel [en x1, en y1, en z1]), (γ1_2, cel [en x2, en y2, en z2]), (γ1_3, cel [0, 0, 0]), (g, zR pB), (0, dtab)] ∧ _) := zS H6 hM (Nat.le_refl _) hl [12, 13] rfl (by decide)
 have o7_12 := zP H6 hM (Nat.le_refl _) hl (i := 12) rfl
 have o7_13 := zP H6 hM (Nat.le_refl _) hl (i := 13) rfl
 clear hM hl l H6
 generalize γ 12 = γ7_12 at H7 o7_12 ⊢
 generalize γ 13 = γ7_13 at H7 o7_13 ⊢
 clear γ
 refine zG rfl (zA (wp_seq ?_))
 refine yC 49 [.quiet (PT γ1_0 0), .quiet (PT γ1_0 1), .quiet (.func (.func 84) #[PT g 0] #[]), .quiet (PT γ1_0 0), .quiet (PT γ1_0 2), .quiet (.func (.func 85) #[PT g 0] #[]), .quiet (N (en v24)), .quiet (N (en v8)), .call (N (en v26)), .quiet (PT γ1_0 0), .quiet (PT γ1_0 2), .quiet (.func (.func 85) #[PT g 0] #[]), .quiet (N (en v13)), .quiet (N (en v21)), .call (N (en v27)), .call (N (en v28)), .quiet (PT γ1_0 0), .quiet (PT γ1_0 0), .quiet (.func (.func 83) #[PT g 0] #[]), .quiet (PT γ1_0 0), .quiet (PT γ1_0 2), .quiet (.func (.func 85) #[PT g 0] #[]), .quiet (N (en v24)), .quiet (N (en v25)), .call (N (en v29)), .quiet (PT γ1_0 0), .quiet (PT γ1_0 2), .quiet (.func (.func 85) #[PT g 0] #[]), .quiet (N (en v19)), .quiet (N (en v21)), .call (N (en v30)), .call (N (en v31)), .quiet (PT γ1_0 0), .quiet (PT γ1_0 0), .quiet (.func (.func 83) #[PT g 0] #[]), .quiet (PT γ1_0 0), .quiet (PT γ1_0 2), .quiet (.func (.func 85) #[PT g 0] #[]), .quiet (N (en v25)), .quiet (N (en v13)), .call (N (en v32)), .quiet (PT γ1_0 0), .quiet (PT γ1_0 2), .quiet (.func (.func 85) #[PT g 0] #[]), .quiet (N (en v19)), .quiet (N (en v8)), .call (N (en v33)), .call (N (en v34)), .quiet (V [en v28, en v31, en v34])] H7 ?ho8 ?he8 (hL := ?hL8)
 case hL8 => exact trivial
 case ho8 => exact ag (ag (aq (fun w' h => lC h 11 Tryz.isAgg75) (ag (ag (aq (fun w' h => lC h 11 Tryz.isAgg75) (aq (fun w' h => l6 h 0) (aq (fun w' h => l6 h 7) (ac (fun w' h => ⟨85, #[PT g 0, N (en v24), N (en v8)], zO rfl call85 rfl (zX rfl) rfl, C.km HV26.out w' (h.two 15 16 rfl rfl (by decide))⟩) (ag (ag (aq (fun w' h => lC h 11 Tryz.isAgg75) (aq (fun w' h => l6 h 6) (aq (fun w' h => l6 h 3) (ac (fun w' h => ⟨85, #[PT g 0, N (en v13), N (en v21)], zO rfl call85 rfl (zX rfl) rfl, C.km HV27.out w' (h.two 15 16 rfl rfl (by decide))⟩) (ac (fun w' h => ⟨84, #[PT g 0, N (en v26), N (en v27)], zO rfl call84 rfl (zX rfl) rfl, C.ks HV28.out w' (h.two 15 16 rfl rfl (by decide))⟩) (ag (ag (aq (fun w' h => lC h 11 Tryz.isAgg75) (ag (ag (aq (fun w' h => lC h 11 Tryz.isAgg75) (aq (fun w' h => l6 h 0) (aq (fun w' h => l6 h 1) (ac (fun w' h => ⟨85, #[PT g 0, N (en v24), N (en v25)], zO rfl call85 rfl (zX rfl) rfl, C.km HV29.out w' (h.two 15 16 rfl rfl (by decide))⟩) (ag (ag (aq (fun w' h => lC h 11 Tryz.isAgg75) (aq (fun w' h => l6 h 2) (aq (fun w' h => l6 h 3) (ac (fun w' h => ⟨85, #[PT g 0, N (en v19), N (en v21)], zO rfl call85 rfl (zX rfl) rfl, C.km HV30.out w' (h.two 15 16 rfl rfl (by decide))⟩) (ac (fun w' h => ⟨83, #[PT g 0, N (en v29), N (en v30)], zO rfl call83 rfl (zX rfl) rfl, C.ka HV31.out w' (h.two 15 16 rfl rfl (by decide))⟩) (ag (ag (aq (fun w' h => lC h 11 Tryz.isAgg75) (ag (ag (aq (fun w' h => lC h 11 Tryz.isAgg75) (aq (fun w' h => l6 h 1) (aq (fun w' h => l6 h 6) (ac (fun w' h => ⟨85, #[PT g 0, N (en v25), N (en v13)], zO rfl call85 rfl (zX rfl) rfl, C.km HV32.out w' (h.two 15 16 rfl rfl (by decide))⟩) (ag (ag (aq (fun w' h => lC h 11 Tryz.isAgg75) (aq (fun w' h => l6 h 2) (aq (fun w' h => l6 h 7) (ac (fun w' h => ⟨85, #[PT g 0, N (en v19), N (en v8)], zO rfl call85 rfl (zX rfl) rfl, C.km HV33.out w' (h.two 15 16 rfl rfl (by decide))⟩) (ac (fun w' h => ⟨83, #[PT g 0, N (en v32), N (en v33)], zO rfl call83 rfl (zX rfl) rfl, C.ka HV34.out w' (h.two 15 16 rfl rfl (by decide))⟩) (ak (fun γ => ⟨rfl, fun w' _ => ex_buildTN rfl rfl rfl rfl⟩) trivial))))))))))))))))))))))))))))))))))))))))))))))))
 intro _ w8 H8
 clear H7
 refine zJ (l := [49]) rfl ?_
 refine zI rfl rfl rfl (zT (i := 0) (ms := [en v28, en v31, en v34]) H8.out.1 14 rfl rfl rfl rfl Tryz.sizeOf124 (Nat.le_of_ble_eq_true rfl)) ?_
 have H9 : Hid (Mm (w8.setCells γ1_3 (6 * 0) (cel [en v28, en v31, en v34])) [(γ7_12, zB (en v24)), (γ7_13, zB (en v25)), (γ6_21, zB (en v19)), (γ6_22, zB (en v21)), (γ6_23, zB (en v23)), (γ5_30, zB (en v18)), (γ4_30, zB (en v13)), (γ3_30, zB (en v8)), (γ2_24, zB (en v1)), (γ2_25, zB (en v2)), (γ2_26, zB (en v3)), (γ1_0, G1 g tn (en u) (en b)), (γ1_1, cel [en x1, en y1, en z1]), (γ1_2, cel [en x2, en y2, en z2]), (γ1_3, cel [en v28, en v31, en v34]), (g, zR pB), (0, dtab)] ∧ Below w.heap.size w (w8.setCells γ1_3 (6 * 0) (cel [en v28, en v31, en v34]))) := ⟨by
  have h := H8.out.1.put 14 (off := 6 * 0) (vs := cel [en v28, en v31, en v34]) rfl (by simp only [cel_len]; exact Nat.le_of_ble_eq_true rfl)
  rw [zU] at h
  exact h, zF _ o1_3.out _ _ _ H8.out.2⟩
 clear H8
 generalize hgw : World.setCells _ _ _ _ = w9 at H9 ⊢
 clear hgw
 refine zH (zA (wp_ret ?_))
 repeat (first | refine zM ?_ | refine zK ?_)
 have hf0 := cel_var (k := 3) H9.out.1 14 rfl Tryz.isAgg124 Tryz.sizeOf124 rfl
 refine bodyPost_ret (v := V [en v28, en v31, en v34]) (by simp [results, Tryz.results94, asAddr, hf0]) rfl ?_
 exact ⟨rfl, H9.out.2⟩
theorem twiceT_1 {α : Type} {en : α → Nat} {fa fs fm : α → α → α} {fi : α → α} {z u b : α} {g : Nat} {tn : Value} (_C : Fd1 g en fa fs fm fi z) (x y t : Nat) (hz : ∀ w, (Op.equalIn 10000 24 (N t) (N 0)).run Tryz.prog w = .ok true w) (w : World) (hm : Mm w [(g, zR pB), (0, dtab)]) :
  Calls Tryz.prog 134 #[.agg (G1 g tn (en u) (en b)).toArray, V [x, y, t]] w (Rt w (V [x, y, t])) := by
 have H0 : Hid (_ ∧ _) := ⟨hm, Below.refl w.heap.size w⟩
 clear hm
 have HZ : Hid _ := hz
 clear hz
 go_enter Tryz.func134, Tryz.ntmps134
 refine wp_seq ?_
 refine zD 3 [.made (G1 g tn (en u) (en b)) 81, .made (cel [x, y, t]) 124, .made (cel [0, 0, 0]) 124] (sB H0) ?ho1 ?he1
 case ho1 => exact ak (fun γ => ⟨rfl, fun w' => yA rfl rfl⟩) (ak (fun γ => ⟨rfl, fun w' => ex_boxA rfl rfl⟩) (ak (fun γ => ⟨rfl, fun w' => ex_madeTN rfl⟩) trivial))
 intro γ w1 l hM hl
 have H1 : Hid (Mm w1 [(γ 0, G1 g tn (en u) (en b)), (γ 1, cel [x, y, t]), (γ 2, cel [0, 0, 0]), (g, zR pB), (0, dtab)] ∧ _) := zS H0 hM (Nat.le_refl _) hl [0, 1, 2] rfl (by decide)
 have o1_0 := zP H0 hM (Nat.le_refl _) hl (i := 0) rfl
 have o1_1 := zP H0 hM (Nat.le_refl _) hl (i := 1) rfl
 have o1_2 := zP H0 hM (Nat.le_refl _) hl (i := 2) rfl
 clear hM hl l
 generalize γ 0 = γ1_0 at H1 o1_0 ⊢
 generalize γ 1 = γ1_1 at H1 o1_1 ⊢
 generalize γ 2 = γ1_2 at H1 o1_2 ⊢
 clear γ
 refine zG rfl (zA (wp_seq (wp_seq ?_)))
 refine zE 2 [.quiet (V [x, y, t]), .call (.bool true)] H1 ?ho2 ?he2
 case ho2 => exact aq (fun w' h => lA 0 3 h 1 Tryz.isAgg124 Tryz.sizeOf124) (ac (fun w' h => ⟨136, #[V [x, y, t]], zC rfl call136 rfl (zX rfl), isZero_1 _ _ _ true HZ.out w'⟩) trivial)
 intro _ w2 H2
 clear H1
 refine zG rfl (zA (wp_cond_true rfl (wp_seq ?_)))
 refine zE 1 [.quiet (V [x, y, t])] H2 ?ho3 ?he3
 case ho3 => exact aq (fun w' h => lA 0 3 h 1 Tryz.isAgg124 Tryz.sizeOf124) trivial
 intro _ w3 H3
 clear H2
 refine zJ (l := [1]) rfl ?_
 refine zI rfl rfl rfl (zT (i := 0) (ms := [x, y, t]) H3.out.1 2 rfl rfl rfl rfl Tryz.sizeOf124 (Nat.le_of_ble_eq_true rfl)) ?_
 have H4 : Hid (Mm (w3.setCells γ1_2 (6 * 0) (cel [x, y, t])) [(γ1_0, G1 g tn (en u) (en b)), (γ1_1, cel [x, y, t]), (γ1_2, cel [x, y, t]), (g, zR pB), (0, dtab)] ∧ Below w.heap.size w (w3.setCells γ1_2 (6 * 0) (cel [x, y, t]))) := ⟨by
  have h := H3.out.1.put 2 (off := 6 * 0) (vs := cel [x, y, t]) rfl (by simp only [cel_len]; exact Nat.le_of_ble_eq_true rfl)
  rw [zU] at h
  exact h, zF _ o1_2.out _ _ _ H3.out.2⟩
 clear H3
 generalize hgw : World.setCells _ _ _ _ = w4 at H4 ⊢
 clear hgw
 refine zH (zA (wp_ret ?_))
 repeat (first | refine zM ?_ | refine zK ?_)
 have hf0 := cel_var (k := 3) H4.out.1 2 rfl Tryz.isAgg124 Tryz.sizeOf124 rfl
 refine bodyPost_ret (v := V [x, y, t]) (by simp [results, Tryz.results134, asAddr, hf0]) rfl ?_
 exact ⟨rfl, H4.out.2⟩
set_option maxHeartbeats 4000000 in
theorem twiceV_1 {α : Type} {en : α → Nat} {fa fs fm : α → α → α} {fi : α → α} {z u b : α} {g : Nat} {tn : Value} (C : Fd1 g en fa fs fm fi z) (x y t : α) (hz : ∀ w, (Op.equalIn 10000 24 (N (en t)) (N 0)).run Tryz.prog w = .ok false w) (v1 v2 v3 v4 v5 v6 v7 v8 v9 v10 v11 v12 v13 v14 v15 v16 v17 v18 : α) (hv1 : fm y y = v1) (hv2 : fm y t = v2) (hv3 : fm t t = v3) (hv4 : fm b v3 = v4) (hv5 : fa (fa v4 v4) v4 = v5) (hv6 : fa v1 v1 = v6) (hv7 : fa v6 v6 = v7) (hv8 : fa v7 v7 = v8) (hv9 : fa (fa v5 v5) v5 = v9) (hv10 : fs v1 v9 = v10) (hv11 : fa v1 v5 = v11) (hv12 : fm x y = v12) (hv13 : fm v10 v12 = v13) (hv14 : fa v13 v13 = v14) (hv15 : fm v10 v11 = v15) (hv16 : fm v8 v5 = v16) (hv17 : fa v15 v16 = v17) (hv18 : fm v8 v2 = v18) (w : World) (hm : Mm w [(g, zR pB), (0, dtab)]) :
  Calls Tryz.prog 134 #[.agg (G1 g tn (en u) (en b)).toArray, V [en x, en y, en t]] w (Rt w (V [en v14, en v17, en v18])) := by
 have H0 : Hid (_ ∧ _) := ⟨hm, Below.refl w.heap.size w⟩
 clear hm
 have HZ : Hid _ := hz
 clear hz
 have HV1 : Hid _ := hv1
 clear hv1
 have HV2 : Hid _ := hv2
 clear hv2
 have HV3 : Hid _ := hv3
 clear hv3
 have HV4 : Hid _ := hv4
 clear hv4
 have HV5 : Hid _ := hv5
 clear hv5
 have HV6 : Hid _ := hv6
 clear hv6
 have HV7 : Hid _ := hv7
 clear hv7
 have HV8 : Hid _ := hv8
 clear hv8
 have HV9 : Hid _ := hv9
 clear hv9
 have HV10 : Hid _ := hv10
 clear hv10
 have HV11 : Hid _ := hv11
 clear hv11
 have HV12 : Hid _ := hv12
 clear hv12
 have HV13 : Hid _ := hv13
 clear hv13
 have HV14 : Hid _ := hv14
 clear hv14
 have HV15 : Hid _ := hv15
 clear hv15
 have HV16 : Hid _ := hv16
 clear hv16
 have HV17 : Hid _ := hv17
 clear hv17
 have HV18 : Hid _ := hv18
 clear hv18
 go_enter Tryz.func134, Tryz.ntmps134
 refine wp_seq ?_
 refine zD 3 [.made (G1 g tn (en u) (en b)) 81, .made (cel [en x, en y, en t]) 124, .made (cel [0, 0, 0]) 124] (sB H0) ?ho1 ?he1
 case ho1 => exact ak (fun γ => ⟨rfl, fun w' => yA rfl rfl⟩) (ak (fun γ => ⟨rfl, fun w' => ex_boxA rfl rfl⟩) (ak (fun γ => ⟨rfl, fun w' => ex_madeTN rfl⟩) trivial))
 intro γ w1 l hM hl
 have H1 : Hid (Mm w1 [(γ 0, G1 g tn (en u) (en b)), (γ 1, cel [en x, en y, en t]), (γ 2, cel [0, 0, 0]), (g, zR pB), (0, dtab)] ∧ _) := zS H0 hM (Nat.le_refl _) hl [0, 1, 2] rfl (by decide)
 have o1_0 := zP H0 hM (Nat.le_refl _) hl (i := 0) rfl
 have o1_1 := zP H0 hM (Nat.le_refl _) hl (i := 1) rfl
 have o1_2 := zP H0 hM (Nat.le_refl _) hl (i := 2) rfl
 clear hM hl l
 generalize γ 0 = γ1_0 at H1 o1_0 ⊢
 generalize γ 1 = γ1_1 at H1 o1_1 ⊢
 generalize γ 2 = γ1_2 at H1 o1_2 ⊢
 clear γ
 refine zG rfl (zA (wp_seq (wp_seq ?_)))
 refine zE 2 [.quiet (V [en x, en y, en t]), .call (.bool false)] H1 ?ho2 ?he2
 case ho2 => exact aq (fun w' h => lA 0 3 h 1 Tryz.isAgg124 Tryz.sizeOf124) (ac (fun w' h => ⟨136, #[V [en x, en y, en t]], zC rfl call136 rfl (zX rfl), isZero_1 _ _ _ false HZ.out w'⟩) trivial)
 intro _ w2 H2
 clear H1
 refine zG rfl (zA (wp_cond_false rfl ?_))
 refine wp_skip (zA (wp_seq ?_))
 refine zY 20 [.quiet (PT γ1_0 0), .quiet (PT γ1_0 2), .quiet (.func (.func 85) #[PT g 0] #[]), .quiet (PT γ1_1 6), .quiet (N (en y)), .quiet (PT γ1_1 6), .quiet (N (en y)), .call (N (en v1)), .quiet (PT γ1_0 0), .quiet (PT γ1_0 2), .quiet (.func (.func 85) #[PT g 0] #[]), .quiet (PT γ1_1 6), .quiet (N (en y)), .quiet (PT γ1_1 12), .quiet (N (en t)), .call (N (en v2)), .made zero6 24, .made zero6 24, .laid 16 zero6 (zB (en v1)), .laid 17 zero6 (zB (en v2))] (sB H2) ?ho3 ?he3 (hL := ?hL3)
 case hL3 => exact ⟨⟨_, rfl⟩, ⟨_, rfl⟩, trivial⟩
 case ho3 => exact ag (ag (aq (fun w' h => lC h 0 Tryz.isAgg75) (ag (aq (fun w' h => yB (i := 1) h 1 rfl rfl rfl rfl) (ag (aq (fun w' h => yB (i := 1) h 1 rfl rfl rfl rfl) (ac (fun w' h => ⟨85, #[PT g 0, N (en y), N (en y)], zO rfl call85 rfl (zX rfl) rfl, C.km HV1.out w' (h.two 3 4 rfl rfl (by decide))⟩) (ag (ag (aq (fun w' h => lC h 0 Tryz.isAgg75) (ag (aq (fun w' h => yB (i := 1) h 1 rfl rfl rfl rfl) (ag (aq (fun w' h => yB (i := 2) h 1 rfl rfl rfl rfl) (ac (fun w' h => ⟨85, #[PT g 0, N (en y), N (en t)], zO rfl call85 rfl (zX rfl) rfl, C.km HV2.out w' (h.two 3 4 rfl rfl (by decide))⟩) (ak (fun γ => ⟨rfl, fun w' => zL rfl⟩) (ak (fun γ => ⟨rfl, fun w' => zL rfl⟩) (ak (fun γ => ⟨rfl, rfl, rfl, fun w' h => zZ h rfl rfl rfl⟩) (ak (fun γ => ⟨rfl, rfl, rfl, fun w' h => zZ h rfl rfl rfl⟩) trivial)))))))))))))))))))
 intro γ w3 l hM hl
 have H3 : Hid (Mm w3 [(γ 16, zB (en v1)), (γ 17, zB (en v2)), (γ1_0, G1 g tn (en u) (en b)), (γ1_1, cel [en x, en y, en t]), (γ1_2, cel [0, 0, 0]), (g, zR pB), (0, dtab)] ∧ _) := zS H2 hM (Nat.le_refl _) hl [16, 17] rfl (by decide)
 have o3_16 := zP H2 hM (Nat.le_refl _) hl (i := 16) rfl
 have o3_17 := zP H2 hM (Nat.le_refl _) hl (i := 17) rfl
 clear hM hl l H2
 generalize γ 16 = γ3_16 at H3 o3_16 ⊢
 generalize γ 17 = γ3_17 at H3 o3_17 ⊢
 clear γ
 refine zG rfl (zA (wp_seq ?_))
 refine zY 18 [.quiet (.agg (G1 g tn (en u) (en b)).toArray), .quiet (PT γ1_0 0), .quiet (PT γ1_0 2), .quiet (.func (.func 85) #[PT g 0] #[]), .quiet (PT γ1_0 11), .quiet (N (en b)), .quiet (PT γ1_0 0), .quiet (PT γ1_0 2), .quiet (.func (.func 85) #[PT g 0] #[]), .quiet (PT γ1_1 12), .quiet (N (en t)), .quiet (PT γ1_1 12), .quiet (N (en t)), .call (N (en v3)), .call (N (en v4)), .call (N (en v5)), .made zero6 24, .laid 16 zero6 (zB (en v5))] (sB H3) ?ho4 ?he4 (hL := ?hL4)
 case hL4 => exact ⟨⟨_, rfl⟩, trivial⟩
 case ho4 => exact aq (fun w' h => lT h 2 Tryz.isAgg81 Tryz.sizeOf81) (ag (ag (aq (fun w' h => lC h 2 Tryz.isAgg75) (ag (aq (fun w' h => l6 h 2) (ag (ag (aq (fun w' h => lC h 2 Tryz.isAgg75) (ag (aq (fun w' h => yB (i := 2) h 3 rfl rfl rfl rfl) (ag (aq (fun w' h => yB (i := 2) h 3 rfl rfl rfl rfl) (ac (fun w' h => ⟨85, #[PT g 0, N (en t), N (en t)], zO rfl call85 rfl (zX rfl) rfl, C.km HV3.out w' (h.two 5 6 rfl rfl (by decide))⟩) (ac (fun w' h => ⟨85, #[PT g 0, N (en b), N (en v3)], zO rfl call85 rfl (zX rfl) rfl, C.km HV4.out w' (h.two 5 6 rfl rfl (by decide))⟩) (ac (fun w' h => ⟨137, #[.agg (G1 g tn (en u) (en b)).toArray, N (en v4)], zC rfl call137 rfl (zX rfl), thriceN_1 C HV5.out w' (h.two 5 6 rfl rfl (by decide))⟩) (ak (fun γ => ⟨rfl, fun w' => zL rfl⟩) (ak (fun γ => ⟨rfl, rfl, rfl, fun w' h => zZ h rfl rfl rfl⟩) trivial)))))))))))))))))
 intro γ w4 l hM hl
 have H4 : Hid (Mm w4 [(γ 16, zB (en v5)), (γ3_16, zB (en v1)), (γ3_17, zB (en v2)), (γ1_0, G1 g tn (en u) (en b)), (γ1_1, cel [en x, en y, en t]), (γ1_2, cel [0, 0, 0]), (g, zR pB), (0, dtab)] ∧ _) := zS H3 hM (Nat.le_refl _) hl [16] rfl (by decide)
 have o4_16 := zP H3 hM (Nat.le_refl _) hl (i := 16) rfl
 clear hM hl l H3
 generalize γ 16 = γ4_16 at H4 o4_16 ⊢
 clear γ
 refine zG rfl (zA (wp_seq ?_))
 refine zY 9 [.quiet (.agg (G1 g tn (en u) (en b)).toArray), .quiet (.agg (G1 g tn (en u) (en b)).toArray), .quiet (.agg (G1 g tn (en u) (en b)).toArray), .quiet (N (en v1)), .call (N (en v6)), .call (N (en v7)), .call (N (en v8)), .made zero6 24, .laid 7 zero6 (zB (en v8))] (sB H4) ?ho5 ?he5 (hL := ?hL5)
 case hL5 => exact ⟨⟨_, rfl⟩, trivial⟩
 case ho5 => exact aq (fun w' h => lT h 3 Tryz.isAgg81 Tryz.sizeOf81) (aq (fun w' h => lT h 3 Tryz.isAgg81 Tryz.sizeOf81) (aq (fun w' h => lT h 3 Tryz.isAgg81 Tryz.sizeOf81) (aq (fun w' h => l6 h 1) (ac (fun w' h => ⟨162, #[.agg (G1 g tn (en u) (en b)).toArray, N (en v1)], zC rfl call162 rfl (zX rfl), doubleN_1 C HV6.out w' (h.two 6 7 rfl rfl (by decide))⟩) (ac (fun w' h => ⟨162, #[.agg (G1 g tn (en u) (en b)).toArray, N (en v6)], zC rfl call162 rfl (zX rfl), doubleN_1 C HV7.out w' (h.two 6 7 rfl rfl (by decide))⟩) (ac (fun w' h => ⟨162, #[.agg (G1 g tn (en u) (en b)).toArray, N (en v7)], zC rfl call162 rfl (zX rfl), doubleN_1 C HV8.out w' (h.two 6 7 rfl rfl (by decide))⟩) (ak (fun γ => ⟨rfl, fun w' => zL rfl⟩) (ak (fun γ => ⟨rfl, rfl, rfl, fun w' h => zZ h rfl rfl rfl⟩) trivial))))))))
 intro γ w5 l hM hl
 have H5 : Hid (Mm w5 [(γ 7, zB (en v8)), (γ4_16, zB (en v5)), (γ3_16, zB (en v1)), (γ3_17, zB (en v2)), (γ1_0, G1 g tn (en u) (en b)), (γ1_1, cel [en x, en y, en t]), (γ1_2, cel [0, 0, 0]), (g, zR pB), (0, dtab)] ∧ _) := zS H4 hM (Nat.le_refl _) hl [7] rfl (by decide)
 have o5_7 := zP H4 hM (Nat.le_refl _) hl (i := 7) rfl
 clear hM hl l H4
 generalize γ 7 = γ5_7 at H5 o5_7 ⊢
 clear γ
 refine zG rfl (zA (wp_seq ?_))
 refine zY 18 [.quiet (PT γ1_0 0), .quiet (PT γ1_0 1), .quiet (.func (.func 84) #[PT g 0] #[]), .quiet (N (en v1)), .quiet (.agg (G1 g tn (en u) (en b)).toArray), .quiet (N (en v5)), .call (N (en v9)), .call (N (en v10)), .quiet (PT γ1_0 0), .quiet (PT γ1_0 0), .quiet (.func (.func 83) #[PT g 0] #[]), .quiet (N (en v1)), .quiet (N (en v5)), .call (N (en v11)), .made zero6 24, .made zero6 24, .laid 14 zero6 (zB (en v10)), .laid 15 zero6 (zB (en v11))] (sB H5) ?ho6 ?he6 (hL := ?hL6)
 case hL6 => exact ⟨⟨_, rfl⟩, ⟨_, rfl⟩, trivial⟩
 case ho6 => exact ag (ag (aq (fun w' h => lC h 4 Tryz.isAgg75) (aq (fun w' h => l6 h 2) (aq (fun w' h => lT h 4 Tryz.isAgg81 Tryz.sizeOf81) (aq (fun w' h => l6 h 1) (ac (fun w' h => ⟨137, #[.agg (G1 g tn (en u) (en b)).toArray, N (en v5)], zC rfl call137 rfl (zX rfl), thriceN_1 C HV9.out w' (h.two 7 8 rfl rfl (by decide))⟩) (ac (fun w' h => ⟨84, #[PT g 0, N (en v1), N (en v9)], zO rfl call84 rfl (zX rfl) rfl, C.ks HV10.out w' (h.two 7 8 rfl rfl (by decide))⟩) (ag (ag (aq (fun w' h => lC h 4 Tryz.isAgg75) (aq (fun w' h => l6 h 2) (aq (fun w' h => l6 h 1) (ac (fun w' h => ⟨83, #[PT g 0, N (en v1), N (en v5)], zO rfl call83 rfl (zX rfl) rfl, C.ka HV11.out w' (h.two 7 8 rfl rfl (by decide))⟩) (ak (fun γ => ⟨rfl, fun w' => zL rfl⟩) (ak (fun γ => ⟨rfl, fun w' => zL rfl⟩) (ak (fun γ => ⟨rfl, rfl, rfl, fun w' h => zZ h rfl rfl rfl⟩) (ak (fun γ => ⟨rfl, rfl, rfl, fun w' h => zZ h rfl rfl rfl⟩) trivial)))))))))))))))))
 intro γ w6 l hM hl
 have H6 : Hid (Mm w6 [(γ 14, zB (en v10)), (γ 15, zB (en v11)), (γ5_7, zB (en v8)), (γ4_16, zB (en v5)), (γ3_16, zB (en v1)), (γ3_17, zB (en v2)), (γ1_0, G1 g tn (en u) (en b)), (γ1_1, cel [en x, en y, en t]), (γ1_2, cel [0, 0, 0]), (g, zR pB), (0, dtab)] ∧ _) := zS H5 hM (Nat.le_refl _) hl [14, 15] rfl (by decide)
 have o6_14 := zP H5 hM (Nat.le_refl _) hl (i := 14) rfl
 have o6_15 := zP H5 hM (Nat.le_refl _) hl (i := 15) rfl
 clear hM hl l H5
 generalize γ 14 = γ6_14 at H6 o6_14 ⊢
 generalize γ 15 = γ6_15 at H6 o6_15 ⊢
 clear γ
 refine zG rfl (zA (wp_seq ?_))
 refine yC 38 [.quiet (.agg (G1 g tn (en u) (en b)).toArray), .quiet (PT γ1_0 0), .quiet (PT γ1_0 2), .quiet (.func (.func 85) #[PT g 0] #[]), .quiet (N (en v10)), .quiet (PT γ1_0 0), .quiet (PT γ1_0 2), .quiet (.func (.func 85) #[PT g 0] #[]), .quiet (PT γ1_1 0), .quiet (N (en x)), .quiet (PT γ1_1 6), .quiet (N (en y)), .call (N (en v12)), .call (N (en v13)), .call (N (en v14)), .quiet (PT γ1_0 0), .quiet (PT γ1_0 0), .quiet (.func (.func 83) #[PT g 0] #[]), .quiet (PT γ1_0 0), .quiet (PT γ1_0 2), .quiet (.func (.func 85) #[PT g 0] #[]), .quiet (N (en v10)), .quiet (N (en v11)), .call (N (en v15)), .quiet (PT γ1_0 0), .quiet (PT γ1_0 2), .quiet (.func (.func 85) #[PT g 0] #[]), .quiet (N (en v8)), .quiet (N (en v5)), .call (N (en v16)), .call (N (en v17)), .quiet (PT γ1_0 0), .quiet (PT γ1_0 2), .quiet (.func (.func 85) #[PT g 0] #[]), .quiet (N (en v8)), .quiet (N (en v2)), .call (N (en v18)), .quiet (V [en v14, en v17, en v18])] H6 ?ho7 ?he7 (hL := ?hL7)
 case hL7 => exact trivial
 case ho7 => exact aq (fun w' h => lT h 6 Tryz.isAgg81 Tryz.sizeOf81) (ag (ag (aq (fun w' h => lC h 6 Tryz.isAgg75) (aq (fun w' h => l6 h 0) (ag (ag (aq (fun w' h => lC h 6 Tryz.isAgg75) (ag (aq (fun w' h => yB (i := 0) h 7 rfl rfl rfl rfl) (ag (aq (fun w' h => yB (i := 1) h 7 rfl rfl rfl rfl) (ac (fun w' h => ⟨85, #[PT g 0, N (en x), N (en y)], zO rfl call85 rfl (zX rfl) rfl, C.km HV12.out w' (h.two 9 10 rfl rfl (by decide))⟩) (ac (fun w' h => ⟨85, #[PT g 0, N (en v10), N (en v12)], zO rfl call85 rfl (zX rfl) rfl, C.km HV13.out w' (h.two 9 10 rfl rfl (by decide))⟩) (ac (fun w' h => ⟨162, #[.agg (G1 g tn (en u) (en b)).toArray, N (en v13)], zC rfl call162 rfl (zX rfl), doubleN_1 C HV14.out w' (h.two 9 10 rfl rfl (by decide))⟩) (ag (ag (aq (fun w' h => lC h 6 Tryz.isAgg75) (ag (ag (aq (fun w' h => lC h 6 Tryz.isAgg75) (aq (fun w' h => l6 h 0) (aq (fun w' h => l6 h 1) (ac (fun w' h => ⟨85, #[PT g 0, N (en v10), N (en v11)], zO rfl call85 rfl (zX rfl) rfl, C.km HV15.out w' (h.two 9 10 rfl rfl (by decide))⟩) (ag (ag (aq (fun w' h => lC h 6 Tryz.isAgg75) (aq (fun w' h => l6 h 2) (aq (fun w' h => l6 h 3) (ac (fun w' h => ⟨85, #[PT g 0, N (en v8), N (en v5)], zO rfl call85 rfl (zX rfl) rfl, C.km HV16.out w' (h.two 9 10 rfl rfl (by decide))⟩) (ac (fun w' h => ⟨83, #[PT g 0, N (en v15), N (en v16)], zO rfl call83 rfl (zX rfl) rfl, C.ka HV17.out w' (h.two 9 10 rfl rfl (by decide))⟩) (ag (ag (aq (fun w' h => lC h 6 Tryz.isAgg75) (aq (fun w' h => l6 h 2) (aq (fun w' h => l6 h 5) (ac (fun w' h => ⟨85, #[PT g 0, N (en v8), N (en v2)], zO rfl call85 rfl (zX rfl) rfl, C.km HV18.out w' (h.two 9 10 rfl rfl (by decide))⟩) (ak (fun γ => ⟨rfl, fun w' _ => ex_buildTN rfl rfl rfl rfl⟩) trivial)))))))))))))))))))))))))))))))))))))
 intro _ w7 H7
 clear H6
 refine zJ (l := [38]) rfl ?_
 refine zI rfl rfl rfl (zT (i := 0) (ms := [en v14, en v17, en v18]) H7.out.1 8 rfl rfl rfl rfl Tryz.sizeOf124 (Nat.le_of_ble_eq_true rfl)) ?_
 have H8 : Hid (Mm (w7.setCells γ1_2 (6 * 0) (cel [en v14, en v17, en v18])) [(γ6_14, zB (en v10)), (γ6_15, zB (en v11)), (γ5_7, zB (en v8)), (γ4_16, zB (en v5)), (γ3_16, zB (en v1)), (γ3_17, zB (en v2)), (γ1_0, G1 g tn (en u) (en b)), (γ1_1, cel [en x, en y, en t]), (γ1_2, cel [en v14, en v17, en v18]), (g, zR pB), (0, dtab)] ∧ Below w.heap.size w (w7.setCells γ1_2 (6 * 0) (cel [en v14, en v17, en v18]))) := ⟨by
  have h := H7.out.1.put 8 (off := 6 * 0) (vs := cel [en v14, en v17, en v18]) rfl (by simp only [cel_len]; exact Nat.le_of_ble_eq_true rfl)
  rw [zU] at h
  exact h, zF _ o1_2.out _ _ _ H7.out.2⟩
 clear H7
 generalize hgw : World.setCells _ _ _ _ = w8 at H8 ⊢
 clear hgw
 refine zH (zA (wp_ret ?_))
 repeat (first | refine zM ?_ | refine zK ?_)
 have hf0 := cel_var (k := 3) H8.out.1 8 rfl Tryz.isAgg124 Tryz.sizeOf124 rfl
 refine bodyPost_ret (v := V [en v14, en v17, en v18]) (by simp [results, Tryz.results134, asAddr, hf0]) rfl ?_
 exact ⟨rfl, H8.out.2⟩
end Rg
end Go.Proofs.YtaomlijondiaoaaGreatDoor
end
section
namespace Go.Proofs.YtaomlijondiaoaaGreatDoor
open Go.RowKit
namespace Rg
theorem checkZ_1 {α : Type} {en : α → Nat} {fa fs fm : α → α → α} {fi : α → α} {z u b : α} {g : Nat} {tn : Value} (_C : Fd1 g en fa fs fm fi z) (x y : Nat) (be : Bool) (he : ∀ w, (Op.equalIn 10000 84 (.agg (cel [x, y] ++ [Value.bool true]).toArray) (.agg (cel [0, 0] ++ [Value.bool true]).toArray)).run Tryz.prog w = .ok be w) (w : World) (hm : Mm w [(g, zR pB), (0, dtab)]) :
  Calls Tryz.prog 48 #[.agg (G1 g tn (en u) (en b)).toArray, .agg (cel [x, y] ++ [Value.bool true]).toArray] w (Rt w (.bool be)) := by
 have H0 : Hid (_ ∧ _) := ⟨hm, Below.refl w.heap.size w⟩
 clear hm
 have HE : Hid _ := he
 clear he
 go_enter Tryz.func48, Tryz.ntmps48
 refine wp_seq ?_
 refine zD 3 [.made (G1 g tn (en u) (en b)) 81, .made (cel [x, y] ++ [Value.bool true]) 84, .quiet (.bool false)] (sB H0) ?ho1 ?he1
 case ho1 => exact ak (fun γ => ⟨rfl, fun w' => yA rfl rfl⟩) (ak (fun γ => ⟨rfl, fun w' => yA rfl rfl⟩) (ar trivial))
 intro γ w1 l hM hl
 have H1 : Hid (Mm w1 [(γ 0, G1 g tn (en u) (en b)), (γ 1, cel [x, y] ++ [Value.bool true]), (g, zR pB), (0, dtab)] ∧ _) := zS H0 hM (Nat.le_refl _) hl [0, 1] rfl (by decide)
 have o1_0 := zP H0 hM (Nat.le_refl _) hl (i := 0) rfl
 have o1_1 := zP H0 hM (Nat.le_refl _) hl (i := 1) rfl
 clear hM hl l
 generalize γ 0 = γ1_0 at H1 o1_0 ⊢
 generalize γ 1 = γ1_1 at H1 o1_1 ⊢
 clear γ
 refine zG rfl (zA (wp_seq (wp_seq ?_)))
 refine zE 2 [.quiet (PT γ1_1 12), .quiet (.bool true)] H1 ?ho2 ?he2
 case ho2 => exact ag (aq (fun w' h => lC h 1 Tryz.isAgg4) trivial)
 intro _ w2 H2
 clear H1
 refine zG rfl (zA (wp_cond_true rfl (wp_seq ?_)))
 refine zE 4 [.quiet (.agg (cel [x, y] ++ [Value.bool true]).toArray), .quiet (.agg (cel [0, 0] ++ [Value.bool true]).toArray), .quiet (.bool be), .quiet (.bool be)] H2 ?ho3 ?he3
 case ho3 => exact aq (fun w' h => lT h 1 Tryz.isAgg84 Tryz.sizeOf84) (ak (fun γ => ⟨rfl, fun w' _ => ex_buildPNt rfl rfl⟩) (ak (fun γ => ⟨rfl, fun w' _ => exec_eqT84 HE.out rfl rfl rfl⟩) (ar trivial)))
 intro _ w3 H3
 clear H2
 refine zG rfl (zA (wp_ret ?_))
 repeat (first | refine zM ?_ | refine zK ?_)
 refine bodyPost_ret (v := .bool be) (by simp [results, Tryz.results48, go_sem, *]) rfl ?_
 exact ⟨rfl, H3.out.2⟩
theorem checkX_1 {α : Type} {en : α → Nat} {fa fs fm : α → α → α} {fi : α → α} {z u b : α} {g : Nat} {tn : Value} (_C : Fd1 g en fa fs fm fi z) (x y : Nat) (cx : ∀ w, Mm w [(g, zR pB), (0, dtab)] → Calls Tryz.prog 87 #[N x] w (Rt w (.bool false))) (w : World) (hm : Mm w [(g, zR pB), (0, dtab)]) :
  Calls Tryz.prog 48 #[.agg (G1 g tn (en u) (en b)).toArray, .agg (cel [x, y] ++ [Value.bool false]).toArray] w (Rt w (.bool false)) := by
 have H0 : Hid (_ ∧ _) := ⟨hm, Below.refl w.heap.size w⟩
 clear hm
 have CX : Hid _ := cx
 clear cx
 go_enter Tryz.func48, Tryz.ntmps48
 refine wp_seq ?_
 refine zD 3 [.made (G1 g tn (en u) (en b)) 81, .made (cel [x, y] ++ [Value.bool false]) 84, .quiet (.bool false)] (sB H0) ?ho1 ?he1
 case ho1 => exact ak (fun γ => ⟨rfl, fun w' => yA rfl rfl⟩) (ak (fun γ => ⟨rfl, fun w' => yA rfl rfl⟩) (ar trivial))
 intro γ w1 l hM hl
 have H1 : Hid (Mm w1 [(γ 0, G1 g tn (en u) (en b)), (γ 1, cel [x, y] ++ [Value.bool false]), (g, zR pB), (0, dtab)] ∧ _) := zS H0 hM (Nat.le_refl _) hl [0, 1] rfl (by decide)
 have o1_0 := zP H0 hM (Nat.le_refl _) hl (i := 0) rfl
 have o1_1 := zP H0 hM (Nat.le_refl _) hl (i := 1) rfl
 clear hM hl l
 generalize γ 0 = γ1_0 at H1 o1_0 ⊢
 generalize γ 1 = γ1_1 at H1 o1_1 ⊢
 clear γ
 refine zG rfl (zA (wp_seq (wp_seq ?_)))
 refine zE 2 [.quiet (PT γ1_1 12), .quiet (.bool false)] H1 ?ho2 ?he2
 case ho2 => exact ag (aq (fun w' h => lC h 1 Tryz.isAgg4) trivial)
 intro _ w2 H2
 clear H1
 refine zG rfl (zA (wp_cond_false rfl ?_))
 refine wp_skip (zA (wp_seq ?_))
 refine yC 46 [.quiet (PT γ1_0 0), .quiet (PT γ1_0 4), .quiet (.func (.func 87) #[] #[]), .quiet (PT γ1_1 0), .quiet (N x), .call (.bool false), .quiet (.bool false), .gone, .gone, .gone, .gone, .gone, .gone, .quiet (.bool false), .quiet (.bool false), .gone, .gone, .gone, .gone, .gone, .gone, .gone, .gone, .gone, .gone, .gone, .gone, .gone, .gone, .gone, .gone, .gone, .gone, .gone, .gone, .gone, .gone, .gone, .gone, .gone, .gone, .gone, .gone, .gone, .quiet (.bool false), .quiet (.bool false)] H2 ?ho3 ?he3 (hL := ?hL3)
 case hL3 => exact trivial
 case ho3 => exact ag (ag (aq (fun w' h => lC h 0 Tryz.isAgg71) (ag (aq (fun w' h => l6 h 1) (ac (fun w' h => ⟨87, #[N x], zO rfl call87 rfl (zX rfl) rfl, CX.out w' (h.two 2 3 rfl rfl (by decide))⟩) (ar (ak (fun γ => rfl) (ak (fun γ => rfl) (ak (fun γ => rfl) (ak (fun γ => rfl) (ak (fun γ => rfl) (ak (fun γ => rfl) (ag (ar (ak (fun γ => rfl) (ak (fun γ => rfl) (ak (fun γ => rfl) (ak (fun γ => rfl) (ak (fun γ => rfl) (ak (fun γ => rfl) (ak (fun γ => rfl) (ak (fun γ => rfl) (ak (fun γ => rfl) (ak (fun γ => rfl) (ak (fun γ => rfl) (ak (fun γ => rfl) (ak (fun γ => rfl) (ak (fun γ => rfl) (ak (fun γ => rfl) (ak (fun γ => rfl) (ak (fun γ => rfl) (ak (fun γ => rfl) (ak (fun γ => rfl) (ak (fun γ => rfl) (ak (fun γ => rfl) (ak (fun γ => rfl) (ak (fun γ => rfl) (ak (fun γ => rfl) (ak (fun γ => rfl) (ak (fun γ => rfl) (ak (fun γ => rfl) (ak (fun γ => rfl) (ak (fun γ => rfl) (ag (ar trivial)))))))))))))))))))))))))))))))))))))))))))))
 intro _ w3 H3
 clear H2
 refine zG rfl (zA (wp_ret ?_))
 repeat (first | refine zM ?_ | refine zK ?_)
 refine bodyPost_ret (v := .bool false) (by simp [results, Tryz.results48, go_sem, *]) rfl ?_
 exact ⟨rfl, H3.out.2⟩
theorem checkY_1 {α : Type} {en : α → Nat} {fa fs fm : α → α → α} {fi : α → α} {z u b : α} {g : Nat} {tn : Value} (_C : Fd1 g en fa fs fm fi z) (x y : Nat) (cx : ∀ w, Mm w [(g, zR pB), (0, dtab)] → Calls Tryz.prog 87 #[N x] w (Rt w (.bool true))) (cy : ∀ w, Mm w [(g, zR pB), (0, dtab)] → Calls Tryz.prog 87 #[N y] w (Rt w (.bool false))) (w : World) (hm : Mm w [(g, zR pB), (0, dtab)]) :
  Calls Tryz.prog 48 #[.agg (G1 g tn (en u) (en b)).toArray, .agg (cel [x, y] ++ [Value.bool false]).toArray] w (Rt w (.bool false)) := by
 have H0 : Hid (_ ∧ _) := ⟨hm, Below.refl w.heap.size w⟩
 clear hm
 have CX : Hid _ := cx
 clear cx
 have CY : Hid _ := cy
 clear cy
 go_enter Tryz.func48, Tryz.ntmps48
 refine wp_seq ?_
 refine zD 3 [.made (G1 g tn (en u) (en b)) 81, .made (cel [x, y] ++ [Value.bool false]) 84, .quiet (.bool false)] (sB H0) ?ho1 ?he1
 case ho1 => exact ak (fun γ => ⟨rfl, fun w' => yA rfl rfl⟩) (ak (fun γ => ⟨rfl, fun w' => yA rfl rfl⟩) (ar trivial))
 intro γ w1 l hM hl
 have H1 : Hid (Mm w1 [(γ 0, G1 g tn (en u) (en b)), (γ 1, cel [x, y] ++ [Value.bool false]), (g, zR pB), (0, dtab)] ∧ _) := zS H0 hM (Nat.le_refl _) hl [0, 1] rfl (by decide)
 have o1_0 := zP H0 hM (Nat.le_refl _) hl (i := 0) rfl
 have o1_1 := zP H0 hM (Nat.le_refl _) hl (i := 1) rfl
 clear hM hl l
 generalize γ 0 = γ1_0 at H1 o1_0 ⊢
 generalize γ 1 = γ1_1 at H1 o1_1 ⊢
 clear γ
 refine zG rfl (zA (wp_seq (wp_seq ?_)))
 refine zE 2 [.quiet (PT γ1_1 12), .quiet (.bool false)] H1 ?ho2 ?he2
 case ho2 => exact ag (aq (fun w' h => lC h 1 Tryz.isAgg4) trivial)
 intro _ w2 H2
 clear H1
 refine zG rfl (zA (wp_cond_false rfl ?_))
 refine wp_skip (zA (wp_seq ?_))
 refine yC 46 [.quiet (PT γ1_0 0), .quiet (PT γ1_0 4), .quiet (.func (.func 87) #[] #[]), .quiet (PT γ1_1 0), .quiet (N x), .call (.bool true), .quiet (.bool true), .quiet (PT γ1_0 0), .quiet (PT γ1_0 4), .quiet (.func (.func 87) #[] #[]), .quiet (PT γ1_1 6), .quiet (N y), .call (.bool false), .quiet (.bool false), .quiet (.bool false), .gone, .gone, .gone, .gone, .gone, .gone, .gone, .gone, .gone, .gone, .gone, .gone, .gone, .gone, .gone, .gone, .gone, .gone, .gone, .gone, .gone, .gone, .gone, .gone, .gone, .gone, .gone, .gone, .gone, .quiet (.bool false), .quiet (.bool false)] H2 ?ho3 ?he3 (hL := ?hL3)
 case hL3 => exact trivial
 case ho3 => exact ag (ag (aq (fun w' h => lC h 0 Tryz.isAgg71) (ag (aq (fun w' h => l6 h 1) (ac (fun w' h => ⟨87, #[N x], zO rfl call87 rfl (zX rfl) rfl, CX.out w' (h.two 2 3 rfl rfl (by decide))⟩) (ar (ag (ag (aq (fun w' h => lC h 0 Tryz.isAgg71) (ag (aq (fun w' h => l6 h 1) (ac (fun w' h => ⟨87, #[N y], zO rfl call87 rfl (zX rfl) rfl, CY.out w' (h.two 2 3 rfl rfl (by decide))⟩) (ag (ar (ak (fun γ => rfl) (ak (fun γ => rfl) (ak (fun γ => rfl) (ak (fun γ => rfl) (ak (fun γ => rfl) (ak (fun γ => rfl) (ak (fun γ => rfl) (ak (fun γ => rfl) (ak (fun γ => rfl) (ak (fun γ => rfl) (ak (fun γ => rfl) (ak (fun γ => rfl) (ak (fun γ => rfl) (ak (fun γ => rfl) (ak (fun γ => rfl) (ak (fun γ => rfl) (ak (fun γ => rfl) (ak (fun γ => rfl) (ak (fun γ => rfl) (ak (fun γ => rfl) (ak (fun γ => rfl) (ak (fun γ => rfl) (ak (fun γ => rfl) (ak (fun γ => rfl) (ak (fun γ => rfl) (ak (fun γ => rfl) (ak (fun γ => rfl) (ak (fun γ => rfl) (ak (fun γ => rfl) (ag (ar trivial)))))))))))))))))))))))))))))))))))))))))))))
 intro _ w3 H3
 clear H2
 refine zG rfl (zA (wp_ret ?_))
 repeat (first | refine zM ?_ | refine zK ?_)
 refine bodyPost_ret (v := .bool false) (by simp [results, Tryz.results48, go_sem, *]) rfl ?_
 exact ⟨rfl, H3.out.2⟩
set_option maxHeartbeats 4000000 in
theorem checkB_1 {α : Type} {en : α → Nat} {fa fs fm : α → α → α} {fi : α → α} {z u b : α} {g : Nat} {tn : Value} (C : Fd1 g en fa fs fm fi z) (x y : α) (be : Bool) (cx : ∀ w, Mm w [(g, zR pB), (0, dtab)] → Calls Tryz.prog 87 #[N (en x)] w (Rt w (.bool true))) (cy : ∀ w, Mm w [(g, zR pB), (0, dtab)] → Calls Tryz.prog 87 #[N (en y)] w (Rt w (.bool true))) (he : ∀ w, (Op.equalIn 10000 24 (N (en (fm y y))) (N (en (fa (fm x (fm x x)) b)))).run Tryz.prog w = .ok be w) (w : World) (hm : Mm w [(g, zR pB), (0, dtab)]) :
  Calls Tryz.prog 48 #[.agg (G1 g tn (en u) (en b)).toArray, .agg (cel [en x, en y] ++ [Value.bool false]).toArray] w (Rt w (.bool be)) := by
 have H0 : Hid (_ ∧ _) := ⟨hm, Below.refl w.heap.size w⟩
 clear hm
 have CX : Hid _ := cx
 clear cx
 have CY : Hid _ := cy
 clear cy
 have HE : Hid _ := he
 clear he
 go_enter Tryz.func48, Tryz.ntmps48
 refine wp_seq ?_
 refine zD 3 [.made (G1 g tn (en u) (en b)) 81, .made (cel [en x, en y] ++ [Value.bool false]) 84, .quiet (.bool false)] (sB H0) ?ho1 ?he1
 case ho1 => exact ak (fun γ => ⟨rfl, fun w' => yA rfl rfl⟩) (ak (fun γ => ⟨rfl, fun w' => yA rfl rfl⟩) (ar trivial))
 intro γ w1 l hM hl
 have H1 : Hid (Mm w1 [(γ 0, G1 g tn (en u) (en b)), (γ 1, cel [en x, en y] ++ [Value.bool false]), (g, zR pB), (0, dtab)] ∧ _) := zS H0 hM (Nat.le_refl _) hl [0, 1] rfl (by decide)
 have o1_0 := zP H0 hM (Nat.le_refl _) hl (i := 0) rfl
 have o1_1 := zP H0 hM (Nat.le_refl _) hl (i := 1) rfl
 clear hM hl l
 generalize γ 0 = γ1_0 at H1 o1_0 ⊢
 generalize γ 1 = γ1_1 at H1 o1_1 ⊢
 clear γ
 refine zG rfl (zA (wp_seq (wp_seq ?_)))
 refine zE 2 [.quiet (PT γ1_1 12), .quiet (.bool false)] H1 ?ho2 ?he2
 case ho2 => exact ag (aq (fun w' h => lC h 1 Tryz.isAgg4) trivial)
 intro _ w2 H2
 clear H1
 refine zG rfl (zA (wp_cond_false rfl ?_))
 refine wp_skip (zA (wp_seq ?_))
 refine yC 46 [.quiet (PT γ1_0 0), .quiet (PT γ1_0 4), .quiet (.func (.func 87) #[] #[]), .quiet (PT γ1_1 0), .quiet (N (en x)), .call (.bool true), .quiet (.bool true), .quiet (PT γ1_0 0), .quiet (PT γ1_0 4), .quiet (.func (.func 87) #[] #[]), .quiet (PT γ1_1 6), .quiet (N (en y)), .call (.bool true), .quiet (.bool true), .quiet (.bool true), .quiet (PT γ1_0 0), .quiet (PT γ1_0 2), .quiet (.func (.func 85) #[PT g 0] #[]), .quiet (PT γ1_1 6), .quiet (N (en y)), .quiet (PT γ1_1 6), .quiet (N (en y)), .call (N (en (fm y y))), .quiet (PT γ1_0 0), .quiet (PT γ1_0 0), .quiet (.func (.func 83) #[PT g 0] #[]), .quiet (PT γ1_0 0), .quiet (PT γ1_0 2), .quiet (.func (.func 85) #[PT g 0] #[]), .quiet (PT γ1_1 0), .quiet (N (en x)), .quiet (PT γ1_0 0), .quiet (PT γ1_0 2), .quiet (.func (.func 85) #[PT g 0] #[]), .quiet (PT γ1_1 0), .quiet (N (en x)), .quiet (PT γ1_1 0), .quiet (N (en x)), .call (N (en (fm x x))), .call (N (en (fm x (fm x x)))), .quiet (PT γ1_0 11), .quiet (N (en b)), .call (N (en (fa (fm x (fm x x)) b))), .quiet (.bool be), .quiet (.bool be), .quiet (.bool be)] H2 ?ho3 ?he3 (hL := ?hL3)
 case hL3 => exact trivial
 case ho3 => exact ag (ag (aq (fun w' h => lC h 0 Tryz.isAgg71) (ag (aq (fun w' h => l6 h 1) (ac (fun w' h => ⟨87, #[N (en x)], zO rfl call87 rfl (zX rfl) rfl, CX.out w' (h.two 2 3 rfl rfl (by decide))⟩) (ar (ag (ag (aq (fun w' h => lC h 0 Tryz.isAgg71) (ag (aq (fun w' h => l6 h 1) (ac (fun w' h => ⟨87, #[N (en y)], zO rfl call87 rfl (zX rfl) rfl, CY.out w' (h.two 2 3 rfl rfl (by decide))⟩) (ag (ar (ag (ag (aq (fun w' h => lC h 0 Tryz.isAgg75) (ag (aq (fun w' h => l6 h 1) (ag (aq (fun w' h => l6 h 1) (ac (fun w' h => ⟨85, #[PT g 0, N (en y), N (en y)], zO rfl call85 rfl (zX rfl) rfl, C.cm _ _ w' (h.two 2 3 rfl rfl (by decide))⟩) (ag (ag (aq (fun w' h => lC h 0 Tryz.isAgg75) (ag (ag (aq (fun w' h => lC h 0 Tryz.isAgg75) (ag (aq (fun w' h => l6 h 1) (ag (ag (aq (fun w' h => lC h 0 Tryz.isAgg75) (ag (aq (fun w' h => l6 h 1) (ag (aq (fun w' h => l6 h 1) (ac (fun w' h => ⟨85, #[PT g 0, N (en x), N (en x)], zO rfl call85 rfl (zX rfl) rfl, C.cm _ _ w' (h.two 2 3 rfl rfl (by decide))⟩) (ac (fun w' h => ⟨85, #[PT g 0, N (en x), N (en (fm x x))], zO rfl call85 rfl (zX rfl) rfl, C.cm _ _ w' (h.two 2 3 rfl rfl (by decide))⟩) (ag (aq (fun w' h => l6 h 0) (ac (fun w' h => ⟨83, #[PT g 0, N (en (fm x (fm x x))), N (en b)], zO rfl call83 rfl (zX rfl) rfl, C.ca _ _ w' (h.two 2 3 rfl rfl (by decide))⟩) (ak (fun γ => ⟨rfl, fun w' _ => exec_eq6 HE.out rfl rfl rfl⟩) (ag (ar trivial)))))))))))))))))))))))))))))))))))))))))))))
 intro _ w3 H3
 clear H2
 refine zG rfl (zA (wp_ret ?_))
 repeat (first | refine zM ?_ | refine zK ?_)
 refine bodyPost_ret (v := .bool be) (by simp [results, Tryz.results48, go_sem, *]) rfl ?_
 exact ⟨rfl, H3.out.2⟩
theorem joinY_1 {α : Type} {en : α → Nat} {fa fs fm : α → α → α} {fi : α → α} {z u b : α} {g : Nat} {tn : Value} (_C : Fd1 g en fa fs fm fi z) (x y v s : Nat) (zb zc zr : Bool) (a1 a2 a3 b1 b2 b3 t1 t2 t3 : α) (r k : Nat) (ck : ∀ w, Mm w [(g, zR pB), (0, dtab)] → Calls Tryz.prog 48 #[.agg (G1 g tn (en u) (en b)).toArray, .agg (cel [x, y] ++ [Value.bool zb]).toArray] w (Rt w (.bool true))) (cl : ∀ w, Mm w [(g, zR pB), (0, dtab)] → Calls Tryz.prog 48 #[.agg (G1 g tn (en u) (en b)).toArray, .agg (cel [v, s] ++ [Value.bool zc]).toArray] w (Rt w (.bool true))) (cp : ∀ w, Mm w [(g, zR pB), (0, dtab)] → Calls Tryz.prog 89 #[.agg (G1 g tn (en u) (en b)).toArray, .agg (cel [x, y] ++ [Value.bool zb]).toArray] w (Rt w (V [en a1, en a2, en a3]))) (cq : ∀ w, Mm w [(g, zR pB), (0, dtab)] → Calls Tryz.prog 89 #[.agg (G1 g tn (en u) (en b)).toArray, .agg (cel [v, s] ++ [Value.bool zc]).toArray] w (Rt w (V [en b1, en b2, en b3]))) (ct : ∀ w, Mm w [(g, zR pB), (0, dtab)] → Calls Tryz.prog 94 #[.agg (G1 g tn (en u) (en b)).toArray, V [en a1, en a2, en a3], V [en b1, en b2, en b3]] w (Rt w (V [en t1, en t2, en t3]))) (cw : ∀ w, Mm w [(g, zR pB), (0, dtab)] → Calls Tryz.prog 93 #[.agg (G1 g tn (en u) (en b)).toArray, V [en t1, en t2, en t3]] w (Rt w (.agg (cel [r, k] ++ [Value.bool zr]).toArray))) (w : World) (hm : Mm w [(g, zR pB), (0, dtab)]) :
  Calls Tryz.prog 53 #[.agg (G1 g tn (en u) (en b)).toArray, .agg (cel [x, y] ++ [Value.bool zb]).toArray, .agg (cel [v, s] ++ [Value.bool zc]).toArray] w (Rt w (.tuple #[.agg (cel [r, k] ++ [Value.bool zr]).toArray, .int .i64 0])) := by
 have H0 : Hid (_ ∧ _) := ⟨hm, Below.refl w.heap.size w⟩
 clear hm
 have CK : Hid _ := ck
 clear ck
 have CL : Hid _ := cl
 clear cl
 have CP : Hid _ := cp
 clear cp
 have CQ : Hid _ := cq
 clear cq
 have CT : Hid _ := ct
 clear ct
 have CW : Hid _ := cw
 clear cw
 go_enter Tryz.func53, Tryz.ntmps53
 refine wp_seq ?_
 refine zD 5 [.made (G1 g tn (en u) (en b)) 81, .made (cel [x, y] ++ [Value.bool zb]) 84, .made (cel [v, s] ++ [Value.bool zc]) 84, .made (cel [0, 0] ++ [Value.bool false]) 84, .quiet (.int .i64 0)] (sB H0) ?ho1 ?he1
 case ho1 => exact ak (fun γ => ⟨rfl, fun w' => yA rfl rfl⟩) (ak (fun γ => ⟨rfl, fun w' => yA rfl rfl⟩) (ak (fun γ => ⟨rfl, fun w' => yA rfl rfl⟩) (ak (fun γ => ⟨rfl, fun w' => ex_madePN rfl⟩) (ar trivial))))
 intro γ w1 l hM hl
 have H1 : Hid (Mm w1 [(γ 0, G1 g tn (en u) (en b)), (γ 1, cel [x, y] ++ [Value.bool zb]), (γ 2, cel [v, s] ++ [Value.bool zc]), (γ 3, cel [0, 0] ++ [Value.bool false]), (g, zR pB), (0, dtab)] ∧ _) := zS H0 hM (Nat.le_refl _) hl [0, 1, 2, 3] rfl (by decide)
 have o1_0 := zP H0 hM (Nat.le_refl _) hl (i := 0) rfl
 have o1_1 := zP H0 hM (Nat.le_refl _) hl (i := 1) rfl
 have o1_2 := zP H0 hM (Nat.le_refl _) hl (i := 2) rfl
 have o1_3 := zP H0 hM (Nat.le_refl _) hl (i := 3) rfl
 clear hM hl l
 generalize γ 0 = γ1_0 at H1 o1_0 ⊢
 generalize γ 1 = γ1_1 at H1 o1_1 ⊢
 generalize γ 2 = γ1_2 at H1 o1_2 ⊢
 generalize γ 3 = γ1_3 at H1 o1_3 ⊢
 clear γ
 refine zG rfl (zA (wp_seq (wp_seq ?_)))
 refine zE 10 [.quiet (.agg (G1 g tn (en u) (en b)).toArray), .quiet (.agg (cel [x, y] ++ [Value.bool zb]).toArray), .call (.bool true), .quiet (.bool false), .quiet (.bool false), .quiet (.agg (G1 g tn (en u) (en b)).toArray), .quiet (.agg (cel [v, s] ++ [Value.bool zc]).toArray), .call (.bool true), .quiet (.bool false), .quiet (.bool false)] H1 ?ho2 ?he2
 case ho2 => exact aq (fun w' h => lT h 0 Tryz.isAgg81 Tryz.sizeOf81) (aq (fun w' h => lT h 1 Tryz.isAgg84 Tryz.sizeOf84) (ac (fun w' h => ⟨48, #[.agg (G1 g tn (en u) (en b)).toArray, .agg (cel [x, y] ++ [Value.bool zb]).toArray], zC rfl call48 rfl (zX rfl), CK.out w' (h.two 4 5 rfl rfl (by decide))⟩) (ag (ar (aq (fun w' h => lT h 0 Tryz.isAgg81 Tryz.sizeOf81) (aq (fun w' h => lT h 2 Tryz.isAgg84 Tryz.sizeOf84) (ac (fun w' h => ⟨48, #[.agg (G1 g tn (en u) (en b)).toArray, .agg (cel [v, s] ++ [Value.bool zc]).toArray], zC rfl call48 rfl (zX rfl), CL.out w' (h.two 4 5 rfl rfl (by decide))⟩) (ag (ag trivial)))))))))
 intro _ w2 H2
 clear H1
 refine zG rfl (zA (wp_cond_false rfl ?_))
 refine wp_skip (zA (wp_seq ?_))
 refine yC 10 [.quiet (.agg (G1 g tn (en u) (en b)).toArray), .quiet (.agg (G1 g tn (en u) (en b)).toArray), .quiet (.agg (G1 g tn (en u) (en b)).toArray), .quiet (.agg (cel [x, y] ++ [Value.bool zb]).toArray), .call (V [en a1, en a2, en a3]), .quiet (.agg (G1 g tn (en u) (en b)).toArray), .quiet (.agg (cel [v, s] ++ [Value.bool zc]).toArray), .call (V [en b1, en b2, en b3]), .call (V [en t1, en t2, en t3]), .call (.agg (cel [r, k] ++ [Value.bool zr]).toArray)] H2 ?ho3 ?he3
 case ho3 => exact aq (fun w' h => lT h 0 Tryz.isAgg81 Tryz.sizeOf81) (aq (fun w' h => lT h 0 Tryz.isAgg81 Tryz.sizeOf81) (aq (fun w' h => lT h 0 Tryz.isAgg81 Tryz.sizeOf81) (aq (fun w' h => lT h 1 Tryz.isAgg84 Tryz.sizeOf84) (ac (fun w' h => ⟨89, #[.agg (G1 g tn (en u) (en b)).toArray, .agg (cel [x, y] ++ [Value.bool zb]).toArray], zC rfl call89 rfl (zX rfl), CP.out w' (h.two 4 5 rfl rfl (by decide))⟩) (aq (fun w' h => lT h 0 Tryz.isAgg81 Tryz.sizeOf81) (aq (fun w' h => lT h 2 Tryz.isAgg84 Tryz.sizeOf84) (ac (fun w' h => ⟨89, #[.agg (G1 g tn (en u) (en b)).toArray, .agg (cel [v, s] ++ [Value.bool zc]).toArray], zC rfl call89 rfl (zX rfl), CQ.out w' (h.two 4 5 rfl rfl (by decide))⟩) (ac (fun w' h => ⟨94, #[.agg (G1 g tn (en u) (en b)).toArray, V [en a1, en a2, en a3], V [en b1, en b2, en b3]], zC rfl call94 rfl (zX rfl), CT.out w' (h.two 4 5 rfl rfl (by decide))⟩) (ac (fun w' h => ⟨93, #[.agg (G1 g tn (en u) (en b)).toArray, V [en t1, en t2, en t3]], zC rfl call93 rfl (zX rfl), CW.out w' (h.two 4 5 rfl rfl (by decide))⟩) trivial)))))))))
 intro _ w3 H3
 clear H2
 refine zJ (l := [10, 11]) rfl ?_
 refine zI rfl rfl rfl (ex_storeT (vs := cel [r, k] ++ [Value.bool zr]) H3.out.1 3 rfl rfl rfl rfl Tryz.sizeOf84 rfl (Nat.le_of_ble_eq_true rfl)) ?_
 have H4 : Hid (Mm (w3.setCells γ1_3 0 (cel [r, k] ++ [Value.bool zr])) [(γ1_0, G1 g tn (en u) (en b)), (γ1_1, cel [x, y] ++ [Value.bool zb]), (γ1_2, cel [v, s] ++ [Value.bool zc]), (γ1_3, cel [r, k] ++ [Value.bool zr]), (g, zR pB), (0, dtab)] ∧ Below w.heap.size w (w3.setCells γ1_3 0 (cel [r, k] ++ [Value.bool zr]))) := ⟨H3.out.1.put 3 (off := 0) (vs := cel [r, k] ++ [Value.bool zr]) rfl (Nat.le_of_ble_eq_true rfl), zF _ o1_3.out _ _ _ H3.out.2⟩
 clear H3
 generalize hgw : World.setCells _ _ _ _ = w4 at H4 ⊢
 clear hgw
 refine zN (d := 7) rfl rfl rfl rfl ?_
 simp only [Act.put, sa, sz, ss]
 refine zH (zA (wp_ret ?_))
 repeat (first | refine zM ?_ | refine zK ?_)
 have hf0 := var_T H4.out.1 3 rfl Tryz.isAgg84 Tryz.sizeOf84 rfl
 refine bodyPost_ret (v := .tuple #[.agg (cel [r, k] ++ [Value.bool zr]).toArray, .int .i64 0]) (by simp [results, Tryz.results53, asAddr, Act.eval, hf0]) rfl ?_
 exact ⟨rfl, H4.out.2⟩
end Rg
end Go.Proofs.YtaomlijondiaoaaGreatDoor
end
section
namespace Go.Proofs.YtaomlijondiaoaaGreatDoor
open Go.RowKit
namespace Rg
theorem zero_2 {α : Type} {e0 e1 : α → Nat} {fa fs fm : α → α → α} {fi : α → α} {z u b : α} {tn : Value} (_C : Fd2 e0 e1 fa fs fm fi z) (w : World) (hm : Mm w [(0, dtab)]) :
  Calls Tryz.prog 119 #[.agg (G2 tn (e0 u) (e1 u) (e0 b) (e1 b)).toArray] w (Rt w (V [0, 0, e0 u, e1 u, 0, 0])) := by
 have H0 : Hid (_ ∧ _) := ⟨hm, Below.refl w.heap.size w⟩
 clear hm
 go_enter Tryz.func119, Tryz.ntmps119
 refine wp_seq ?_
 refine zD 2 [.made (G2 tn (e0 u) (e1 u) (e0 b) (e1 b)) 101, .made (cel [0, 0, 0, 0, 0, 0]) 139] (sB H0) ?ho1 ?he1
 case ho1 => exact ak (fun γ => ⟨rfl, fun w' => yA rfl rfl⟩) (ak (fun γ => ⟨rfl, fun w' => ex_madeTE rfl⟩) trivial)
 intro γ w1 l hM hl
 have H1 : Hid (Mm w1 [(γ 0, G2 tn (e0 u) (e1 u) (e0 b) (e1 b)), (γ 1, cel [0, 0, 0, 0, 0, 0]), (0, dtab)] ∧ _) := zS H0 hM (Nat.le_refl _) hl [0, 1] rfl (by decide)
 have o1_0 := zP H0 hM (Nat.le_refl _) hl (i := 0) rfl
 have o1_1 := zP H0 hM (Nat.le_refl _) hl (i := 1) rfl
 clear hM hl l
 generalize γ 0 = γ1_0 at H1 o1_0 ⊢
 generalize γ 1 = γ1_1 at H1 o1_1 ⊢
 clear γ
 refine zG rfl (zA (wp_seq ?_))
 refine zE 4 [.quiet (PT γ1_0 0), .quiet (PT γ1_0 5), .quiet (V [e0 u, e1 u]), .quiet (V [0, 0, e0 u, e1 u, 0, 0])] H1 ?ho2 ?he2
 case ho2 => exact ag (ag (aq (fun w' h => lT h 0 Tryz.isAgg40 Tryz.sizeOf40) (ak (fun γ => ⟨rfl, fun w' _ => ex_buildTEy rfl rfl⟩) trivial)))
 intro _ w2 H2
 clear H1
 refine zJ (l := [4]) rfl ?_
 refine zI rfl rfl rfl (zT (i := 0) (ms := [0, 0, e0 u, e1 u, 0, 0]) H2.out.1 1 rfl rfl rfl rfl Tryz.sizeOf139 (Nat.le_of_ble_eq_true rfl)) ?_
 have H3 : Hid (Mm (w2.setCells γ1_1 (6 * 0) (cel [0, 0, e0 u, e1 u, 0, 0])) [(γ1_0, G2 tn (e0 u) (e1 u) (e0 b) (e1 b)), (γ1_1, cel [0, 0, e0 u, e1 u, 0, 0]), (0, dtab)] ∧ Below w.heap.size w (w2.setCells γ1_1 (6 * 0) (cel [0, 0, e0 u, e1 u, 0, 0]))) := ⟨by
  have h := H2.out.1.put 1 (off := 6 * 0) (vs := cel [0, 0, e0 u, e1 u, 0, 0]) rfl (by simp only [cel_len]; exact Nat.le_of_ble_eq_true rfl)
  rw [zU] at h
  exact h, zF _ o1_1.out _ _ _ H2.out.2⟩
 clear H2
 generalize hgw : World.setCells _ _ _ _ = w3 at H3 ⊢
 clear hgw
 refine zH (zA (wp_ret ?_))
 repeat (first | refine zM ?_ | refine zK ?_)
 have hf0 := cel_var (k := 6) H3.out.1 1 rfl Tryz.isAgg139 Tryz.sizeOf139 rfl
 refine bodyPost_ret (v := V [0, 0, e0 u, e1 u, 0, 0]) (by simp [results, Tryz.results119, asAddr, hf0]) rfl ?_
 exact ⟨rfl, H3.out.2⟩
theorem liftT_2 {α : Type} {e0 e1 : α → Nat} {fa fs fm : α → α → α} {fi : α → α} {z u b : α} {tn : Value} (C : Fd2 e0 e1 fa fs fm fi z) (x0 x1 y0 y1 : Nat) (w : World) (hm : Mm w [(0, dtab)]) :
  Calls Tryz.prog 110 #[.agg (G2 tn (e0 u) (e1 u) (e0 b) (e1 b)).toArray, .agg (cel [x0, x1, y0, y1] ++ [Value.bool true]).toArray] w (Rt w (V [0, 0, e0 u, e1 u, 0, 0])) := by
 have H0 : Hid (_ ∧ _) := ⟨hm, Below.refl w.heap.size w⟩
 clear hm
 go_enter Tryz.func110, Tryz.ntmps110
 refine wp_seq ?_
 refine zD 3 [.made (G2 tn (e0 u) (e1 u) (e0 b) (e1 b)) 101, .made (cel [x0, x1, y0, y1] ++ [Value.bool true]) 104, .made (cel [0, 0, 0, 0, 0, 0]) 139] (sB H0) ?ho1 ?he1
 case ho1 => exact ak (fun γ => ⟨rfl, fun w' => yA rfl rfl⟩) (ak (fun γ => ⟨rfl, fun w' => yA rfl rfl⟩) (ak (fun γ => ⟨rfl, fun w' => ex_madeTE rfl⟩) trivial))
 intro γ w1 l hM hl
 have H1 : Hid (Mm w1 [(γ 0, G2 tn (e0 u) (e1 u) (e0 b) (e1 b)), (γ 1, cel [x0, x1, y0, y1] ++ [Value.bool true]), (γ 2, cel [0, 0, 0, 0, 0, 0]), (0, dtab)] ∧ _) := zS H0 hM (Nat.le_refl _) hl [0, 1, 2] rfl (by decide)
 have o1_0 := zP H0 hM (Nat.le_refl _) hl (i := 0) rfl
 have o1_1 := zP H0 hM (Nat.le_refl _) hl (i := 1) rfl
 have o1_2 := zP H0 hM (Nat.le_refl _) hl (i := 2) rfl
 clear hM hl l
 generalize γ 0 = γ1_0 at H1 o1_0 ⊢
 generalize γ 1 = γ1_1 at H1 o1_1 ⊢
 generalize γ 2 = γ1_2 at H1 o1_2 ⊢
 clear γ
 refine zG rfl (zA (wp_seq (wp_seq ?_)))
 refine zE 2 [.quiet (PT γ1_1 24), .quiet (.bool true)] H1 ?ho2 ?he2
 case ho2 => exact ag (aq (fun w' h => lC h 1 Tryz.isAgg4) trivial)
 intro _ w2 H2
 clear H1
 refine zG rfl (zA (wp_cond_true rfl (wp_seq ?_)))
 refine zE 2 [.quiet (.agg (G2 tn (e0 u) (e1 u) (e0 b) (e1 b)).toArray), .call (V [0, 0, e0 u, e1 u, 0, 0])] H2 ?ho3 ?he3
 case ho3 => exact aq (fun w' h => lT h 0 Tryz.isAgg101 Tryz.sizeOf101) (ac (fun w' h => ⟨119, #[.agg (G2 tn (e0 u) (e1 u) (e0 b) (e1 b)).toArray], zC rfl call119 rfl (zX rfl), zero_2 C w' (h.one 3 rfl)⟩) trivial)
 intro _ w3 H3
 clear H2
 refine zJ (l := [2]) rfl ?_
 refine zI rfl rfl rfl (zT (i := 0) (ms := [0, 0, e0 u, e1 u, 0, 0]) H3.out.1 2 rfl rfl rfl rfl Tryz.sizeOf139 (Nat.le_of_ble_eq_true rfl)) ?_
 have H4 : Hid (Mm (w3.setCells γ1_2 (6 * 0) (cel [0, 0, e0 u, e1 u, 0, 0])) [(γ1_0, G2 tn (e0 u) (e1 u) (e0 b) (e1 b)), (γ1_1, cel [x0, x1, y0, y1] ++ [Value.bool true]), (γ1_2, cel [0, 0, e0 u, e1 u, 0, 0]), (0, dtab)] ∧ Below w.heap.size w (w3.setCells γ1_2 (6 * 0) (cel [0, 0, e0 u, e1 u, 0, 0]))) := ⟨by
  have h := H3.out.1.put 2 (off := 6 * 0) (vs := cel [0, 0, e0 u, e1 u, 0, 0]) rfl (by simp only [cel_len]; exact Nat.le_of_ble_eq_true rfl)
  rw [zU] at h
  exact h, zF _ o1_2.out _ _ _ H3.out.2⟩
 clear H3
 generalize hgw : World.setCells _ _ _ _ = w4 at H4 ⊢
 clear hgw
 refine zH (zA (wp_ret ?_))
 repeat (first | refine zM ?_ | refine zK ?_)
 have hf0 := cel_var (k := 6) H4.out.1 2 rfl Tryz.isAgg139 Tryz.sizeOf139 rfl
 refine bodyPost_ret (v := V [0, 0, e0 u, e1 u, 0, 0]) (by simp [results, Tryz.results110, asAddr, hf0]) rfl ?_
 exact ⟨rfl, H4.out.2⟩
theorem liftF_2 {α : Type} {e0 e1 : α → Nat} {fa fs fm : α → α → α} {fi : α → α} {z u b : α} {tn : Value} (_C : Fd2 e0 e1 fa fs fm fi z) (x0 x1 y0 y1 : Nat) (w : World) (hm : Mm w [(0, dtab)]) :
  Calls Tryz.prog 110 #[.agg (G2 tn (e0 u) (e1 u) (e0 b) (e1 b)).toArray, .agg (cel [x0, x1, y0, y1] ++ [Value.bool false]).toArray] w (Rt w (V [x0, x1, y0, y1, e0 u, e1 u])) := by
 have H0 : Hid (_ ∧ _) := ⟨hm, Below.refl w.heap.size w⟩
 clear hm
 go_enter Tryz.func110, Tryz.ntmps110
 refine wp_seq ?_
 refine zD 3 [.made (G2 tn (e0 u) (e1 u) (e0 b) (e1 b)) 101, .made (cel [x0, x1, y0, y1] ++ [Value.bool false]) 104, .made (cel [0, 0, 0, 0, 0, 0]) 139] (sB H0) ?ho1 ?he1
 case ho1 => exact ak (fun γ => ⟨rfl, fun w' => yA rfl rfl⟩) (ak (fun γ => ⟨rfl, fun w' => yA rfl rfl⟩) (ak (fun γ => ⟨rfl, fun w' => ex_madeTE rfl⟩) trivial))
 intro γ w1 l hM hl
 have H1 : Hid (Mm w1 [(γ 0, G2 tn (e0 u) (e1 u) (e0 b) (e1 b)), (γ 1, cel [x0, x1, y0, y1] ++ [Value.bool false]), (γ 2, cel [0, 0, 0, 0, 0, 0]), (0, dtab)] ∧ _) := zS H0 hM (Nat.le_refl _) hl [0, 1, 2] rfl (by decide)
 have o1_0 := zP H0 hM (Nat.le_refl _) hl (i := 0) rfl
 have o1_1 := zP H0 hM (Nat.le_refl _) hl (i := 1) rfl
 have o1_2 := zP H0 hM (Nat.le_refl _) hl (i := 2) rfl
 clear hM hl l
 generalize γ 0 = γ1_0 at H1 o1_0 ⊢
 generalize γ 1 = γ1_1 at H1 o1_1 ⊢
 generalize γ 2 = γ1_2 at H1 o1_2 ⊢
 clear γ
 refine zG rfl (zA (wp_seq (wp_seq ?_)))
 refine zE 2 [.quiet (PT γ1_1 24), .quiet (.bool false)] H1 ?ho2 ?he2
 case ho2 => exact ag (aq (fun w' h => lC h 1 Tryz.isAgg4) trivial)
 intro _ w2 H2
 clear H1
 refine zG rfl (zA (wp_cond_false rfl ?_))
 refine wp_skip (zA (wp_seq ?_))
 refine zE 8 [.quiet (PT γ1_1 0), .quiet (V [x0, x1]), .quiet (PT γ1_1 12), .quiet (V [y0, y1]), .quiet (PT γ1_0 0), .quiet (PT γ1_0 5), .quiet (V [e0 u, e1 u]), .quiet (V [x0, x1, y0, y1, e0 u, e1 u])] H2 ?ho3 ?he3
 case ho3 => exact ag (aq (fun w' h => lT h 1 Tryz.isAgg40 Tryz.sizeOf40) (ag (aq (fun w' h => lT h 1 Tryz.isAgg40 Tryz.sizeOf40) (ag (ag (aq (fun w' h => lT h 0 Tryz.isAgg40 Tryz.sizeOf40) (ak (fun γ => ⟨rfl, fun w' _ => ex_buildTE rfl rfl rfl rfl⟩) trivial)))))))
 intro _ w3 H3
 clear H2
 refine zJ (l := [8]) rfl ?_
 refine zI rfl rfl rfl (zT (i := 0) (ms := [x0, x1, y0, y1, e0 u, e1 u]) H3.out.1 2 rfl rfl rfl rfl Tryz.sizeOf139 (Nat.le_of_ble_eq_true rfl)) ?_
 have H4 : Hid (Mm (w3.setCells γ1_2 (6 * 0) (cel [x0, x1, y0, y1, e0 u, e1 u])) [(γ1_0, G2 tn (e0 u) (e1 u) (e0 b) (e1 b)), (γ1_1, cel [x0, x1, y0, y1] ++ [Value.bool false]), (γ1_2, cel [x0, x1, y0, y1, e0 u, e1 u]), (0, dtab)] ∧ Below w.heap.size w (w3.setCells γ1_2 (6 * 0) (cel [x0, x1, y0, y1, e0 u, e1 u]))) := ⟨by
  have h := H3.out.1.put 2 (off := 6 * 0) (vs := cel [x0, x1, y0, y1, e0 u, e1 u]) rfl (by simp only [cel_len]; exact Nat.le_of_ble_eq_true rfl)
  rw [zU] at h
  exact h, zF _ o1_2.out _ _ _ H3.out.2⟩
 clear H3
 generalize hgw : World.setCells _ _ _ _ = w4 at H4 ⊢
 clear hgw
 refine zH (zA (wp_ret ?_))
 repeat (first | refine zM ?_ | refine zK ?_)
 have hf0 := cel_var (k := 6) H4.out.1 2 rfl Tryz.isAgg139 Tryz.sizeOf139 rfl
 refine bodyPost_ret (v := V [x0, x1, y0, y1, e0 u, e1 u]) (by simp [results, Tryz.results110, asAddr, hf0]) rfl ?_
 exact ⟨rfl, H4.out.2⟩
theorem isZero_2 (x0 x1 y0 y1 t0 t1 : Nat) (bz : Bool) (hz : ∀ w, (Op.equalIn 10000 40 (V [t0, t1]) (V [0, 0])).run Tryz.prog w = .ok bz w) (w : World) :
  Calls Tryz.prog 150 #[V [x0, x1, y0, y1, t0, t1]] w (Rt w (.bool bz)) := by
 have H0 : Hid (_ ∧ _) := ⟨Mm.nil w, Below.refl w.heap.size w⟩
 have HZ : Hid _ := hz
 clear hz
 go_enter Tryz.func150, Tryz.ntmps150
 refine wp_seq ?_
 refine zD 2 [.made (cel [x0, x1, y0, y1, t0, t1]) 139, .quiet (.bool false)] (sB H0) ?ho1 ?he1
 case ho1 => exact ak (fun γ => ⟨rfl, fun w' => ex_boxA rfl rfl⟩) (ar trivial)
 intro γ w1 l hM hl
 have H1 : Hid (Mm w1 [(γ 0, cel [x0, x1, y0, y1, t0, t1])] ∧ _) := zS H0 hM (Nat.le_refl _) hl [0] rfl (by decide)
 have o1_0 := zP H0 hM (Nat.le_refl _) hl (i := 0) rfl
 clear hM hl l
 generalize γ 0 = γ1_0 at H1 o1_0 ⊢
 clear γ
 refine zG rfl (zA (wp_seq ?_))
 refine zD 1 [.made (cel [0, 0]) 40] (sB H1) ?ho2 ?he2
 case ho2 => exact ak (fun γ => ⟨rfl, fun w' => ex_madeE2 rfl⟩) trivial
 intro γ w2 l hM hl
 have H2 : Hid (Mm w2 [(γ 0, cel [0, 0]), (γ1_0, cel [x0, x1, y0, y1, t0, t1])] ∧ _) := zS H1 hM (Nat.le_refl _) hl [0] rfl (by decide)
 have o2_0 := zP H1 hM (Nat.le_refl _) hl (i := 0) rfl
 clear hM hl l H1
 generalize γ 0 = γ2_0 at H2 o2_0 ⊢
 clear γ
 refine zG rfl (zA (wp_seq ?_))
 refine zE 5 [.quiet (PT γ1_0 24), .quiet (V [t0, t1]), .quiet (V [0, 0]), .quiet (.bool bz), .quiet (.bool bz)] H2 ?ho3 ?he3
 case ho3 => exact ag (aq (fun w' h => lA 4 2 h 1 Tryz.isAgg40 Tryz.sizeOf40) (aq (fun w' h => lA 0 2 h 0 Tryz.isAgg40 Tryz.sizeOf40) (ak (fun γ => ⟨rfl, fun w' _ => exec_eqT40 HZ.out rfl rfl rfl⟩) (ar trivial))))
 intro _ w3 H3
 clear H2
 refine zG rfl (zA (wp_ret ?_))
 repeat (first | refine zM ?_ | refine zK ?_)
 refine bodyPost_ret (v := .bool bz) (by simp [results, Tryz.results150, go_sem, *]) rfl ?_
 exact ⟨rfl, H3.out.2⟩
theorem lowerT_2 {α : Type} {e0 e1 : α → Nat} {fa fs fm : α → α → α} {fi : α → α} {z u b : α} {tn : Value} (_C : Fd2 e0 e1 fa fs fm fi z) (x0 x1 y0 y1 t0 t1 : Nat) (hz : ∀ w, (Op.equalIn 10000 40 (V [t0, t1]) (V [0, 0])).run Tryz.prog w = .ok true w) (w : World) (hm : Mm w [(0, dtab)]) :
  Calls Tryz.prog 113 #[.agg (G2 tn (e0 u) (e1 u) (e0 b) (e1 b)).toArray, V [x0, x1, y0, y1, t0, t1]] w (Rt w (.agg (cel [0, 0, 0, 0] ++ [Value.bool true]).toArray)) := by
 have H0 : Hid (_ ∧ _) := ⟨hm, Below.refl w.heap.size w⟩
 clear hm
 have HZ : Hid _ := hz
 clear hz
 go_enter Tryz.func113, Tryz.ntmps113
 refine wp_seq ?_
 refine zD 3 [.made (G2 tn (e0 u) (e1 u) (e0 b) (e1 b)) 101, .made (cel [x0, x1, y0, y1, t0, t1]) 139, .made (cel [0, 0, 0, 0] ++ [Value.bool false]) 104] (sB H0) ?ho1 ?he1
 case ho1 => exact ak (fun γ => ⟨rfl, fun w' => yA rfl rfl⟩) (ak (fun γ => ⟨rfl, fun w' => ex_boxA rfl rfl⟩) (ak (fun γ => ⟨rfl, fun w' => ex_madePE rfl⟩) trivial))
 intro γ w1 l hM hl
 have H1 : Hid (Mm w1 [(γ 0, G2 tn (e0 u) (e1 u) (e0 b) (e1 b)), (γ 1, cel [x0, x1, y0, y1, t0, t1]), (γ 2, cel [0, 0, 0, 0] ++ [Value.bool false]), (0, dtab)] ∧ _) := zS H0 hM (Nat.le_refl _) hl [0, 1, 2] rfl (by decide)
 have o1_0 := zP H0 hM (Nat.le_refl _) hl (i := 0) rfl
 have o1_1 := zP H0 hM (Nat.le_refl _) hl (i := 1) rfl
 have o1_2 := zP H0 hM (Nat.le_refl _) hl (i := 2) rfl
 clear hM hl l
 generalize γ 0 = γ1_0 at H1 o1_0 ⊢
 generalize γ 1 = γ1_1 at H1 o1_1 ⊢
 generalize γ 2 = γ1_2 at H1 o1_2 ⊢
 clear γ
 refine zG rfl (zA (wp_seq (wp_seq ?_)))
 refine zE 2 [.quiet (V [x0, x1, y0, y1, t0, t1]), .call (.bool true)] H1 ?ho2 ?he2
 case ho2 => exact aq (fun w' h => lA 0 6 h 1 Tryz.isAgg139 Tryz.sizeOf139) (ac (fun w' h => ⟨150, #[V [x0, x1, y0, y1, t0, t1]], zC rfl call150 rfl (zX rfl), isZero_2 _ _ _ _ _ _ true HZ.out w'⟩) trivial)
 intro _ w2 H2
 clear H1
 refine zG rfl (zA (wp_cond_true rfl (wp_seq ?_)))
 refine zE 1 [.quiet (.agg (cel [0, 0, 0, 0] ++ [Value.bool true]).toArray)] H2 ?ho3 ?he3
 case ho3 => exact ak (fun γ => ⟨rfl, fun w' _ => ex_buildPEt rfl rfl⟩) trivial
 intro _ w3 H3
 clear H2
 refine zJ (l := [1]) rfl ?_
 refine zI rfl rfl rfl (ex_storeT (vs := cel [0, 0, 0, 0] ++ [Value.bool true]) H3.out.1 2 rfl rfl rfl rfl Tryz.sizeOf104 rfl (Nat.le_of_ble_eq_true rfl)) ?_
 have H4 : Hid (Mm (w3.setCells γ1_2 0 (cel [0, 0, 0, 0] ++ [Value.bool true])) [(γ1_0, G2 tn (e0 u) (e1 u) (e0 b) (e1 b)), (γ1_1, cel [x0, x1, y0, y1, t0, t1]), (γ1_2, cel [0, 0, 0, 0] ++ [Value.bool true]), (0, dtab)] ∧ Below w.heap.size w (w3.setCells γ1_2 0 (cel [0, 0, 0, 0] ++ [Value.bool true]))) := ⟨H3.out.1.put 2 (off := 0) (vs := cel [0, 0, 0, 0] ++ [Value.bool true]) rfl (Nat.le_of_ble_eq_true rfl), zF _ o1_2.out _ _ _ H3.out.2⟩
 clear H3
 generalize hgw : World.setCells _ _ _ _ = w4 at H4 ⊢
 clear hgw
 refine zH (zA (wp_ret ?_))
 repeat (first | refine zM ?_ | refine zK ?_)
 have hf0 := var_T H4.out.1 2 rfl Tryz.isAgg104 Tryz.sizeOf104 rfl
 refine bodyPost_ret (v := .agg (cel [0, 0, 0, 0] ++ [Value.bool true]).toArray) (by simp [results, Tryz.results113, asAddr, hf0]) rfl ?_
 exact ⟨rfl, H4.out.2⟩
theorem lowerF_2 {α : Type} {e0 e1 : α → Nat} {fa fs fm : α → α → α} {fi : α → α} {z u b : α} {tn : Value} (C : Fd2 e0 e1 fa fs fm fi z) (x y t : α) (hz : ∀ w, (Op.equalIn 10000 40 (V [e0 t, e1 t]) (V [0, 0])).run Tryz.prog w = .ok false w) (ht : t ≠ z) (w : World) (hm : Mm w [(0, dtab)]) :
  Calls Tryz.prog 113 #[.agg (G2 tn (e0 u) (e1 u) (e0 b) (e1 b)).toArray, V [e0 x, e1 x, e0 y, e1 y, e0 t, e1 t]] w (Rt w (.agg (cel [e0 (fm x (fi t)), e1 (fm x (fi t)), e0 (fm y (fi t)), e1 (fm y (fi t))] ++ [Value.bool false]).toArray)) := by
 have H0 : Hid (_ ∧ _) := ⟨hm, Below.refl w.heap.size w⟩
 clear hm
 have HZ : Hid _ := hz
 clear hz
 have HT : Hid _ := ht
 clear ht
 go_enter Tryz.func113, Tryz.ntmps113
 refine wp_seq ?_
 refine zD 3 [.made (G2 tn (e0 u) (e1 u) (e0 b) (e1 b)) 101, .made (cel [e0 x, e1 x, e0 y, e1 y, e0 t, e1 t]) 139, .made (cel [0, 0, 0, 0] ++ [Value.bool false]) 104] (sB H0) ?ho1 ?he1
 case ho1 => exact ak (fun γ => ⟨rfl, fun w' => yA rfl rfl⟩) (ak (fun γ => ⟨rfl, fun w' => ex_boxA rfl rfl⟩) (ak (fun γ => ⟨rfl, fun w' => ex_madePE rfl⟩) trivial))
 intro γ w1 l hM hl
 have H1 : Hid (Mm w1 [(γ 0, G2 tn (e0 u) (e1 u) (e0 b) (e1 b)), (γ 1, cel [e0 x, e1 x, e0 y, e1 y, e0 t, e1 t]), (γ 2, cel [0, 0, 0, 0] ++ [Value.bool false]), (0, dtab)] ∧ _) := zS H0 hM (Nat.le_refl _) hl [0, 1, 2] rfl (by decide)
 have o1_0 := zP H0 hM (Nat.le_refl _) hl (i := 0) rfl
 have o1_1 := zP H0 hM (Nat.le_refl _) hl (i := 1) rfl
 have o1_2 := zP H0 hM (Nat.le_refl _) hl (i := 2) rfl
 clear hM hl l
 generalize γ 0 = γ1_0 at H1 o1_0 ⊢
 generalize γ 1 = γ1_1 at H1 o1_1 ⊢
 generalize γ 2 = γ1_2 at H1 o1_2 ⊢
 clear γ
 refine zG rfl (zA (wp_seq (wp_seq ?_)))
 refine zE 2 [.quiet (V [e0 x, e1 x, e0 y, e1 y, e0 t, e1 t]), .call (.bool false)] H1 ?ho2 ?he2
 case ho2 => exact aq (fun w' h => lA 0 6 h 1 Tryz.isAgg139 Tryz.sizeOf139) (ac (fun w' h => ⟨150, #[V [e0 x, e1 x, e0 y, e1 y, e0 t, e1 t]], zC rfl call150 rfl (zX rfl), isZero_2 _ _ _ _ _ _ false HZ.out w'⟩) trivial)
 intro _ w2 H2
 clear H1
 refine zG rfl (zA (wp_cond_false rfl ?_))
 refine wp_skip (zA (wp_seq ?_))
 refine zD 12 [.quiet (PT γ1_0 0), .quiet (PT γ1_0 3), .quiet (.func (.func 106) #[] #[]), .quiet (PT γ1_1 24), .quiet (V [e0 t, e1 t]), .call (.tuple #[V [e0 (fi t), e1 (fi t)], .int .i64 0]), .quiet (.tuple #[V [e0 (fi t), e1 (fi t)], .int .i64 0]), .quiet (V [e0 (fi t), e1 (fi t)]), .quiet (.int .i64 0), .made (cel [0, 0]) 40, .laid 9 (cel [0, 0]) (cel [e0 (fi t), e1 (fi t)]), .quiet (.int .i64 0)] (sB H2) ?ho3 ?he3 (hL := ?hL3)
 case hL3 => exact ⟨⟨_, rfl⟩, trivial⟩
 case ho3 => exact ag (ag (aq (fun w' h => lC h 0 Tryz.isAgg95) (ag (aq (fun w' h => lA 4 2 h 1 Tryz.isAgg40 Tryz.sizeOf40) (ac (fun w' h => ⟨106, #[V [e0 t, e1 t]], zO rfl call106 rfl (zX rfl) rfl, C.ci _ w' HT.out (h.one 3 rfl)⟩) (ar (ag (ag (ak (fun γ => ⟨rfl, fun w' => ex_madeE2 rfl⟩) (ak (fun γ => ⟨rfl, rfl, rfl, fun w' h => ex_laidA h rfl Tryz.sizeOf40 rfl rfl rfl⟩) (ar trivial)))))))))))
 intro γ w3 l hM hl
 have H3 : Hid (Mm w3 [(γ 9, cel [e0 (fi t), e1 (fi t)]), (γ1_0, G2 tn (e0 u) (e1 u) (e0 b) (e1 b)), (γ1_1, cel [e0 x, e1 x, e0 y, e1 y, e0 t, e1 t]), (γ1_2, cel [0, 0, 0, 0] ++ [Value.bool false]), (0, dtab)] ∧ _) := zS H2 hM (Nat.le_refl _) hl [9] rfl (by decide)
 have o3_9 := zP H2 hM (Nat.le_refl _) hl (i := 9) rfl
 clear hM hl l H2
 generalize γ 9 = γ3_9 at H3 o3_9 ⊢
 clear γ
 refine zG rfl (zA (wp_seq ?_))
 refine yC 15 [.quiet (PT γ1_0 0), .quiet (PT γ1_0 2), .quiet (.func (.func 105) #[] #[]), .quiet (PT γ1_1 0), .quiet (V [e0 x, e1 x]), .quiet (V [e0 (fi t), e1 (fi t)]), .call (V [e0 (fm x (fi t)), e1 (fm x (fi t))]), .quiet (PT γ1_0 0), .quiet (PT γ1_0 2), .quiet (.func (.func 105) #[] #[]), .quiet (PT γ1_1 12), .quiet (V [e0 y, e1 y]), .quiet (V [e0 (fi t), e1 (fi t)]), .call (V [e0 (fm y (fi t)), e1 (fm y (fi t))]), .quiet (.agg (cel [e0 (fm x (fi t)), e1 (fm x (fi t)), e0 (fm y (fi t)), e1 (fm y (fi t))] ++ [Value.bool false]).toArray)] H3 ?ho4 ?he4
 case ho4 => exact ag (ag (aq (fun w' h => lC h 1 Tryz.isAgg93) (ag (aq (fun w' h => lA 0 2 h 2 Tryz.isAgg40 Tryz.sizeOf40) (aq (fun w' h => lA 0 2 h 0 Tryz.isAgg40 Tryz.sizeOf40) (ac (fun w' h => ⟨105, #[V [e0 x, e1 x], V [e0 (fi t), e1 (fi t)]], zO rfl call105 rfl (zX rfl) rfl, C.cm _ _ w' (h.one 4 rfl)⟩) (ag (ag (aq (fun w' h => lC h 1 Tryz.isAgg93) (ag (aq (fun w' h => lA 2 2 h 2 Tryz.isAgg40 Tryz.sizeOf40) (aq (fun w' h => lA 0 2 h 0 Tryz.isAgg40 Tryz.sizeOf40) (ac (fun w' h => ⟨105, #[V [e0 y, e1 y], V [e0 (fi t), e1 (fi t)]], zO rfl call105 rfl (zX rfl) rfl, C.cm _ _ w' (h.one 4 rfl)⟩) (ak (fun γ => ⟨rfl, fun w' _ => ex_buildPExy rfl rfl rfl⟩) trivial))))))))))))))
 intro _ w4 H4
 clear H3
 refine zJ (l := [15]) rfl ?_
 refine zI rfl rfl rfl (ex_storeT (vs := cel [e0 (fm x (fi t)), e1 (fm x (fi t)), e0 (fm y (fi t)), e1 (fm y (fi t))] ++ [Value.bool false]) H4.out.1 3 rfl rfl rfl rfl Tryz.sizeOf104 rfl (Nat.le_of_ble_eq_true rfl)) ?_
 have H5 : Hid (Mm (w4.setCells γ1_2 0 (cel [e0 (fm x (fi t)), e1 (fm x (fi t)), e0 (fm y (fi t)), e1 (fm y (fi t))] ++ [Value.bool false])) [(γ3_9, cel [e0 (fi t), e1 (fi t)]), (γ1_0, G2 tn (e0 u) (e1 u) (e0 b) (e1 b)), (γ1_1, cel [e0 x, e1 x, e0 y, e1 y, e0 t, e1 t]), (γ1_2, cel [e0 (fm x (fi t)), e1 (fm x (fi t)), e0 (fm y (fi t)), e1 (fm y (fi t))] ++ [Value.bool false]), (0, dtab)] ∧ Below w.heap.size w (w4.setCells γ1_2 0 (cel [e0 (fm x (fi t)), e1 (fm x (fi t)), e0 (fm y (fi t)), e1 (fm y (fi t))] ++ [Value.bool false]))) := ⟨H4.out.1.put 3 (off := 0) (vs := cel [e0 (fm x (fi t)), e1 (fm x (fi t)), e0 (fm y (fi t)), e1 (fm y (fi t))] ++ [Value.bool false]) rfl (Nat.le_of_ble_eq_true rfl), zF _ o1_2.out _ _ _ H4.out.2⟩
 clear H4
 generalize hgw : World.setCells _ _ _ _ = w5 at H5 ⊢
 clear hgw
 refine zH (zA (wp_ret ?_))
 repeat (first | refine zM ?_ | refine zK ?_)
 have hf0 := var_T H5.out.1 3 rfl Tryz.isAgg104 Tryz.sizeOf104 rfl
 refine bodyPost_ret (v := .agg (cel [e0 (fm x (fi t)), e1 (fm x (fi t)), e0 (fm y (fi t)), e1 (fm y (fi t))] ++ [Value.bool false]).toArray) (by simp [results, Tryz.results113, asAddr, hf0]) rfl ?_
 exact ⟨rfl, H5.out.2⟩
set_option maxHeartbeats 4000000 in
theorem togetherV_2 {α : Type} {e0 e1 : α → Nat} {fa fs fm : α → α → α} {fi : α → α} {z u b : α} {tn : Value} (C : Fd2 e0 e1 fa fs fm fi z) (x1 y1 z1 x2 y2 z2 : α) (v1 v2 v3 v4 v5 v6 v7 v8 v9 v10 v11 v12 v13 v14 v15 v16 v17 v18 v19 v20 v21 v22 v23 v24 v25 v26 v27 v28 v29 v30 v31 v32 v33 v34 : α) (hv1 : fm x1 x2 = v1) (hv2 : fm y1 y2 = v2) (hv3 : fm z1 z2 = v3) (hv4 : fa x1 y1 = v4) (hv5 : fa x2 y2 = v5) (hv6 : fm v4 v5 = v6) (hv7 : fa v1 v2 = v7) (hv8 : fs v6 v7 = v8) (hv9 : fa y1 z1 = v9) (hv10 : fa y2 z2 = v10) (hv11 : fm v9 v10 = v11) (hv12 : fa v2 v3 = v12) (hv13 : fs v11 v12 = v13) (hv14 : fa x1 z1 = v14) (hv15 : fa x2 z2 = v15) (hv16 : fm v14 v15 = v16) (hv17 : fa v1 v3 = v17) (hv18 : fs v16 v17 = v18) (hv19 : fa (fa v1 v1) v1 = v19) (hv20 : fm b v18 = v20) (hv21 : fa (fa v20 v20) v20 = v21) (hv22 : fm b v3 = v22) (hv23 : fa (fa v22 v22) v22 = v23) (hv24 : fs v2 v23 = v24) (hv25 : fa v2 v23 = v25) (hv26 : fm v24 v8 = v26) (hv27 : fm v13 v21 = v27) (hv28 : fs v26 v27 = v28) (hv29 : fm v24 v25 = v29) (hv30 : fm v19 v21 = v30) (hv31 : fa v29 v30 = v31) (hv32 : fm v25 v13 = v32) (hv33 : fm v19 v8 = v33) (hv34 : fa v32 v33 = v34) (w : World) (hm : Mm w [(0, dtab)]) :
  Calls Tryz.prog 114 #[.agg (G2 tn (e0 u) (e1 u) (e0 b) (e1 b)).toArray, V [e0 x1, e1 x1, e0 y1, e1 y1, e0 z1, e1 z1], V [e0 x2, e1 x2, e0 y2, e1 y2, e0 z2, e1 z2]] w (Rt w (V [e0 v28, e1 v28, e0 v31, e1 v31, e0 v34, e1 v34])) := by
 have H0 : Hid (_ ∧ _) := ⟨hm, Below.refl w.heap.size w⟩
 clear hm
 have HV1 : Hid _ := hv1
 clear hv1
 have HV2 : Hid _ := hv2
 clear hv2
 have HV3 : Hid _ := hv3
 clear hv3
 have HV4 : Hid _ := hv4
 clear hv4
 have HV5 : Hid _ := hv5
 clear hv5
 have HV6 : Hid _ := hv6
 clear hv6
 have HV7 : Hid _ := hv7
 clear hv7
 have HV8 : Hid _ := hv8
 clear hv8
 have HV9 : Hid _ := hv9
 clear hv9
 have HV10 : Hid _ := hv10
 clear hv10
 have HV11 : Hid _ := hv11
 clear hv11
 have HV12 : Hid _ := hv12
 clear hv12
 have HV13 : Hid _ := hv13
 clear hv13
 have HV14 : Hid _ := hv14
 clear hv14
 have HV15 : Hid _ := hv15
 clear hv15
 have HV16 : Hid _ := hv16
 clear hv16
 have HV17 : Hid _ := hv17
 clear hv17
 have HV18 : Hid _ := hv18
 clear hv18
 have HV19 : Hid _ := hv19
 clear hv19
 have HV20 : Hid _ := hv20
 clear hv20
 have HV21 : Hid _ := hv21
 clear hv21
 have HV22 : Hid _ := hv22
 clear hv22
 have HV23 : Hid _ := hv23
 clear hv23
 have HV24 : Hid _ := hv24
 clear hv24
 have HV25 : Hid _ := hv25
 clear hv25
 have HV26 : Hid _ := hv26
 clear hv26
 have HV27 : Hid _ := hv27
 clear hv27
 have HV28 : Hid _ := hv28
 clear hv28
 have HV29 : Hid _ := hv29
 clear hv29
 have HV30 : Hid _ := hv30
 clear hv30
 have HV31 : Hid _ := hv31
 clear hv31
 have HV32 : Hid _ := hv32
 clear hv32
 have HV33 : Hid _ := hv33
 clear hv33
 have HV34 : Hid _ := hv34
 clear hv34
 go_enter Tryz.func114, Tryz.ntmps114
 refine wp_seq ?_
 refine zD 4 [.made (G2 tn (e0 u) (e1 u) (e0 b) (e1 b)) 101, .made (cel [e0 x1, e1 x1, e0 y1, e1 y1, e0 z1, e1 z1]) 139, .made (cel [e0 x2, e1 x2, e0 y2, e1 y2, e0 z2, e1 z2]) 139, .made (cel [0, 0, 0, 0, 0, 0]) 139] (sB H0) ?ho1 ?he1
 case ho1 => exact ak (fun γ => ⟨rfl, fun w' => yA rfl rfl⟩) (ak (fun γ => ⟨rfl, fun w' => ex_boxA rfl rfl⟩) (ak (fun γ => ⟨rfl, fun w' => ex_boxA rfl rfl⟩) (ak (fun γ => ⟨rfl, fun w' => ex_madeTE rfl⟩) trivial)))
 intro γ w1 l hM hl
 have H1 : Hid (Mm w1 [(γ 0, G2 tn (e0 u) (e1 u) (e0 b) (e1 b)), (γ 1, cel [e0 x1, e1 x1, e0 y1, e1 y1, e0 z1, e1 z1]), (γ 2, cel [e0 x2, e1 x2, e0 y2, e1 y2, e0 z2, e1 z2]), (γ 3, cel [0, 0, 0, 0, 0, 0]), (0, dtab)] ∧ _) := zS H0 hM (Nat.le_refl _) hl [0, 1, 2, 3] rfl (by decide)
 have o1_0 := zP H0 hM (Nat.le_refl _) hl (i := 0) rfl
 have o1_1 := zP H0 hM (Nat.le_refl _) hl (i := 1) rfl
 have o1_2 := zP H0 hM (Nat.le_refl _) hl (i := 2) rfl
 have o1_3 := zP H0 hM (Nat.le_refl _) hl (i := 3) rfl
 clear hM hl l
 generalize γ 0 = γ1_0 at H1 o1_0 ⊢
 generalize γ 1 = γ1_1 at H1 o1_1 ⊢
 generalize γ 2 = γ1_2 at H1 o1_2 ⊢
 generalize γ 3 = γ1_3 at H1 o1_3 ⊢
 clear γ
 refine zG rfl (zA (wp_seq ?_))
 refine zY 30 [.quiet (PT γ1_0 0), .quiet (PT γ1_0 2), .quiet (.func (.func 105) #[] #[]), .quiet (PT γ1_1 0), .quiet (V [e0 x1, e1 x1]), .quiet (PT γ1_2 0), .quiet (V [e0 x2, e1 x2]), .call (V [e0 v1, e1 v1]), .quiet (PT γ1_0 0), .quiet (PT γ1_0 2), .quiet (.func (.func 105) #[] #[]), .quiet (PT γ1_1 12), .quiet (V [e0 y1, e1 y1]), .quiet (PT γ1_2 12), .quiet (V [e0 y2, e1 y2]), .call (V [e0 v2, e1 v2]), .quiet (PT γ1_0 0), .quiet (PT γ1_0 2), .quiet (.func (.func 105) #[] #[]), .quiet (PT γ1_1 24), .quiet (V [e0 z1, e1 z1]), .quiet (PT γ1_2 24), .quiet (V [e0 z2, e1 z2]), .call (V [e0 v3, e1 v3]), .made (cel [0, 0]) 40, .made (cel [0, 0]) 40, .made (cel [0, 0]) 40, .laid 24 (cel [0, 0]) (cel [e0 v1, e1 v1]), .laid 25 (cel [0, 0]) (cel [e0 v2, e1 v2]), .laid 26 (cel [0, 0]) (cel [e0 v3, e1 v3])] (sB H1) ?ho2 ?he2 (hL := ?hL2)
 case hL2 => exact ⟨⟨_, rfl⟩, ⟨_, rfl⟩, ⟨_, rfl⟩, trivial⟩
 case ho2 => exact ag (ag (aq (fun w' h => lC h 0 Tryz.isAgg93) (ag (aq (fun w' h => lA 0 2 h 1 Tryz.isAgg40 Tryz.sizeOf40) (ag (aq (fun w' h => lA 0 2 h 2 Tryz.isAgg40 Tryz.sizeOf40) (ac (fun w' h => ⟨105, #[V [e0 x1, e1 x1], V [e0 x2, e1 x2]], zO rfl call105 rfl (zX rfl) rfl, C.km HV1.out w' (h.one 4 rfl)⟩) (ag (ag (aq (fun w' h => lC h 0 Tryz.isAgg93) (ag (aq (fun w' h => lA 2 2 h 1 Tryz.isAgg40 Tryz.sizeOf40) (ag (aq (fun w' h => lA 2 2 h 2 Tryz.isAgg40 Tryz.sizeOf40) (ac (fun w' h => ⟨105, #[V [e0 y1, e1 y1], V [e0 y2, e1 y2]], zO rfl call105 rfl (zX rfl) rfl, C.km HV2.out w' (h.one 4 rfl)⟩) (ag (ag (aq (fun w' h => lC h 0 Tryz.isAgg93) (ag (aq (fun w' h => lA 4 2 h 1 Tryz.isAgg40 Tryz.sizeOf40) (ag (aq (fun w' h => lA 4 2 h 2 Tryz.isAgg40 Tryz.sizeOf40) (ac (fun w' h => ⟨105, #[V [e0 z1, e1 z1], V [e0 z2, e1 z2]], zO rfl call105 rfl (zX rfl) rfl, C.km HV3.out w' (h.one 4 rfl)⟩) (ak (fun γ => ⟨rfl, fun w' => ex_madeE2 rfl⟩) (ak (fun γ => ⟨rfl, fun w' => ex_madeE2 rfl⟩) (ak (fun γ => ⟨rfl, fun w' => ex_madeE2 rfl⟩) (ak (fun γ => ⟨rfl, rfl, rfl, fun w' h => ex_laidA h rfl Tryz.sizeOf40 rfl rfl rfl⟩) (ak (fun γ => ⟨rfl, rfl, rfl, fun w' h => ex_laidA h rfl Tryz.sizeOf40 rfl rfl rfl⟩) (ak (fun γ => ⟨rfl, rfl, rfl, fun w' h => ex_laidA h rfl Tryz.sizeOf40 rfl rfl rfl⟩) trivial)))))))))))))))))))))))))))))
 intro γ w2 l hM hl
 have H2 : Hid (Mm w2 [(γ 24, cel [e0 v1, e1 v1]), (γ 25, cel [e0 v2, e1 v2]), (γ 26, cel [e0 v3, e1 v3]), (γ1_0, G2 tn (e0 u) (e1 u) (e0 b) (e1 b)), (γ1_1, cel [e0 x1, e1 x1, e0 y1, e1 y1, e0 z1, e1 z1]), (γ1_2, cel [e0 x2, e1 x2, e0 y2, e1 y2, e0 z2, e1 z2]), (γ1_3, cel [0, 0, 0, 0, 0, 0]), (0, dtab)] ∧ _) := zS H1 hM (Nat.le_refl _) hl [24, 25, 26] rfl (by decide)
 have o2_24 := zP H1 hM (Nat.le_refl _) hl (i := 24) rfl
 have o2_25 := zP H1 hM (Nat.le_refl _) hl (i := 25) rfl
 have o2_26 := zP H1 hM (Nat.le_refl _) hl (i := 26) rfl
 clear hM hl l H1
 generalize γ 24 = γ2_24 at H2 o2_24 ⊢
 generalize γ 25 = γ2_25 at H2 o2_25 ⊢
 generalize γ 26 = γ2_26 at H2 o2_26 ⊢
 clear γ
 refine zG rfl (zA (wp_seq ?_))
 refine zY 32 [.quiet (PT γ1_0 0), .quiet (PT γ1_0 1), .quiet (.func (.func 104) #[] #[]), .quiet (PT γ1_0 0), .quiet (PT γ1_0 2), .quiet (.func (.func 105) #[] #[]), .quiet (PT γ1_0 0), .quiet (PT γ1_0 0), .quiet (.func (.func 103) #[] #[]), .quiet (PT γ1_1 0), .quiet (V [e0 x1, e1 x1]), .quiet (PT γ1_1 12), .quiet (V [e0 y1, e1 y1]), .call (V [e0 v4, e1 v4]), .quiet (PT γ1_0 0), .quiet (PT γ1_0 0), .quiet (.func (.func 103) #[] #[]), .quiet (PT γ1_2 0), .quiet (V [e0 x2, e1 x2]), .quiet (PT γ1_2 12), .quiet (V [e0 y2, e1 y2]), .call (V [e0 v5, e1 v5]), .call (V [e0 v6, e1 v6]), .quiet (PT γ1_0 0), .quiet (PT γ1_0 0), .quiet (.func (.func 103) #[] #[]), .quiet (V [e0 v1, e1 v1]), .quiet (V [e0 v2, e1 v2]), .call (V [e0 v7, e1 v7]), .call (V [e0 v8, e1 v8]), .made (cel [0, 0]) 40, .laid 30 (cel [0, 0]) (cel [e0 v8, e1 v8])] (sB H2) ?ho3 ?he3 (hL := ?hL3)
 case hL3 => exact ⟨⟨_, rfl⟩, trivial⟩
 case ho3 => exact ag (ag (aq (fun w' h => lC h 3 Tryz.isAgg93) (ag (ag (aq (fun w' h => lC h 3 Tryz.isAgg93) (ag (ag (aq (fun w' h => lC h 3 Tryz.isAgg93) (ag (aq (fun w' h => lA 0 2 h 4 Tryz.isAgg40 Tryz.sizeOf40) (ag (aq (fun w' h => lA 2 2 h 4 Tryz.isAgg40 Tryz.sizeOf40) (ac (fun w' h => ⟨103, #[V [e0 x1, e1 x1], V [e0 y1, e1 y1]], zO rfl call103 rfl (zX rfl) rfl, C.ka HV4.out w' (h.one 7 rfl)⟩) (ag (ag (aq (fun w' h => lC h 3 Tryz.isAgg93) (ag (aq (fun w' h => lA 0 2 h 5 Tryz.isAgg40 Tryz.sizeOf40) (ag (aq (fun w' h => lA 2 2 h 5 Tryz.isAgg40 Tryz.sizeOf40) (ac (fun w' h => ⟨103, #[V [e0 x2, e1 x2], V [e0 y2, e1 y2]], zO rfl call103 rfl (zX rfl) rfl, C.ka HV5.out w' (h.one 7 rfl)⟩) (ac (fun w' h => ⟨105, #[V [e0 v4, e1 v4], V [e0 v5, e1 v5]], zO rfl call105 rfl (zX rfl) rfl, C.km HV6.out w' (h.one 7 rfl)⟩) (ag (ag (aq (fun w' h => lC h 3 Tryz.isAgg93) (aq (fun w' h => lA 0 2 h 0 Tryz.isAgg40 Tryz.sizeOf40) (aq (fun w' h => lA 0 2 h 1 Tryz.isAgg40 Tryz.sizeOf40) (ac (fun w' h => ⟨103, #[V [e0 v1, e1 v1], V [e0 v2, e1 v2]], zO rfl call103 rfl (zX rfl) rfl, C.ka HV7.out w' (h.one 7 rfl)⟩) (ac (fun w' h => ⟨104, #[V [e0 v6, e1 v6], V [e0 v7, e1 v7]], zO rfl call104 rfl (zX rfl) rfl, C.ks HV8.out w' (h.one 7 rfl)⟩) (ak (fun γ => ⟨rfl, fun w' => ex_madeE2 rfl⟩) (ak (fun γ => ⟨rfl, rfl, rfl, fun w' h => ex_laidA h rfl Tryz.sizeOf40 rfl rfl rfl⟩) trivial)))))))))))))))))))))))))))))))
 intro γ w3 l hM hl
 have H3 : Hid (Mm w3 [(γ 30, cel [e0 v8, e1 v8]), (γ2_24, cel [e0 v1, e1 v1]), (γ2_25, cel [e0 v2, e1 v2]), (γ2_26, cel [e0 v3, e1 v3]), (γ1_0, G2 tn (e0 u) (e1 u) (e0 b) (e1 b)), (γ1_1, cel [e0 x1, e1 x1, e0 y1, e1 y1, e0 z1, e1 z1]), (γ1_2, cel [e0 x2, e1 x2, e0 y2, e1 y2, e0 z2, e1 z2]), (γ1_3, cel [0, 0, 0, 0, 0, 0]), (0, dtab)] ∧ _) := zS H2 hM (Nat.le_refl _) hl [30] rfl (by decide)
 have o3_30 := zP H2 hM (Nat.le_refl _) hl (i := 30) rfl
 clear hM hl l H2
 generalize γ 30 = γ3_30 at H3 o3_30 ⊢
 clear γ
 refine zG rfl (zA (wp_seq ?_))
 refine zY 32 [.quiet (PT γ1_0 0), .quiet (PT γ1_0 1), .quiet (.func (.func 104) #[] #[]), .quiet (PT γ1_0 0), .quiet (PT γ1_0 2), .quiet (.func (.func 105) #[] #[]), .quiet (PT γ1_0 0), .quiet (PT γ1_0 0), .quiet (.func (.func 103) #[] #[]), .quiet (PT γ1_1 12), .quiet (V [e0 y1, e1 y1]), .quiet (PT γ1_1 24), .quiet (V [e0 z1, e1 z1]), .call (V [e0 v9, e1 v9]), .quiet (PT γ1_0 0), .quiet (PT γ1_0 0), .quiet (.func (.func 103) #[] #[]), .quiet (PT γ1_2 12), .quiet (V [e0 y2, e1 y2]), .quiet (PT γ1_2 24), .quiet (V [e0 z2, e1 z2]), .call (V [e0 v10, e1 v10]), .call (V [e0 v11, e1 v11]), .quiet (PT γ1_0 0), .quiet (PT γ1_0 0), .quiet (.func (.func 103) #[] #[]), .quiet (V [e0 v2, e1 v2]), .quiet (V [e0 v3, e1 v3]), .call (V [e0 v12, e1 v12]), .call (V [e0 v13, e1 v13]), .made (cel [0, 0]) 40, .laid 30 (cel [0, 0]) (cel [e0 v13, e1 v13])] (sB H3) ?ho4 ?he4 (hL := ?hL4)
 case hL4 => exact ⟨⟨_, rfl⟩, trivial⟩
 case ho4 => exact ag (ag (aq (fun w' h => lC h 4 Tryz.isAgg93) (ag (ag (aq (fun w' h => lC h 4 Tryz.isAgg93) (ag (ag (aq (fun w' h => lC h 4 Tryz.isAgg93) (ag (aq (fun w' h => lA 2 2 h 5 Tryz.isAgg40 Tryz.sizeOf40) (ag (aq (fun w' h => lA 4 2 h 5 Tryz.isAgg40 Tryz.sizeOf40) (ac (fun w' h => ⟨103, #[V [e0 y1, e1 y1], V [e0 z1, e1 z1]], zO rfl call103 rfl (zX rfl) rfl, C.ka HV9.out w' (h.one 8 rfl)⟩) (ag (ag (aq (fun w' h => lC h 4 Tryz.isAgg93) (ag (aq (fun w' h => lA 2 2 h 6 Tryz.isAgg40 Tryz.sizeOf40) (ag (aq (fun w' h => lA 4 2 h 6 Tryz.isAgg40 Tryz.sizeOf40) (ac (fun w' h => ⟨103, #[V [e0 y2, e1 y2], V [e0 z2, e1 z2]], zO rfl call103 rfl (zX rfl) rfl, C.ka HV10.out w' (h.one 8 rfl)⟩) (ac (fun w' h => ⟨105, #[V [e0 v9, e1 v9], V [e0 v10, e1 v10]], zO rfl call105 rfl (zX rfl) rfl, C.km HV11.out w' (h.one 8 rfl)⟩) (ag (ag (aq (fun w' h => lC h 4 Tryz.isAgg93) (aq (fun w' h => lA 0 2 h 2 Tryz.isAgg40 Tryz.sizeOf40) (aq (fun w' h => lA 0 2 h 3 Tryz.isAgg40 Tryz.sizeOf40) (ac (fun w' h => ⟨103, #[V [e0 v2, e1 v2], V [e0 v3, e1 v3]], zO rfl call103 rfl (zX rfl) rfl, C.ka HV12.out w' (h.one 8 rfl)⟩) (ac (fun w' h => ⟨104, #[V [e0 v11, e1 v11], V [e0 v12, e1 v12]], zO rfl call104 rfl (zX rfl) rfl, C.ks HV13.out w' (h.one 8 rfl)⟩) (ak (fun γ => ⟨rfl, fun w' => ex_madeE2 rfl⟩) (ak (fun γ => ⟨rfl, rfl, rfl, fun w' h => ex_laidA h rfl Tryz.sizeOf40 rfl rfl rfl⟩) trivial)))))))))))))))))))))))))))))))
 intro γ w4 l hM hl
 have H4 : Hid (Mm w4 [(γ 30, cel [e0 v13, e1 v13]), (γ3_30, cel [e0 v8, e1 v8]), (γ2_24, cel [e0 v1, e1 v1]), (γ2_25, cel [e0 v2, e1 v2]), (γ2_26, cel [e0 v3, e1 v3]), (γ1_0, G2 tn (e0 u) (e1 u) (e0 b) (e1 b)), (γ1_1, cel [e0 x1, e1 x1, e0 y1, e1 y1, e0 z1, e1 z1]), (γ1_2, cel [e0 x2, e1 x2, e0 y2, e1 y2, e0 z2, e1 z2]), (γ1_3, cel [0, 0, 0, 0, 0, 0]), (0, dtab)] ∧ _) := zS H3 hM (Nat.le_refl _) hl [30] rfl (by decide)
 have o4_30 := zP H3 hM (Nat.le_refl _) hl (i := 30) rfl
 clear hM hl l H3
 generalize γ 30 = γ4_30 at H4 o4_30 ⊢
 clear γ
 refine zG rfl (zA (wp_seq ?_))
 refine zY 32 [.quiet (PT γ1_0 0), .quiet (PT γ1_0 1), .quiet (.func (.func 104) #[] #[]), .quiet (PT γ1_0 0), .quiet (PT γ1_0 2), .quiet (.func (.func 105) #[] #[]), .quiet (PT γ1_0 0), .quiet (PT γ1_0 0), .quiet (.func (.func 103) #[] #[]), .quiet (PT γ1_1 0), .quiet (V [e0 x1, e1 x1]), .quiet (PT γ1_1 24), .quiet (V [e0 z1, e1 z1]), .call (V [e0 v14, e1 v14]), .quiet (PT γ1_0 0), .quiet (PT γ1_0 0), .quiet (.func (.func 103) #[] #[]), .quiet (PT γ1_2 0), .quiet (V [e0 x2, e1 x2]), .quiet (PT γ1_2 24), .quiet (V [e0 z2, e1 z2]), .call (V [e0 v15, e1 v15]), .call (V [e0 v16, e1 v16]), .quiet (PT γ1_0 0), .quiet (PT γ1_0 0), .quiet (.func (.func 103) #[] #[]), .quiet (V [e0 v1, e1 v1]), .quiet (V [e0 v3, e1 v3]), .call (V [e0 v17, e1 v17]), .call (V [e0 v18, e1 v18]), .made (cel [0, 0]) 40, .laid 30 (cel [0, 0]) (cel [e0 v18, e1 v18])] (sB H4) ?ho5 ?he5 (hL := ?hL5)
 case hL5 => exact ⟨⟨_, rfl⟩, trivial⟩
 case ho5 => exact ag (ag (aq (fun w' h => lC h 5 Tryz.isAgg93) (ag (ag (aq (fun w' h => lC h 5 Tryz.isAgg93) (ag (ag (aq (fun w' h => lC h 5 Tryz.isAgg93) (ag (aq (fun w' h => lA 0 2 h 6 Tryz.isAgg40 Tryz.sizeOf40) (ag (aq (fun w' h => lA 4 2 h 6 Tryz.isAgg40 Tryz.sizeOf40) (ac (fun w' h => ⟨103, #[V [e0 x1, e1 x1], V [e0 z1, e1 z1]], zO rfl call103 rfl (zX rfl) rfl, C.ka HV14.out w' (h.one 9 rfl)⟩) (ag (ag (aq (fun w' h => lC h 5 Tryz.isAgg93) (ag (aq (fun w' h => lA 0 2 h 7 Tryz.isAgg40 Tryz.sizeOf40) (ag (aq (fun w' h => lA 4 2 h 7 Tryz.isAgg40 Tryz.sizeOf40) (ac (fun w' h => ⟨103, #[V [e0 x2, e1 x2], V [e0 z2, e1 z2]], zO rfl call103 rfl (zX rfl) rfl, C.ka HV15.out w' (h.one 9 rfl)⟩) (ac (fun w' h => ⟨105, #[V [e0 v14, e1 v14], V [e0 v15, e1 v15]], zO rfl call105 rfl (zX rfl) rfl, C.km HV16.out w' (h.one 9 rfl)⟩) (ag (ag (aq (fun w' h => lC h 5 Tryz.isAgg93) (aq (fun w' h => lA 0 2 h 2 Tryz.isAgg40 Tryz.sizeOf40) (aq (fun w' h => lA 0 2 h 4 Tryz.isAgg40 Tryz.sizeOf40) (ac (fun w' h => ⟨103, #[V [e0 v1, e1 v1], V [e0 v3, e1 v3]], zO rfl call103 rfl (zX rfl) rfl, C.ka HV17.out w' (h.one 9 rfl)⟩) (ac (fun w' h => ⟨104, #[V [e0 v16, e1 v16], V [e0 v17, e1 v17]], zO rfl call104 rfl (zX rfl) rfl, C.ks HV18.out w' (h.one 9 rfl)⟩) (ak (fun γ => ⟨rfl, fun w' => ex_madeE2 rfl⟩) (ak (fun γ => ⟨rfl, rfl, rfl, fun w' h => ex_laidA h rfl Tryz.sizeOf40 rfl rfl rfl⟩) trivial)))))))))))))))))))))))))))))))
 intro γ w5 l hM hl
 have H5 : Hid (Mm w5 [(γ 30, cel [e0 v18, e1 v18]), (γ4_30, cel [e0 v13, e1 v13]), (γ3_30, cel [e0 v8, e1 v8]), (γ2_24, cel [e0 v1, e1 v1]), (γ2_25, cel [e0 v2, e1 v2]), (γ2_26, cel [e0 v3, e1 v3]), (γ1_0, G2 tn (e0 u) (e1 u) (e0 b) (e1 b)), (γ1_1, cel [e0 x1, e1 x1, e0 y1, e1 y1, e0 z1, e1 z1]), (γ1_2, cel [e0 x2, e1 x2, e0 y2, e1 y2, e0 z2, e1 z2]), (γ1_3, cel [0, 0, 0, 0, 0, 0]), (0, dtab)] ∧ _) := zS H4 hM (Nat.le_refl _) hl [30] rfl (by decide)
 have o5_30 := zP H4 hM (Nat.le_refl _) hl (i := 30) rfl
 clear hM hl l H4
 generalize γ 30 = γ5_30 at H5 o5_30 ⊢
 clear γ
 refine zG rfl (zA (wp_seq ?_))
 refine zY 27 [.quiet (.agg (G2 tn (e0 u) (e1 u) (e0 b) (e1 b)).toArray), .quiet (V [e0 v1, e1 v1]), .call (V [e0 v19, e1 v19]), .quiet (.agg (G2 tn (e0 u) (e1 u) (e0 b) (e1 b)).toArray), .quiet (PT γ1_0 0), .quiet (PT γ1_0 2), .quiet (.func (.func 105) #[] #[]), .quiet (PT γ1_0 17), .quiet (V [e0 b, e1 b]), .quiet (V [e0 v18, e1 v18]), .call (V [e0 v20, e1 v20]), .call (V [e0 v21, e1 v21]), .quiet (.agg (G2 tn (e0 u) (e1 u) (e0 b) (e1 b)).toArray), .quiet (PT γ1_0 0), .quiet (PT γ1_0 2), .quiet (.func (.func 105) #[] #[]), .quiet (PT γ1_0 17), .quiet (V [e0 b, e1 b]), .quiet (V [e0 v3, e1 v3]), .call (V [e0 v22, e1 v22]), .call (V [e0 v23, e1 v23]), .made (cel [0, 0]) 40, .made (cel [0, 0]) 40, .made (cel [0, 0]) 40, .laid 21 (cel [0, 0]) (cel [e0 v19, e1 v19]), .laid 22 (cel [0, 0]) (cel [e0 v21, e1 v21]), .laid 23 (cel [0, 0]) (cel [e0 v23, e1 v23])] (sB H5) ?ho6 ?he6 (hL := ?hL6)
 case hL6 => exact ⟨⟨_, rfl⟩, ⟨_, rfl⟩, ⟨_, rfl⟩, trivial⟩
 case ho6 => exact aq (fun w' h => lT h 6 Tryz.isAgg101 Tryz.sizeOf101) (aq (fun w' h => lA 0 2 h 3 Tryz.isAgg40 Tryz.sizeOf40) (ac (fun w' h => ⟨151, #[.agg (G2 tn (e0 u) (e1 u) (e0 b) (e1 b)).toArray, V [e0 v1, e1 v1]], zC rfl call151 rfl (zX rfl), thriceN_2 C HV19.out w' (h.one 10 rfl)⟩) (aq (fun w' h => lT h 6 Tryz.isAgg101 Tryz.sizeOf101) (ag (ag (aq (fun w' h => lC h 6 Tryz.isAgg93) (ag (aq (fun w' h => lT h 6 Tryz.isAgg40 Tryz.sizeOf40) (aq (fun w' h => lA 0 2 h 0 Tryz.isAgg40 Tryz.sizeOf40) (ac (fun w' h => ⟨105, #[V [e0 b, e1 b], V [e0 v18, e1 v18]], zO rfl call105 rfl (zX rfl) rfl, C.km HV20.out w' (h.one 10 rfl)⟩) (ac (fun w' h => ⟨151, #[.agg (G2 tn (e0 u) (e1 u) (e0 b) (e1 b)).toArray, V [e0 v20, e1 v20]], zC rfl call151 rfl (zX rfl), thriceN_2 C HV21.out w' (h.one 10 rfl)⟩) (aq (fun w' h => lT h 6 Tryz.isAgg101 Tryz.sizeOf101) (ag (ag (aq (fun w' h => lC h 6 Tryz.isAgg93) (ag (aq (fun w' h => lT h 6 Tryz.isAgg40 Tryz.sizeOf40) (aq (fun w' h => lA 0 2 h 5 Tryz.isAgg40 Tryz.sizeOf40) (ac (fun w' h => ⟨105, #[V [e0 b, e1 b], V [e0 v3, e1 v3]], zO rfl call105 rfl (zX rfl) rfl, C.km HV22.out w' (h.one 10 rfl)⟩) (ac (fun w' h => ⟨151, #[.agg (G2 tn (e0 u) (e1 u) (e0 b) (e1 b)).toArray, V [e0 v22, e1 v22]], zC rfl call151 rfl (zX rfl), thriceN_2 C HV23.out w' (h.one 10 rfl)⟩) (ak (fun γ => ⟨rfl, fun w' => ex_madeE2 rfl⟩) (ak (fun γ => ⟨rfl, fun w' => ex_madeE2 rfl⟩) (ak (fun γ => ⟨rfl, fun w' => ex_madeE2 rfl⟩) (ak (fun γ => ⟨rfl, rfl, rfl, fun w' h => ex_laidA h rfl Tryz.sizeOf40 rfl rfl rfl⟩) (ak (fun γ => ⟨rfl, rfl, rfl, fun w' h => ex_laidA h rfl Tryz.sizeOf40 rfl rfl rfl⟩) (ak (fun γ => ⟨rfl, rfl, rfl, fun w' h => ex_laidA h rfl Tryz.sizeOf40 rfl rfl rfl⟩) trivial))))))))))))))))))))))))))
 intro γ w6 l hM hl
 have H6 : Hid (Mm w6 [(γ 21, cel [e0 v19, e1 v19]), (γ 22, cel [e0 v21, e1 v21]), (γ 23, cel [e0 v23, e1 v23]), (γ5_30, cel [e0 v18, e1 v18]), (γ4_30, cel [e0 v13, e1 v13]), (γ3_30, cel [e0 v8, e1 v8]), (γ2_24, cel [e0 v1, e1 v1]), (γ2_25, cel [e0 v2, e1 v2]), (γ2_26, cel [e0 v3, e1 v3]), (γ1_0, G2 tn (e0 u) (e1 u) (e0 b) (e1 b)), (γ1_1, cel [e0 x1, e1 x1, e0 y1, e1 y1, e0 z1, e1 z1]), (γ1_2, cel [e0 x2, e1 x2, e0 y2, e1 y2, e0 z2, e1 z2]), (γ1_3, cel [0, 0, 0, 0, 0, 0]), (0, dtab)] ∧ _) := zS H5 hM (Nat.le_refl _) hl [21, 22, 23] rfl (by decide)
 have o6_21 := zP H5 hM (Nat.le_refl _) hl (i := 21) rfl
 have o6_22 := zP H5 hM (Nat.le_refl _) hl (i := 22) rfl
 have o6_23 := zP H5 hM (Nat.le_refl _) hl (i := 23) rfl
 clear hM hl l H5
 generalize γ 21 = γ6_21 at H6 o6_21 ⊢
 generalize γ 22 = γ6_22 at H6 o6_22 ⊢
 generalize γ 23 = γ6_23 at H6 o6_23 ⊢
 clear γ
 refine zG rfl (zA (wp_seq ?_))
 refine zY 16 [.quiet (PT γ1_0 0), .quiet (PT γ1_0 1), .quiet (.func (.func 104) #[] #[]), .quiet (V [e0 v2, e1 v2]), .quiet (V [e0 v23, e1 v23]), .call (V [e0 v24, e1 v24]), .quiet (PT γ1_0 0), .quiet (PT γ1_0 0), .quiet (.func (.func 103) #[] #[]), .quiet (V [e0 v2, e1 v2]), .quiet (V [e0 v23, e1 v23]), .call (V [e0 v25, e1 v25]), .made (cel [0, 0]) 40, .made (cel [0, 0]) 40, .laid 12 (cel [0, 0]) (cel [e0 v24, e1 v24]), .laid 13 (cel [0, 0]) (cel [e0 v25, e1 v25])] (sB H6) ?ho7 ?he7 (hL := ?hL7)
 case hL7 => exact ⟨⟨_, rfl⟩, ⟨_, rfl⟩, trivial⟩
 case ho7 => exact ag (ag (aq (fun w' h => lC h 9 Tryz.isAgg93) (aq (fun w' h => lA 0 2 h 7 Tryz.isAgg40 Tryz.sizeOf40) (aq (fun w' h => lA 0 2 h 2 Tryz.isAgg40 Tryz.sizeOf40) (ac (fun w' h => ⟨104, #[V [e0 v2, e1 v2], V [e0 v23, e1 v23]], zO rfl call104 rfl (zX rfl) rfl, C.ks HV24.out w' (h.one 13 rfl)⟩) (ag (ag (aq (fun w' h => lC h 9 Tryz.isAgg93) (aq (fun w' h => lA 0 2 h 7 Tryz.isAgg40 Tryz.sizeOf40) (aq (fun w' h => lA 0 2 h 2 Tryz.isAgg40 Tryz.sizeOf40) (ac (fun w' h => ⟨103, #[V [e0 v2, e1 v2], V [e0 v23, e1 v23]], zO rfl call103 rfl (zX rfl) rfl, C.ka HV25.out w' (h.one 13 rfl)⟩) (ak (fun γ => ⟨rfl, fun w' => ex_madeE2 rfl⟩) (ak (fun γ => ⟨rfl, fun w' => ex_madeE2 rfl⟩) (ak (fun γ => ⟨rfl, rfl, rfl, fun w' h => ex_laidA h rfl Tryz.sizeOf40 rfl rfl rfl⟩) (ak (fun γ => ⟨rfl, rfl, rfl, fun w' h => ex_laidA h rfl Tryz.sizeOf40 rfl rfl rfl⟩) trivial)))))))))))))))
 intro γ w7 l hM hl
 have H7 : Hid (Mm w7 [(γ 12, cel [e0 v24, e1 v24]), (γ 13, cel [e0 v25, e1 v25]), (γ6_21, cel [e0 v19, e1 v19]), (γ6_22, cel [e0 v21, e1 v21]), (γ6_23, cel [e0 v23, e1 v23]), (γ5_30, cel [e0 v18, e1 v18]), (γ4_30, cel [e0 v13, e1 v13]), (γ3_30, cel [e0 v8, e1 v8]), (γ2_24, cel [e0 v1, e1 v1]), (γ2_25, cel [e0 v2, e1 v2]), (γ2_26, cel [e0 v3, e1 v3]), (γ1_0, G2 tn (e0 u) (e1 u) (e0 b) (e1 b)), (γ1_1, cel [e0 x1, e1 x1, e0 y1, e1 y1, e0 z1, e1 z1]), (γ1_2, cel [e0 x2, e1 x2, e0 y2, e1 y2, e0 z2, e1 z2]), (γ1_3, cel [0, 0, 0, 0, 0, 0]), (0, dtab)] ∧ _) := zS H6 hM (Nat.le_refl _) hl [12, 13] rfl (by decide)
 have o7_12 := zP H6 hM (Nat.le_refl _) hl (i := 12) rfl
 have o7_13 := zP H6 hM (Nat.le_refl _) hl (i := 13) rfl
 clear hM hl l H6
 generalize γ 12 = γ7_12 at H7 o7_12 ⊢
 generalize γ 13 = γ7_13 at H7 o7_13 ⊢
 clear γ
 refine zG rfl (zA (wp_seq ?_))
 refine yC 49 [.quiet (PT γ1_0 0), .quiet (PT γ1_0 1), .quiet (.func (.func 104) #[] #[]), .quiet (PT γ1_0 0), .quiet (PT γ1_0 2), .quiet (.func (.func 105) #[] #[]), .quiet (V [e0 v24, e1 v24]), .quiet (V [e0 v8, e1 v8]), .call (V [e0 v26, e1 v26]), .quiet (PT γ1_0 0), .quiet (PT γ1_0 2), .quiet (.func (.func 105) #[] #[]), .quiet (V [e0 v13, e1 v13]), .quiet (V [e0 v21, e1 v21]), .call (V [e0 v27, e1 v27]), .call (V [e0 v28, e1 v28]), .quiet (PT γ1_0 0), .quiet (PT γ1_0 0), .quiet (.func (.func 103) #[] #[]), .quiet (PT γ1_0 0), .quiet (PT γ1_0 2), .quiet (.func (.func 105) #[] #[]), .quiet (V [e0 v24, e1 v24]), .quiet (V [e0 v25, e1 v25]), .call (V [e0 v29, e1 v29]), .quiet (PT γ1_0 0), .quiet (PT γ1_0 2), .quiet (.func (.func 105) #[] #[]), .quiet (V [e0 v19, e1 v19]), .quiet (V [e0 v21, e1 v21]), .call (V [e0 v30, e1 v30]), .call (V [e0 v31, e1 v31]), .quiet (PT γ1_0 0), .quiet (PT γ1_0 0), .quiet (.func (.func 103) #[] #[]), .quiet (PT γ1_0 0), .quiet (PT γ1_0 2), .quiet (.func (.func 105) #[] #[]), .quiet (V [e0 v25, e1 v25]), .quiet (V [e0 v13, e1 v13]), .call (V [e0 v32, e1 v32]), .quiet (PT γ1_0 0), .quiet (PT γ1_0 2), .quiet (.func (.func 105) #[] #[]), .quiet (V [e0 v19, e1 v19]), .quiet (V [e0 v8, e1 v8]), .call (V [e0 v33, e1 v33]), .call (V [e0 v34, e1 v34]), .quiet (V [e0 v28, e1 v28, e0 v31, e1 v31, e0 v34, e1 v34])] H7 ?ho8 ?he8 (hL := ?hL8)
 case hL8 => exact trivial
 case ho8 => exact ag (ag (aq (fun w' h => lC h 11 Tryz.isAgg93) (ag (ag (aq (fun w' h => lC h 11 Tryz.isAgg93) (aq (fun w' h => lA 0 2 h 0 Tryz.isAgg40 Tryz.sizeOf40) (aq (fun w' h => lA 0 2 h 7 Tryz.isAgg40 Tryz.sizeOf40) (ac (fun w' h => ⟨105, #[V [e0 v24, e1 v24], V [e0 v8, e1 v8]], zO rfl call105 rfl (zX rfl) rfl, C.km HV26.out w' (h.one 15 rfl)⟩) (ag (ag (aq (fun w' h => lC h 11 Tryz.isAgg93) (aq (fun w' h => lA 0 2 h 6 Tryz.isAgg40 Tryz.sizeOf40) (aq (fun w' h => lA 0 2 h 3 Tryz.isAgg40 Tryz.sizeOf40) (ac (fun w' h => ⟨105, #[V [e0 v13, e1 v13], V [e0 v21, e1 v21]], zO rfl call105 rfl (zX rfl) rfl, C.km HV27.out w' (h.one 15 rfl)⟩) (ac (fun w' h => ⟨104, #[V [e0 v26, e1 v26], V [e0 v27, e1 v27]], zO rfl call104 rfl (zX rfl) rfl, C.ks HV28.out w' (h.one 15 rfl)⟩) (ag (ag (aq (fun w' h => lC h 11 Tryz.isAgg93) (ag (ag (aq (fun w' h => lC h 11 Tryz.isAgg93) (aq (fun w' h => lA 0 2 h 0 Tryz.isAgg40 Tryz.sizeOf40) (aq (fun w' h => lA 0 2 h 1 Tryz.isAgg40 Tryz.sizeOf40) (ac (fun w' h => ⟨105, #[V [e0 v24, e1 v24], V [e0 v25, e1 v25]], zO rfl call105 rfl (zX rfl) rfl, C.km HV29.out w' (h.one 15 rfl)⟩) (ag (ag (aq (fun w' h => lC h 11 Tryz.isAgg93) (aq (fun w' h => lA 0 2 h 2 Tryz.isAgg40 Tryz.sizeOf40) (aq (fun w' h => lA 0 2 h 3 Tryz.isAgg40 Tryz.sizeOf40) (ac (fun w' h => ⟨105, #[V [e0 v19, e1 v19], V [e0 v21, e1 v21]], zO rfl call105 rfl (zX rfl) rfl, C.km HV30.out w' (h.one 15 rfl)⟩) (ac (fun w' h => ⟨103, #[V [e0 v29, e1 v29], V [e0 v30, e1 v30]], zO rfl call103 rfl (zX rfl) rfl, C.ka HV31.out w' (h.one 15 rfl)⟩) (ag (ag (aq (fun w' h => lC h 11 Tryz.isAgg93) (ag (ag (aq (fun w' h => lC h 11 Tryz.isAgg93) (aq (fun w' h => lA 0 2 h 1 Tryz.isAgg40 Tryz.sizeOf40) (aq (fun w' h => lA 0 2 h 6 Tryz.isAgg40 Tryz.sizeOf40) (ac (fun w' h => ⟨105, #[V [e0 v25, e1 v25], V [e0 v13, e1 v13]], zO rfl call105 rfl (zX rfl) rfl, C.km HV32.out w' (h.one 15 rfl)⟩) (ag (ag (aq (fun w' h => lC h 11 Tryz.isAgg93) (aq (fun w' h => lA 0 2 h 2 Tryz.isAgg40 Tryz.sizeOf40) (aq (fun w' h => lA 0 2 h 7 Tryz.isAgg40 Tryz.sizeOf40) (ac (fun w' h => ⟨105, #[V [e0 v19, e1 v19], V [e0 v8, e1 v8]], zO rfl call105 rfl (zX rfl) rfl, C.km HV33.out w' (h.one 15 rfl)⟩) (ac (fun w' h => ⟨103, #[V [e0 v32, e1 v32], V [e0 v33, e1 v33]], zO rfl call103 rfl (zX rfl) rfl, C.ka HV34.out w' (h.one 15 rfl)⟩) (ak (fun γ => ⟨rfl, fun w' _ => ex_buildTE rfl rfl rfl rfl⟩) trivial))))))))))))))))))))))))))))))))))))))))))))))))
 intro _ w8 H8
 clear H7
 refine zJ (l := [49]) rfl ?_
 refine zI rfl rfl rfl (zT (i := 0) (ms := [e0 v28, e1 v28, e0 v31, e1 v31, e0 v34, e1 v34]) H8.out.1 14 rfl rfl rfl rfl Tryz.sizeOf139 (Nat.le_of_ble_eq_true rfl)) ?_
 have H9 : Hid (Mm (w8.setCells γ1_3 (6 * 0) (cel [e0 v28, e1 v28, e0 v31, e1 v31, e0 v34, e1 v34])) [(γ7_12, cel [e0 v24, e1 v24]), (γ7_13, cel [e0 v25, e1 v25]), (γ6_21, cel [e0 v19, e1 v19]), (γ6_22, cel [e0 v21, e1 v21]), (γ6_23, cel [e0 v23, e1 v23]), (γ5_30, cel [e0 v18, e1 v18]), (γ4_30, cel [e0 v13, e1 v13]), (γ3_30, cel [e0 v8, e1 v8]), (γ2_24, cel [e0 v1, e1 v1]), (γ2_25, cel [e0 v2, e1 v2]), (γ2_26, cel [e0 v3, e1 v3]), (γ1_0, G2 tn (e0 u) (e1 u) (e0 b) (e1 b)), (γ1_1, cel [e0 x1, e1 x1, e0 y1, e1 y1, e0 z1, e1 z1]), (γ1_2, cel [e0 x2, e1 x2, e0 y2, e1 y2, e0 z2, e1 z2]), (γ1_3, cel [e0 v28, e1 v28, e0 v31, e1 v31, e0 v34, e1 v34]), (0, dtab)] ∧ Below w.heap.size w (w8.setCells γ1_3 (6 * 0) (cel [e0 v28, e1 v28, e0 v31, e1 v31, e0 v34, e1 v34]))) := ⟨by
  have h := H8.out.1.put 14 (off := 6 * 0) (vs := cel [e0 v28, e1 v28, e0 v31, e1 v31, e0 v34, e1 v34]) rfl (by simp only [cel_len]; exact Nat.le_of_ble_eq_true rfl)
  rw [zU] at h
  exact h, zF _ o1_3.out _ _ _ H8.out.2⟩
 clear H8
 generalize hgw : World.setCells _ _ _ _ = w9 at H9 ⊢
 clear hgw
 refine zH (zA (wp_ret ?_))
 repeat (first | refine zM ?_ | refine zK ?_)
 have hf0 := cel_var (k := 6) H9.out.1 14 rfl Tryz.isAgg139 Tryz.sizeOf139 rfl
 refine bodyPost_ret (v := V [e0 v28, e1 v28, e0 v31, e1 v31, e0 v34, e1 v34]) (by simp [results, Tryz.results114, asAddr, hf0]) rfl ?_
 exact ⟨rfl, H9.out.2⟩
end Rg
end Go.Proofs.YtaomlijondiaoaaGreatDoor
end
section
namespace Go.Proofs.YtaomlijondiaoaaGreatDoor
open Go.RowKit
namespace Rg
theorem checkZ_2 {α : Type} {e0 e1 : α → Nat} {fa fs fm : α → α → α} {fi : α → α} {z u b : α} {tn : Value} (_C : Fd2 e0 e1 fa fs fm fi z) (x0 x1 y0 y1 : Nat) (be : Bool) (he : ∀ w, (Op.equalIn 10000 104 (.agg (cel [x0, x1, y0, y1] ++ [Value.bool true]).toArray) (.agg (cel [0, 0, 0, 0] ++ [Value.bool true]).toArray)).run Tryz.prog w = .ok be w) (w : World) (hm : Mm w [(0, dtab)]) :
  Calls Tryz.prog 63 #[.agg (G2 tn (e0 u) (e1 u) (e0 b) (e1 b)).toArray, .agg (cel [x0, x1, y0, y1] ++ [Value.bool true]).toArray] w (Rt w (.bool be)) := by
 have H0 : Hid (_ ∧ _) := ⟨hm, Below.refl w.heap.size w⟩
 clear hm
 have HE : Hid _ := he
 clear he
 go_enter Tryz.func63, Tryz.ntmps63
 refine wp_seq ?_
 refine zD 3 [.made (G2 tn (e0 u) (e1 u) (e0 b) (e1 b)) 101, .made (cel [x0, x1, y0, y1] ++ [Value.bool true]) 104, .quiet (.bool false)] (sB H0) ?ho1 ?he1
 case ho1 => exact ak (fun γ => ⟨rfl, fun w' => yA rfl rfl⟩) (ak (fun γ => ⟨rfl, fun w' => yA rfl rfl⟩) (ar trivial))
 intro γ w1 l hM hl
 have H1 : Hid (Mm w1 [(γ 0, G2 tn (e0 u) (e1 u) (e0 b) (e1 b)), (γ 1, cel [x0, x1, y0, y1] ++ [Value.bool true]), (0, dtab)] ∧ _) := zS H0 hM (Nat.le_refl _) hl [0, 1] rfl (by decide)
 have o1_0 := zP H0 hM (Nat.le_refl _) hl (i := 0) rfl
 have o1_1 := zP H0 hM (Nat.le_refl _) hl (i := 1) rfl
 clear hM hl l
 generalize γ 0 = γ1_0 at H1 o1_0 ⊢
 generalize γ 1 = γ1_1 at H1 o1_1 ⊢
 clear γ
 refine zG rfl (zA (wp_seq (wp_seq ?_)))
 refine zE 2 [.quiet (PT γ1_1 24), .quiet (.bool true)] H1 ?ho2 ?he2
 case ho2 => exact ag (aq (fun w' h => lC h 1 Tryz.isAgg4) trivial)
 intro _ w2 H2
 clear H1
 refine zG rfl (zA (wp_cond_true rfl (wp_seq ?_)))
 refine zE 4 [.quiet (.agg (cel [x0, x1, y0, y1] ++ [Value.bool true]).toArray), .quiet (.agg (cel [0, 0, 0, 0] ++ [Value.bool true]).toArray), .quiet (.bool be), .quiet (.bool be)] H2 ?ho3 ?he3
 case ho3 => exact aq (fun w' h => lT h 1 Tryz.isAgg104 Tryz.sizeOf104) (ak (fun γ => ⟨rfl, fun w' _ => ex_buildPEt rfl rfl⟩) (ak (fun γ => ⟨rfl, fun w' _ => exec_eqT104 HE.out rfl rfl rfl⟩) (ar trivial)))
 intro _ w3 H3
 clear H2
 refine zG rfl (zA (wp_ret ?_))
 repeat (first | refine zM ?_ | refine zK ?_)
 refine bodyPost_ret (v := .bool be) (by simp [results, Tryz.results63, go_sem, *]) rfl ?_
 exact ⟨rfl, H3.out.2⟩
theorem checkX_2 {α : Type} {e0 e1 : α → Nat} {fa fs fm : α → α → α} {fi : α → α} {z u b : α} {tn : Value} (_C : Fd2 e0 e1 fa fs fm fi z) (x0 x1 y0 y1 : Nat) (cx : ∀ w, Mm w [(0, dtab)] → Calls Tryz.prog 107 #[V [x0, x1]] w (Rt w (.bool false))) (w : World) (hm : Mm w [(0, dtab)]) :
  Calls Tryz.prog 63 #[.agg (G2 tn (e0 u) (e1 u) (e0 b) (e1 b)).toArray, .agg (cel [x0, x1, y0, y1] ++ [Value.bool false]).toArray] w (Rt w (.bool false)) := by
 have H0 : Hid (_ ∧ _) := ⟨hm, Below.refl w.heap.size w⟩
 clear hm
 have CX : Hid _ := cx
 clear cx
 go_enter Tryz.func63, Tryz.ntmps63
 refine wp_seq ?_
 refine zD 3 [.made (G2 tn (e0 u) (e1 u) (e0 b) (e1 b)) 101, .made (cel [x0, x1, y0, y1] ++ [Value.bool false]) 104, .quiet (.bool false)] (sB H0) ?ho1 ?he1
 case ho1 => exact ak (fun γ => ⟨rfl, fun w' => yA rfl rfl⟩) (ak (fun γ => ⟨rfl, fun w' => yA rfl rfl⟩) (ar trivial))
 intro γ w1 l hM hl
 have H1 : Hid (Mm w1 [(γ 0, G2 tn (e0 u) (e1 u) (e0 b) (e1 b)), (γ 1, cel [x0, x1, y0, y1] ++ [Value.bool false]), (0, dtab)] ∧ _) := zS H0 hM (Nat.le_refl _) hl [0, 1] rfl (by decide)
 have o1_0 := zP H0 hM (Nat.le_refl _) hl (i := 0) rfl
 have o1_1 := zP H0 hM (Nat.le_refl _) hl (i := 1) rfl
 clear hM hl l
 generalize γ 0 = γ1_0 at H1 o1_0 ⊢
 generalize γ 1 = γ1_1 at H1 o1_1 ⊢
 clear γ
 refine zG rfl (zA (wp_seq (wp_seq ?_)))
 refine zE 2 [.quiet (PT γ1_1 24), .quiet (.bool false)] H1 ?ho2 ?he2
 case ho2 => exact ag (aq (fun w' h => lC h 1 Tryz.isAgg4) trivial)
 intro _ w2 H2
 clear H1
 refine zG rfl (zA (wp_cond_false rfl ?_))
 refine wp_skip (zA (wp_seq ?_))
 refine yC 46 [.quiet (PT γ1_0 0), .quiet (PT γ1_0 4), .quiet (.func (.func 107) #[] #[]), .quiet (PT γ1_1 0), .quiet (V [x0, x1]), .call (.bool false), .quiet (.bool false), .gone, .gone, .gone, .gone, .gone, .gone, .quiet (.bool false), .quiet (.bool false), .gone, .gone, .gone, .gone, .gone, .gone, .gone, .gone, .gone, .gone, .gone, .gone, .gone, .gone, .gone, .gone, .gone, .gone, .gone, .gone, .gone, .gone, .gone, .gone, .gone, .gone, .gone, .gone, .gone, .quiet (.bool false), .quiet (.bool false)] H2 ?ho3 ?he3 (hL := ?hL3)
 case hL3 => exact trivial
 case ho3 => exact ag (ag (aq (fun w' h => lC h 0 Tryz.isAgg96) (ag (aq (fun w' h => lT h 1 Tryz.isAgg40 Tryz.sizeOf40) (ac (fun w' h => ⟨107, #[V [x0, x1]], zO rfl call107 rfl (zX rfl) rfl, CX.out w' (h.one 2 rfl)⟩) (ar (ak (fun γ => rfl) (ak (fun γ => rfl) (ak (fun γ => rfl) (ak (fun γ => rfl) (ak (fun γ => rfl) (ak (fun γ => rfl) (ag (ar (ak (fun γ => rfl) (ak (fun γ => rfl) (ak (fun γ => rfl) (ak (fun γ => rfl) (ak (fun γ => rfl) (ak (fun γ => rfl) (ak (fun γ => rfl) (ak (fun γ => rfl) (ak (fun γ => rfl) (ak (fun γ => rfl) (ak (fun γ => rfl) (ak (fun γ => rfl) (ak (fun γ => rfl) (ak (fun γ => rfl) (ak (fun γ => rfl) (ak (fun γ => rfl) (ak (fun γ => rfl) (ak (fun γ => rfl) (ak (fun γ => rfl) (ak (fun γ => rfl) (ak (fun γ => rfl) (ak (fun γ => rfl) (ak (fun γ => rfl) (ak (fun γ => rfl) (ak (fun γ => rfl) (ak (fun γ => rfl) (ak (fun γ => rfl) (ak (fun γ => rfl) (ak (fun γ => rfl) (ag (ar trivial)))))))))))))))))))))))))))))))))))))))))))))
 intro _ w3 H3
 clear H2
 refine zG rfl (zA (wp_ret ?_))
 repeat (first | refine zM ?_ | refine zK ?_)
 refine bodyPost_ret (v := .bool false) (by simp [results, Tryz.results63, go_sem, *]) rfl ?_
 exact ⟨rfl, H3.out.2⟩
theorem checkY_2 {α : Type} {e0 e1 : α → Nat} {fa fs fm : α → α → α} {fi : α → α} {z u b : α} {tn : Value} (_C : Fd2 e0 e1 fa fs fm fi z) (x0 x1 y0 y1 : Nat) (cx : ∀ w, Mm w [(0, dtab)] → Calls Tryz.prog 107 #[V [x0, x1]] w (Rt w (.bool true))) (cy : ∀ w, Mm w [(0, dtab)] → Calls Tryz.prog 107 #[V [y0, y1]] w (Rt w (.bool false))) (w : World) (hm : Mm w [(0, dtab)]) :
  Calls Tryz.prog 63 #[.agg (G2 tn (e0 u) (e1 u) (e0 b) (e1 b)).toArray, .agg (cel [x0, x1, y0, y1] ++ [Value.bool false]).toArray] w (Rt w (.bool false)) := by
 have H0 : Hid (_ ∧ _) := ⟨hm, Below.refl w.heap.size w⟩
 clear hm
 have CX : Hid _ := cx
 clear cx
 have CY : Hid _ := cy
 clear cy
 go_enter Tryz.func63, Tryz.ntmps63
 refine wp_seq ?_
 refine zD 3 [.made (G2 tn (e0 u) (e1 u) (e0 b) (e1 b)) 101, .made (cel [x0, x1, y0, y1] ++ [Value.bool false]) 104, .quiet (.bool false)] (sB H0) ?ho1 ?he1
 case ho1 => exact ak (fun γ => ⟨rfl, fun w' => yA rfl rfl⟩) (ak (fun γ => ⟨rfl, fun w' => yA rfl rfl⟩) (ar trivial))
 intro γ w1 l hM hl
 have H1 : Hid (Mm w1 [(γ 0, G2 tn (e0 u) (e1 u) (e0 b) (e1 b)), (γ 1, cel [x0, x1, y0, y1] ++ [Value.bool false]), (0, dtab)] ∧ _) := zS H0 hM (Nat.le_refl _) hl [0, 1] rfl (by decide)
 have o1_0 := zP H0 hM (Nat.le_refl _) hl (i := 0) rfl
 have o1_1 := zP H0 hM (Nat.le_refl _) hl (i := 1) rfl
 clear hM hl l
 generalize γ 0 = γ1_0 at H1 o1_0 ⊢
 generalize γ 1 = γ1_1 at H1 o1_1 ⊢
 clear γ
 refine zG rfl (zA (wp_seq (wp_seq ?_)))
 refine zE 2 [.quiet (PT γ1_1 24), .quiet (.bool false)] H1 ?ho2 ?he2
 case ho2 => exact ag (aq (fun w' h => lC h 1 Tryz.isAgg4) trivial)
 intro _ w2 H2
 clear H1
 refine zG rfl (zA (wp_cond_false rfl ?_))
 refine wp_skip (zA (wp_seq ?_))
 refine yC 46 [.quiet (PT γ1_0 0), .quiet (PT γ1_0 4), .quiet (.func (.func 107) #[] #[]), .quiet (PT γ1_1 0), .quiet (V [x0, x1]), .call (.bool true), .quiet (.bool true), .quiet (PT γ1_0 0), .quiet (PT γ1_0 4), .quiet (.func (.func 107) #[] #[]), .quiet (PT γ1_1 12), .quiet (V [y0, y1]), .call (.bool false), .quiet (.bool false), .quiet (.bool false), .gone, .gone, .gone, .gone, .gone, .gone, .gone, .gone, .gone, .gone, .gone, .gone, .gone, .gone, .gone, .gone, .gone, .gone, .gone, .gone, .gone, .gone, .gone, .gone, .gone, .gone, .gone, .gone, .gone, .quiet (.bool false), .quiet (.bool false)] H2 ?ho3 ?he3 (hL := ?hL3)
 case hL3 => exact trivial
 case ho3 => exact ag (ag (aq (fun w' h => lC h 0 Tryz.isAgg96) (ag (aq (fun w' h => lT h 1 Tryz.isAgg40 Tryz.sizeOf40) (ac (fun w' h => ⟨107, #[V [x0, x1]], zO rfl call107 rfl (zX rfl) rfl, CX.out w' (h.one 2 rfl)⟩) (ar (ag (ag (aq (fun w' h => lC h 0 Tryz.isAgg96) (ag (aq (fun w' h => lT h 1 Tryz.isAgg40 Tryz.sizeOf40) (ac (fun w' h => ⟨107, #[V [y0, y1]], zO rfl call107 rfl (zX rfl) rfl, CY.out w' (h.one 2 rfl)⟩) (ag (ar (ak (fun γ => rfl) (ak (fun γ => rfl) (ak (fun γ => rfl) (ak (fun γ => rfl) (ak (fun γ => rfl) (ak (fun γ => rfl) (ak (fun γ => rfl) (ak (fun γ => rfl) (ak (fun γ => rfl) (ak (fun γ => rfl) (ak (fun γ => rfl) (ak (fun γ => rfl) (ak (fun γ => rfl) (ak (fun γ => rfl) (ak (fun γ => rfl) (ak (fun γ => rfl) (ak (fun γ => rfl) (ak (fun γ => rfl) (ak (fun γ => rfl) (ak (fun γ => rfl) (ak (fun γ => rfl) (ak (fun γ => rfl) (ak (fun γ => rfl) (ak (fun γ => rfl) (ak (fun γ => rfl) (ak (fun γ => rfl) (ak (fun γ => rfl) (ak (fun γ => rfl) (ak (fun γ => rfl) (ag (ar trivial)))))))))))))))))))))))))))))))))))))))))))))
 intro _ w3 H3
 clear H2
 refine zG rfl (zA (wp_ret ?_))
 repeat (first | refine zM ?_ | refine zK ?_)
 refine bodyPost_ret (v := .bool false) (by simp [results, Tryz.results63, go_sem, *]) rfl ?_
 exact ⟨rfl, H3.out.2⟩
set_option maxHeartbeats 4000000 in
theorem checkB_2 {α : Type} {e0 e1 : α → Nat} {fa fs fm : α → α → α} {fi : α → α} {z u b : α} {tn : Value} (C : Fd2 e0 e1 fa fs fm fi z) (x y : α) (be : Bool) (cx : ∀ w, Mm w [(0, dtab)] → Calls Tryz.prog 107 #[V [e0 x, e1 x]] w (Rt w (.bool true))) (cy : ∀ w, Mm w [(0, dtab)] → Calls Tryz.prog 107 #[V [e0 y, e1 y]] w (Rt w (.bool true))) (he : ∀ w, (Op.equalIn 10000 40 (V [e0 (fm y y), e1 (fm y y)]) (V [e0 (fa (fm x (fm x x)) b), e1 (fa (fm x (fm x x)) b)])).run Tryz.prog w = .ok be w) (w : World) (hm : Mm w [(0, dtab)]) :
  Calls Tryz.prog 63 #[.agg (G2 tn (e0 u) (e1 u) (e0 b) (e1 b)).toArray, .agg (cel [e0 x, e1 x, e0 y, e1 y] ++ [Value.bool false]).toArray] w (Rt w (.bool be)) := by
 have H0 : Hid (_ ∧ _) := ⟨hm, Below.refl w.heap.size w⟩
 clear hm
 have CX : Hid _ := cx
 clear cx
 have CY : Hid _ := cy
 clear cy
 have HE : Hid _ := he
 clear he
 go_enter Tryz.func63, Tryz.ntmps63
 refine wp_seq ?_
 refine zD 3 [.made (G2 tn (e0 u) (e1 u) (e0 b) (e1 b)) 101, .made (cel [e0 x, e1 x, e0 y, e1 y] ++ [Value.bool false]) 104, .quiet (.bool false)] (sB H0) ?ho1 ?he1
 case ho1 => exact ak (fun γ => ⟨rfl, fun w' => yA rfl rfl⟩) (ak (fun γ => ⟨rfl, fun w' => yA rfl rfl⟩) (ar trivial))
 intro γ w1 l hM hl
 have H1 : Hid (Mm w1 [(γ 0, G2 tn (e0 u) (e1 u) (e0 b) (e1 b)), (γ 1, cel [e0 x, e1 x, e0 y, e1 y] ++ [Value.bool false]), (0, dtab)] ∧ _) := zS H0 hM (Nat.le_refl _) hl [0, 1] rfl (by decide)
 have o1_0 := zP H0 hM (Nat.le_refl _) hl (i := 0) rfl
 have o1_1 := zP H0 hM (Nat.le_refl _) hl (i := 1) rfl
 clear hM hl l
 generalize γ 0 = γ1_0 at H1 o1_0 ⊢
 generalize γ 1 = γ1_1 at H1 o1_1 ⊢
 clear γ
 refine zG rfl (zA (wp_seq (wp_seq ?_)))
 refine zE 2 [.quiet (PT γ1_1 24), .quiet (.bool false)] H1 ?ho2 ?he2
 case ho2 => exact ag (aq (fun w' h => lC h 1 Tryz.isAgg4) trivial)
 intro _ w2 H2
 clear H1
 refine zG rfl (zA (wp_cond_false rfl ?_))
 refine wp_skip (zA (wp_seq ?_))
 refine yC 46 [.quiet (PT γ1_0 0), .quiet (PT γ1_0 4), .quiet (.func (.func 107) #[] #[]), .quiet (PT γ1_1 0), .quiet (V [e0 x, e1 x]), .call (.bool true), .quiet (.bool true), .quiet (PT γ1_0 0), .quiet (PT γ1_0 4), .quiet (.func (.func 107) #[] #[]), .quiet (PT γ1_1 12), .quiet (V [e0 y, e1 y]), .call (.bool true), .quiet (.bool true), .quiet (.bool true), .quiet (PT γ1_0 0), .quiet (PT γ1_0 2), .quiet (.func (.func 105) #[] #[]), .quiet (PT γ1_1 12), .quiet (V [e0 y, e1 y]), .quiet (PT γ1_1 12), .quiet (V [e0 y, e1 y]), .call (V [e0 (fm y y), e1 (fm y y)]), .quiet (PT γ1_0 0), .quiet (PT γ1_0 0), .quiet (.func (.func 103) #[] #[]), .quiet (PT γ1_0 0), .quiet (PT γ1_0 2), .quiet (.func (.func 105) #[] #[]), .quiet (PT γ1_1 0), .quiet (V [e0 x, e1 x]), .quiet (PT γ1_0 0), .quiet (PT γ1_0 2), .quiet (.func (.func 105) #[] #[]), .quiet (PT γ1_1 0), .quiet (V [e0 x, e1 x]), .quiet (PT γ1_1 0), .quiet (V [e0 x, e1 x]), .call (V [e0 (fm x x), e1 (fm x x)]), .call (V [e0 (fm x (fm x x)), e1 (fm x (fm x x))]), .quiet (PT γ1_0 17), .quiet (V [e0 b, e1 b]), .call (V [e0 (fa (fm x (fm x x)) b), e1 (fa (fm x (fm x x)) b)]), .quiet (.bool be), .quiet (.bool be), .quiet (.bool be)] H2 ?ho3 ?he3 (hL := ?hL3)
 case hL3 => exact trivial
 case ho3 => exact ag (ag (aq (fun w' h => lC h 0 Tryz.isAgg96) (ag (aq (fun w' h => lT h 1 Tryz.isAgg40 Tryz.sizeOf40) (ac (fun w' h => ⟨107, #[V [e0 x, e1 x]], zO rfl call107 rfl (zX rfl) rfl, CX.out w' (h.one 2 rfl)⟩) (ar (ag (ag (aq (fun w' h => lC h 0 Tryz.isAgg96) (ag (aq (fun w' h => lT h 1 Tryz.isAgg40 Tryz.sizeOf40) (ac (fun w' h => ⟨107, #[V [e0 y, e1 y]], zO rfl call107 rfl (zX rfl) rfl, CY.out w' (h.one 2 rfl)⟩) (ag (ar (ag (ag (aq (fun w' h => lC h 0 Tryz.isAgg93) (ag (aq (fun w' h => lT h 1 Tryz.isAgg40 Tryz.sizeOf40) (ag (aq (fun w' h => lT h 1 Tryz.isAgg40 Tryz.sizeOf40) (ac (fun w' h => ⟨105, #[V [e0 y, e1 y], V [e0 y, e1 y]], zO rfl call105 rfl (zX rfl) rfl, C.cm _ _ w' (h.one 2 rfl)⟩) (ag (ag (aq (fun w' h => lC h 0 Tryz.isAgg93) (ag (ag (aq (fun w' h => lC h 0 Tryz.isAgg93) (ag (aq (fun w' h => lT h 1 Tryz.isAgg40 Tryz.sizeOf40) (ag (ag (aq (fun w' h => lC h 0 Tryz.isAgg93) (ag (aq (fun w' h => lT h 1 Tryz.isAgg40 Tryz.sizeOf40) (ag (aq (fun w' h => lT h 1 Tryz.isAgg40 Tryz.sizeOf40) (ac (fun w' h => ⟨105, #[V [e0 x, e1 x], V [e0 x, e1 x]], zO rfl call105 rfl (zX rfl) rfl, C.cm _ _ w' (h.one 2 rfl)⟩) (ac (fun w' h => ⟨105, #[V [e0 x, e1 x], V [e0 (fm x x), e1 (fm x x)]], zO rfl call105 rfl (zX rfl) rfl, C.cm _ _ w' (h.one 2 rfl)⟩) (ag (aq (fun w' h => lT h 0 Tryz.isAgg40 Tryz.sizeOf40) (ac (fun w' h => ⟨103, #[V [e0 (fm x (fm x x)), e1 (fm x (fm x x))], V [e0 b, e1 b]], zO rfl call103 rfl (zX rfl) rfl, C.ca _ _ w' (h.one 2 rfl)⟩) (ak (fun γ => ⟨rfl, fun w' _ => exec_eqT40 HE.out rfl rfl rfl⟩) (ag (ar trivial)))))))))))))))))))))))))))))))))))))))))))))
 intro _ w3 H3
 clear H2
 refine zG rfl (zA (wp_ret ?_))
 repeat (first | refine zM ?_ | refine zK ?_)
 refine bodyPost_ret (v := .bool be) (by simp [results, Tryz.results63, go_sem, *]) rfl ?_
 exact ⟨rfl, H3.out.2⟩
theorem negY_2 {α : Type} {e0 e1 : α → Nat} {fa fs fm : α → α → α} {fi : α → α} {z u b : α} {tn : Value} (C : Fd2 e0 e1 fa fs fm fi z) (x0 x1 : Nat) (y : α) (zb : Bool) (ck : ∀ w, Mm w [(0, dtab)] → Calls Tryz.prog 63 #[.agg (G2 tn (e0 u) (e1 u) (e0 b) (e1 b)).toArray, .agg (cel [x0, x1, e0 y, e1 y] ++ [Value.bool zb]).toArray] w (Rt w (.bool true))) (w : World) (hm : Mm w [(0, dtab)]) :
  Calls Tryz.prog 65 #[.agg (G2 tn (e0 u) (e1 u) (e0 b) (e1 b)).toArray, .agg (cel [x0, x1, e0 y, e1 y] ++ [Value.bool zb]).toArray] w (Rt w (.tuple #[.agg (cel [x0, x1, e0 (fs z y), e1 (fs z y)] ++ [Value.bool zb]).toArray, .int .i64 0])) := by
 have H0 : Hid (_ ∧ _) := ⟨hm, Below.refl w.heap.size w⟩
 clear hm
 have CK : Hid _ := ck
 clear ck
 go_enter Tryz.func65, Tryz.ntmps65
 refine wp_seq ?_
 refine zD 4 [.made (G2 tn (e0 u) (e1 u) (e0 b) (e1 b)) 101, .made (cel [x0, x1, e0 y, e1 y] ++ [Value.bool zb]) 104, .made (cel [0, 0, 0, 0] ++ [Value.bool false]) 104, .quiet (.int .i64 0)] (sB H0) ?ho1 ?he1
 case ho1 => exact ak (fun γ => ⟨rfl, fun w' => yA rfl rfl⟩) (ak (fun γ => ⟨rfl, fun w' => yA rfl rfl⟩) (ak (fun γ => ⟨rfl, fun w' => ex_madePE rfl⟩) (ar trivial)))
 intro γ w1 l hM hl
 have H1 : Hid (Mm w1 [(γ 0, G2 tn (e0 u) (e1 u) (e0 b) (e1 b)), (γ 1, cel [x0, x1, e0 y, e1 y] ++ [Value.bool zb]), (γ 2, cel [0, 0, 0, 0] ++ [Value.bool false]), (0, dtab)] ∧ _) := zS H0 hM (Nat.le_refl _) hl [0, 1, 2] rfl (by decide)
 have o1_0 := zP H0 hM (Nat.le_refl _) hl (i := 0) rfl
 have o1_1 := zP H0 hM (Nat.le_refl _) hl (i := 1) rfl
 have o1_2 := zP H0 hM (Nat.le_refl _) hl (i := 2) rfl
 clear hM hl l
 generalize γ 0 = γ1_0 at H1 o1_0 ⊢
 generalize γ 1 = γ1_1 at H1 o1_1 ⊢
 generalize γ 2 = γ1_2 at H1 o1_2 ⊢
 clear γ
 refine zG rfl (zA (wp_seq (wp_seq ?_)))
 refine zE 4 [.quiet (.agg (G2 tn (e0 u) (e1 u) (e0 b) (e1 b)).toArray), .quiet (.agg (cel [x0, x1, e0 y, e1 y] ++ [Value.bool zb]).toArray), .call (.bool true), .quiet (.bool false)] H1 ?ho2 ?he2
 case ho2 => exact aq (fun w' h => lT h 0 Tryz.isAgg101 Tryz.sizeOf101) (aq (fun w' h => lT h 1 Tryz.isAgg104 Tryz.sizeOf104) (ac (fun w' h => ⟨63, #[.agg (G2 tn (e0 u) (e1 u) (e0 b) (e1 b)).toArray, .agg (cel [x0, x1, e0 y, e1 y] ++ [Value.bool zb]).toArray], zC rfl call63 rfl (zX rfl), CK.out w' (h.one 3 rfl)⟩) (ag trivial)))
 intro _ w2 H2
 clear H1
 refine zG rfl (zA (wp_cond_false rfl ?_))
 refine wp_skip (zA (wp_seq ?_))
 refine zE 5 [.quiet (.agg (G2 tn (e0 u) (e1 u) (e0 b) (e1 b)).toArray), .quiet (PT γ1_1 12), .quiet (V [e0 y, e1 y]), .call (V [e0 (fs z y), e1 (fs z y)]), .quiet (PT γ1_1 12)] H2 ?ho3 ?he3
 case ho3 => exact aq (fun w' h => lT h 0 Tryz.isAgg101 Tryz.sizeOf101) (ag (aq (fun w' h => lT h 1 Tryz.isAgg40 Tryz.sizeOf40) (ac (fun w' h => ⟨112, #[.agg (G2 tn (e0 u) (e1 u) (e0 b) (e1 b)).toArray, V [e0 y, e1 y]], zC rfl call112 rfl (zX rfl), minus_2 C _ w' (h.one 3 rfl)⟩) (ag trivial))))
 intro _ w3 H3
 clear H2
 refine zJ (l := [5]) rfl ?_
 refine zI rfl rfl rfl (ex_storeT (vs := cel [e0 (fs z y), e1 (fs z y)]) H3.out.1 1 rfl rfl rfl rfl Tryz.sizeOf40 rfl (Nat.le_of_ble_eq_true rfl)) ?_
 have H4 : Hid (Mm (w3.setCells γ1_1 12 (cel [e0 (fs z y), e1 (fs z y)])) [(γ1_0, G2 tn (e0 u) (e1 u) (e0 b) (e1 b)), (γ1_1, cel [x0, x1, e0 (fs z y), e1 (fs z y)] ++ [Value.bool zb]), (γ1_2, cel [0, 0, 0, 0] ++ [Value.bool false]), (0, dtab)] ∧ Below w.heap.size w (w3.setCells γ1_1 12 (cel [e0 (fs z y), e1 (fs z y)]))) := ⟨H3.out.1.put 1 (off := 12) (vs := cel [e0 (fs z y), e1 (fs z y)]) rfl (Nat.le_of_ble_eq_true rfl), zF _ o1_1.out _ _ _ H3.out.2⟩
 clear H3
 generalize hgw : World.setCells _ _ _ _ = w4 at H4 ⊢
 clear hgw
 refine zH (zA (wp_seq ?_))
 refine zE 1 [.quiet (.agg (cel [x0, x1, e0 (fs z y), e1 (fs z y)] ++ [Value.bool zb]).toArray)] H4 ?ho4 ?he4
 case ho4 => exact aq (fun w' h => lT h 1 Tryz.isAgg104 Tryz.sizeOf104) trivial
 intro _ w5 H5
 clear H4
 refine zJ (l := [1, 2]) rfl ?_
 refine zI rfl rfl rfl (ex_storeT (vs := cel [x0, x1, e0 (fs z y), e1 (fs z y)] ++ [Value.bool zb]) H5.out.1 2 rfl rfl rfl rfl Tryz.sizeOf104 rfl (Nat.le_of_ble_eq_true rfl)) ?_
 have H6 : Hid (Mm (w5.setCells γ1_2 0 (cel [x0, x1, e0 (fs z y), e1 (fs z y)] ++ [Value.bool zb])) [(γ1_0, G2 tn (e0 u) (e1 u) (e0 b) (e1 b)), (γ1_1, cel [x0, x1, e0 (fs z y), e1 (fs z y)] ++ [Value.bool zb]), (γ1_2, cel [x0, x1, e0 (fs z y), e1 (fs z y)] ++ [Value.bool zb]), (0, dtab)] ∧ Below w.heap.size w (w5.setCells γ1_2 0 (cel [x0, x1, e0 (fs z y), e1 (fs z y)] ++ [Value.bool zb]))) := ⟨H5.out.1.put 2 (off := 0) (vs := cel [x0, x1, e0 (fs z y), e1 (fs z y)] ++ [Value.bool zb]) rfl (Nat.le_of_ble_eq_true rfl), zF _ o1_2.out _ _ _ H5.out.2⟩
 clear H5
 generalize hgw : World.setCells _ _ _ _ = w6 at H6 ⊢
 clear hgw
 refine zN (d := 5) rfl rfl rfl rfl ?_
 simp only [Act.put, sa, sz, ss]
 refine zH (zA (wp_ret ?_))
 repeat (first | refine zM ?_ | refine zK ?_)
 have hf0 := var_T H6.out.1 2 rfl Tryz.isAgg104 Tryz.sizeOf104 rfl
 refine bodyPost_ret (v := .tuple #[.agg (cel [x0, x1, e0 (fs z y), e1 (fs z y)] ++ [Value.bool zb]).toArray, .int .i64 0]) (by simp [results, Tryz.results65, asAddr, Act.eval, hf0]) rfl ?_
 exact ⟨rfl, H6.out.2⟩
theorem joinY_2 {α : Type} {e0 e1 : α → Nat} {fa fs fm : α → α → α} {fi : α → α} {z u b : α} {tn : Value} (_C : Fd2 e0 e1 fa fs fm fi z) (x0 x1 y0 y1 v0 v1 s0 s1 : Nat) (zb zc zr : Bool) (a1 a2 a3 b1 b2 b3 t1 t2 t3 : α) (r0 r1 k0 k1 : Nat) (ck : ∀ w, Mm w [(0, dtab)] → Calls Tryz.prog 63 #[.agg (G2 tn (e0 u) (e1 u) (e0 b) (e1 b)).toArray, .agg (cel [x0, x1, y0, y1] ++ [Value.bool zb]).toArray] w (Rt w (.bool true))) (cl : ∀ w, Mm w [(0, dtab)] → Calls Tryz.prog 63 #[.agg (G2 tn (e0 u) (e1 u) (e0 b) (e1 b)).toArray, .agg (cel [v0, v1, s0, s1] ++ [Value.bool zc]).toArray] w (Rt w (.bool true))) (cp : ∀ w, Mm w [(0, dtab)] → Calls Tryz.prog 110 #[.agg (G2 tn (e0 u) (e1 u) (e0 b) (e1 b)).toArray, .agg (cel [x0, x1, y0, y1] ++ [Value.bool zb]).toArray] w (Rt w (V [e0 a1, e1 a1, e0 a2, e1 a2, e0 a3, e1 a3]))) (cq : ∀ w, Mm w [(0, dtab)] → Calls Tryz.prog 110 #[.agg (G2 tn (e0 u) (e1 u) (e0 b) (e1 b)).toArray, .agg (cel [v0, v1, s0, s1] ++ [Value.bool zc]).toArray] w (Rt w (V [e0 b1, e1 b1, e0 b2, e1 b2, e0 b3, e1 b3]))) (ct : ∀ w, Mm w [(0, dtab)] → Calls Tryz.prog 114 #[.agg (G2 tn (e0 u) (e1 u) (e0 b) (e1 b)).toArray, V [e0 a1, e1 a1, e0 a2, e1 a2, e0 a3, e1 a3], V [e0 b1, e1 b1, e0 b2, e1 b2, e0 b3, e1 b3]] w (Rt w (V [e0 t1, e1 t1, e0 t2, e1 t2, e0 t3, e1 t3]))) (cw : ∀ w, Mm w [(0, dtab)] → Calls Tryz.prog 113 #[.agg (G2 tn (e0 u) (e1 u) (e0 b) (e1 b)).toArray, V [e0 t1, e1 t1, e0 t2, e1 t2, e0 t3, e1 t3]] w (Rt w (.agg (cel [r0, r1, k0, k1] ++ [Value.bool zr]).toArray))) (w : World) (hm : Mm w [(0, dtab)]) :
  Calls Tryz.prog 66 #[.agg (G2 tn (e0 u) (e1 u) (e0 b) (e1 b)).toArray, .agg (cel [x0, x1, y0, y1] ++ [Value.bool zb]).toArray, .agg (cel [v0, v1, s0, s1] ++ [Value.bool zc]).toArray] w (Rt w (.tuple #[.agg (cel [r0, r1, k0, k1] ++ [Value.bool zr]).toArray, .int .i64 0])) := by
 have H0 : Hid (_ ∧ _) := ⟨hm, Below.refl w.heap.size w⟩
 clear hm
 have CK : Hid _ := ck
 clear ck
 have CL : Hid _ := cl
 clear cl
 have CP : Hid _ := cp
 clear cp
 have CQ : Hid _ := cq
 clear cq
 have CT : Hid _ := ct
 clear ct
 have CW : Hid _ := cw
 clear cw
 go_enter Tryz.func66, Tryz.ntmps66
 refine wp_seq ?_
 refine zD 5 [.made (G2 tn (e0 u) (e1 u) (e0 b) (e1 b)) 101, .made (cel [x0, x1, y0, y1] ++ [Value.bool zb]) 104, .made (cel [v0, v1, s0, s1] ++ [Value.bool zc]) 104, .made (cel [0, 0, 0, 0] ++ [Value.bool false]) 104, .quiet (.int .i64 0)] (sB H0) ?ho1 ?he1
 case ho1 => exact ak (fun γ => ⟨rfl, fun w' => yA rfl rfl⟩) (ak (fun γ => ⟨rfl, fun w' => yA rfl rfl⟩) (ak (fun γ => ⟨rfl, fun w' => yA rfl rfl⟩) (ak (fun γ => ⟨rfl, fun w' => ex_madePE rfl⟩) (ar trivial))))
 intro γ w1 l hM hl
 have H1 : Hid (Mm w1 [(γ 0, G2 tn (e0 u) (e1 u) (e0 b) (e1 b)), (γ 1, cel [x0, x1, y0, y1] ++ [Value.bool zb]), (γ 2, cel [v0, v1, s0, s1] ++ [Value.bool zc]), (γ 3, cel [0, 0, 0, 0] ++ [Value.bool false]), (0, dtab)] ∧ _) := zS H0 hM (Nat.le_refl _) hl [0, 1, 2, 3] rfl (by decide)
 have o1_0 := zP H0 hM (Nat.le_refl _) hl (i := 0) rfl
 have o1_1 := zP H0 hM (Nat.le_refl _) hl (i := 1) rfl
 have o1_2 := zP H0 hM (Nat.le_refl _) hl (i := 2) rfl
 have o1_3 := zP H0 hM (Nat.le_refl _) hl (i := 3) rfl
 clear hM hl l
 generalize γ 0 = γ1_0 at H1 o1_0 ⊢
 generalize γ 1 = γ1_1 at H1 o1_1 ⊢
 generalize γ 2 = γ1_2 at H1 o1_2 ⊢
 generalize γ 3 = γ1_3 at H1 o1_3 ⊢
 clear γ
 refine zG rfl (zA (wp_seq (wp_seq ?_)))
 refine zE 10 [.quiet (.agg (G2 tn (e0 u) (e1 u) (e0 b) (e1 b)).toArray), .quiet (.agg (cel [x0, x1, y0, y1] ++ [Value.bool zb]).toArray), .call (.bool true), .quiet (.bool false), .quiet (.bool false), .quiet (.agg (G2 tn (e0 u) (e1 u) (e0 b) (e1 b)).toArray), .quiet (.agg (cel [v0, v1, s0, s1] ++ [Value.bool zc]).toArray), .call (.bool true), .quiet (.bool false), .quiet (.bool false)] H1 ?ho2 ?he2
 case ho2 => exact aq (fun w' h => lT h 0 Tryz.isAgg101 Tryz.sizeOf101) (aq (fun w' h => lT h 1 Tryz.isAgg104 Tryz.sizeOf104) (ac (fun w' h => ⟨63, #[.agg (G2 tn (e0 u) (e1 u) (e0 b) (e1 b)).toArray, .agg (cel [x0, x1, y0, y1] ++ [Value.bool zb]).toArray], zC rfl call63 rfl (zX rfl), CK.out w' (h.one 4 rfl)⟩) (ag (ar (aq (fun w' h => lT h 0 Tryz.isAgg101 Tryz.sizeOf101) (aq (fun w' h => lT h 2 Tryz.isAgg104 Tryz.sizeOf104) (ac (fun w' h => ⟨63, #[.agg (G2 tn (e0 u) (e1 u) (e0 b) (e1 b)).toArray, .agg (cel [v0, v1, s0, s1] ++ [Value.bool zc]).toArray], zC rfl call63 rfl (zX rfl), CL.out w' (h.one 4 rfl)⟩) (ag (ag trivial)))))))))
 intro _ w2 H2
 clear H1
 refine zG rfl (zA (wp_cond_false rfl ?_))
 refine wp_skip (zA (wp_seq ?_))
 refine yC 10 [.quiet (.agg (G2 tn (e0 u) (e1 u) (e0 b) (e1 b)).toArray), .quiet (.agg (G2 tn (e0 u) (e1 u) (e0 b) (e1 b)).toArray), .quiet (.agg (G2 tn (e0 u) (e1 u) (e0 b) (e1 b)).toArray), .quiet (.agg (cel [x0, x1, y0, y1] ++ [Value.bool zb]).toArray), .call (V [e0 a1, e1 a1, e0 a2, e1 a2, e0 a3, e1 a3]), .quiet (.agg (G2 tn (e0 u) (e1 u) (e0 b) (e1 b)).toArray), .quiet (.agg (cel [v0, v1, s0, s1] ++ [Value.bool zc]).toArray), .call (V [e0 b1, e1 b1, e0 b2, e1 b2, e0 b3, e1 b3]), .call (V [e0 t1, e1 t1, e0 t2, e1 t2, e0 t3, e1 t3]), .call (.agg (cel [r0, r1, k0, k1] ++ [Value.bool zr]).toArray)] H2 ?ho3 ?he3
 case ho3 => exact aq (fun w' h => lT h 0 Tryz.isAgg101 Tryz.sizeOf101) (aq (fun w' h => lT h 0 Tryz.isAgg101 Tryz.sizeOf101) (aq (fun w' h => lT h 0 Tryz.isAgg101 Tryz.sizeOf101) (aq (fun w' h => lT h 1 Tryz.isAgg104 Tryz.sizeOf104) (ac (fun w' h => ⟨110, #[.agg (G2 tn (e0 u) (e1 u) (e0 b) (e1 b)).toArray, .agg (cel [x0, x1, y0, y1] ++ [Value.bool zb]).toArray], zC rfl call110 rfl (zX rfl), CP.out w' (h.one 4 rfl)⟩) (aq (fun w' h => lT h 0 Tryz.isAgg101 Tryz.sizeOf101) (aq (fun w' h => lT h 2 Tryz.isAgg104 Tryz.sizeOf104) (ac (fun w' h => ⟨110, #[.agg (G2 tn (e0 u) (e1 u) (e0 b) (e1 b)).toArray, .agg (cel [v0, v1, s0, s1] ++ [Value.bool zc]).toArray], zC rfl call110 rfl (zX rfl), CQ.out w' (h.one 4 rfl)⟩) (ac (fun w' h => ⟨114, #[.agg (G2 tn (e0 u) (e1 u) (e0 b) (e1 b)).toArray, V [e0 a1, e1 a1, e0 a2, e1 a2, e0 a3, e1 a3], V [e0 b1, e1 b1, e0 b2, e1 b2, e0 b3, e1 b3]], zC rfl call114 rfl (zX rfl), CT.out w' (h.one 4 rfl)⟩) (ac (fun w' h => ⟨113, #[.agg (G2 tn (e0 u) (e1 u) (e0 b) (e1 b)).toArray, V [e0 t1, e1 t1, e0 t2, e1 t2, e0 t3, e1 t3]], zC rfl call113 rfl (zX rfl), CW.out w' (h.one 4 rfl)⟩) trivial)))))))))
 intro _ w3 H3
 clear H2
 refine zJ (l := [10, 11]) rfl ?_
 refine zI rfl rfl rfl (ex_storeT (vs := cel [r0, r1, k0, k1] ++ [Value.bool zr]) H3.out.1 3 rfl rfl rfl rfl Tryz.sizeOf104 rfl (Nat.le_of_ble_eq_true rfl)) ?_
 have H4 : Hid (Mm (w3.setCells γ1_3 0 (cel [r0, r1, k0, k1] ++ [Value.bool zr])) [(γ1_0, G2 tn (e0 u) (e1 u) (e0 b) (e1 b)), (γ1_1, cel [x0, x1, y0, y1] ++ [Value.bool zb]), (γ1_2, cel [v0, v1, s0, s1] ++ [Value.bool zc]), (γ1_3, cel [r0, r1, k0, k1] ++ [Value.bool zr]), (0, dtab)] ∧ Below w.heap.size w (w3.setCells γ1_3 0 (cel [r0, r1, k0, k1] ++ [Value.bool zr]))) := ⟨H3.out.1.put 3 (off := 0) (vs := cel [r0, r1, k0, k1] ++ [Value.bool zr]) rfl (Nat.le_of_ble_eq_true rfl), zF _ o1_3.out _ _ _ H3.out.2⟩
 clear H3
 generalize hgw : World.setCells _ _ _ _ = w4 at H4 ⊢
 clear hgw
 refine zN (d := 7) rfl rfl rfl rfl ?_
 simp only [Act.put, sa, sz, ss]
 refine zH (zA (wp_ret ?_))
 repeat (first | refine zM ?_ | refine zK ?_)
 have hf0 := var_T H4.out.1 3 rfl Tryz.isAgg104 Tryz.sizeOf104 rfl
 refine bodyPost_ret (v := .tuple #[.agg (cel [r0, r1, k0, k1] ++ [Value.bool zr]).toArray, .int .i64 0]) (by simp [results, Tryz.results66, asAddr, Act.eval, hf0]) rfl ?_
 exact ⟨rfl, H4.out.2⟩
end Rg
end Go.Proofs.YtaomlijondiaoaaGreatDoor
end
section
namespace Go.Proofs.YtaomlijondiaoaaGreatDoor
open Go.RowKit
namespace Rg
/-! Elements of twelve parts over the integers: number j of them is a j; w to the power 6 is 1 + i. -/
def m0 (a b : Nat → Int) (i j : Nat) : Int := a (2 * i) * b (2 * j) - a (2 * i + 1) * b (2 * j + 1)
def m1 (a b : Nat → Int) (i j : Nat) : Int := a (2 * i) * b (2 * j + 1) + a (2 * i + 1) * b (2 * j)
end Rg
end Go.Proofs.YtaomlijondiaoaaGreatDoor
end
section
namespace Go.Proofs.YtaomlijondiaoaaGreatDoor
open Go.RowKit
namespace Rg
open NT
/-! What p divides. -/
def Dv (x : Int) : Prop := (pB : Int) ∣ x
theorem pz_iff (x y : Int) : pz x = pz y ↔ Dv (x - y) := by
 have hx := pz_cast x
 have hy := pz_cast y
 constructor
 ·intro h
  exact Int.dvd_of_emod_eq_zero (Int.emod_eq_emod_iff_emod_sub_eq_zero.1 (by rw [← hx, ← hy, h]))
 ·intro h
  exact pz_congr (Int.emod_eq_emod_iff_emod_sub_eq_zero.2 (Int.emod_eq_zero_of_dvd h))
theorem pz_zero_iff (x : Int) : pz x = 0 ↔ Dv x := by
 rw [← pz_zero, pz_iff, Int.sub_zero]
theorem Dv.add {x y : Int} (h : Dv x) (k : Dv y) : Dv (x + y) := Int.dvd_add h k
theorem Dv.sub {x y : Int} (h : Dv x) (k : Dv y) : Dv (x - y) := Int.dvd_sub h k
theorem Dv.mul {x : Int} (h : Dv x) (y : Int) : Dv (y * x) := Int.dvd_trans h (Int.dvd_mul_left y x)
theorem Dv.mulr {x : Int} (h : Dv x) (y : Int) : Dv (x * y) := Int.dvd_trans h (Int.dvd_mul_right x y)
theorem Dv.of {x y : Int} (h : Dv x) (e : x = y) : Dv y := e ▸ h
theorem dv_zero : Dv 0 := Int.dvd_zero _
theorem pB_prm : Prm pB := prm_p
theorem dv_nat (x : Int) : Dv x ↔ pB ∣ x.natAbs := Int.ofNat_dvd_left
theorem Dv.prime {x y : Int} (h : Dv (x * y)) : Dv x ∨ Dv y := by
 rw [dv_nat, Int.natAbs_mul] at h
 rw [dv_nat, dv_nat]
 exact pB_prm.mul h
/-- A number for an integer, with the power that leaves 1. -/
theorem unit_pow {x : Int} (h : ¬ Dv x) : pz x ^ (pB - 1) % pB = 1 :=
 fermat1 pB_prm (pz x) (fun hd => h (by
  rw [← pz_zero_iff]
  obtain ⟨k, hk⟩ := hd
  have := pz_lt x
  rcases Nat.eq_zero_or_pos k with h0 | h0
  ·rw [hk, h0, Nat.mul_zero]
  ·have := Nat.mul_le_mul (Nat.le_refl pB) h0
   omega))
theorem pow_dv {x : Int} (h : Dv x) : ∀ n, 0 < n → pz x ^ n % pB = 0 := fun n hn => by
 rw [(pz_zero_iff x).2 h, Nat.zero_pow hn, Nat.zero_mod]
def eP : Nat := 1000602388805416848354447456433976039139220704984751971333014534031007912622709466110671907282253916009473568139946
theorem pB_four : pB - 1 = 2 * (2 * eP + 1) := by decide +kernel
theorem pz_mod (x y : Int) (h : Dv (x - y)) : pz x = pz y := (pz_iff x y).2 h
theorem pz_mulN (x y : Int) : pz (x * y) = pz x * pz y % pB := by
 rw [← pz_mul, ← Int.natCast_mul, pz_nat]
theorem pz_addN (x y : Int) : pz (x + y) = (pz x + pz y) % pB := by
 rw [← pz_add, ← Int.natCast_add, pz_nat]
/-- No sum of two squares is left without a rest. -/
theorem norm0 {x y : Int} (h : Dv (x * x + y * y)) : Dv x ∧ Dv y := by
 have hp := pB_prm
 by_cases hx : Dv x
 ·refine ⟨hx, ?_⟩
  have h2 : Dv (y * y) := (h.sub (hx.mul x)).of (by omega)
  rcases h2.prime with h3 | h3 <;> exact h3
 ·by_cases hy : Dv y
  ·have h2 : Dv (x * x) := (h.sub (hy.mul y)).of (by omega)
   rcases h2.prime with h3 | h3 <;> exact absurd h3 hx
  ·exfalso
   have ux := unit_pow hx
   have uy := unit_pow hy
   have e : (pz x * pz x + pz y * pz y) % pB = 0 := by
    have h1 := (pz_zero_iff _).2 h
    rw [pz_addN, pz_mulN, pz_mulN, ← Nat.add_mod] at h1
    exact h1
   have ev := even_pow e eP
   rw [pB_four, Nat.pow_mul, Nat.pow_succ, Nat.pow_two] at ux uy
   rw [Nat.mul_mod, ev, ← Nat.mul_mod] at ux
   have s : ((pz y * pz y) ^ (2 * eP) * (pz x * pz x) + (pz y * pz y) ^ (2 * eP) * (pz y * pz y)) % pB = 0 := by
    rw [← Nat.mul_add, Nat.mul_mod, e, Nat.mul_zero, Nat.zero_mod]
   rw [Nat.add_mod, ux, uy] at s
   revert s
   decide +kernel
def eT : Nat := 1334136518407222464472596608578634718852294273313002628444019378708010550163612621480895876376338554679298090853262
theorem pB_three : pB - 1 = 3 * eT := by decide +kernel
theorem two_third : 2 ^ eT % pB = 793479390729215512621379701633421447060886740281060493010456487427281649075476305620758731620350 := pm_eq (by decide +kernel)
/-- 2 is no cube. -/
theorem two_cb {m k : Int} (h : Dv (m * (m * m) - 2 * (k * (k * k)))) : Dv k := by
 by_cases hk : Dv k
 ·exact hk
 ·exfalso
  have uk := unit_pow hk
  have e : pz m * (pz m * pz m) % pB = 2 * (pz k * (pz k * pz k)) % pB := by
   have h1 := pz_mod _ _ h
   rw [pz_mulN, pz_mulN, pz_mulN, pz_mulN, pz_mulN, Nat.mul_mod_mod, Nat.mul_mod_mod] at h1
   rw [h1, show pz 2 = 2 by decide +kernel, Nat.mul_mod 2, Nat.mul_mod_mod (pz k), ← Nat.mul_mod 2]
  have c3 : ∀ x : Nat, x * (x * x) = x ^ 3 := fun x => by rw [Nat.pow_succ, Nat.pow_two, Nat.mul_assoc]
  rw [c3, c3] at e
  have e2 : (pz m ^ 3) ^ eT % pB = (2 * (pz k ^ 3)) ^ eT % pB := by rw [Nat.pow_mod, e, ← Nat.pow_mod]
  rw [Nat.mul_pow 2, Nat.mul_mod, two_third, ← Nat.pow_mul, ← Nat.pow_mul, ← pB_three, uk] at e2
  by_cases hm : Dv m
  ·rw [pow_dv hm _ (by decide +kernel)] at e2
   revert e2
   decide +kernel
  ·rw [unit_pow hm] at e2
   revert e2
   decide +kernel
/-! Pairs. -/
abbrev Z2 := Int × Int
def cm (a b : Z2) : Z2 := (a.1 * b.1 - a.2 * b.2, a.1 * b.2 + a.2 * b.1)
def ca (a b : Z2) : Z2 := (a.1 + b.1, a.2 + b.2)
def cs (a b : Z2) : Z2 := (a.1 - b.1, a.2 - b.2)
def cn (a : Z2) : Int := a.1 * a.1 + a.2 * a.2
def xi : Z2 := (1, 1)
def O2 (a : Z2) : Prop := Dv a.1 ∧ Dv a.2
theorem O2.mul {a : Z2} (h : O2 a) (b : Z2) : O2 (cm b a) := ⟨(h.1.mul b.1).sub (h.2.mul b.2), (h.2.mul b.1).add (h.1.mul b.2)⟩
theorem O2.add {a b : Z2} (h : O2 a) (k : O2 b) : O2 (ca a b) := ⟨h.1.add k.1, h.2.add k.2⟩
theorem O2.sub {a b : Z2} (h : O2 a) (k : O2 b) : O2 (cs a b) := ⟨h.1.sub k.1, h.2.sub k.2⟩
theorem O2.of {a b : Z2} (h : O2 a) (e : a = b) : O2 b := e ▸ h
theorem O2.cn {a : Z2} (h : O2 a) : Dv (cn a) := (h.1.mul a.1).add (h.2.mul a.2)
/-! Three parts: v v v is 1 + i. -/
def d0 (x y z : Z2) : Z2 := cs (cm x x) (cm xi (cm y z))
def d1 (x y z : Z2) : Z2 := cs (cm xi (cm z z)) (cm x y)
def d2 (x y z : Z2) : Z2 := cs (cm y y) (cm x z)
end Rg
end Go.Proofs.YtaomlijondiaoaaGreatDoor
end
