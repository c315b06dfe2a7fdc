/- Texts of the proof, joined. -/
import Derived.Test.YtmanelnacifgcaaGreatDoorP8
set_option maxRecDepth 100000
section
namespace Go.Proofs.YtmanelnacifgcaaGreatDoor
open Go.RowKit
namespace Rg
theorem c6_at (v : Nat) {j : Nat} (h : j < 6) : (zD v)[0 + j]? = some (.int .u64 (wd v j)) := by
 match j, h with
 | 0, _ => rfl
 | 1, _ => rfl
 | 2, _ => rfl
 | 3, _ => rfl
 | 4, _ => rfl
 | 5, _ => rfl
set_option maxHeartbeats 8000000 in
theorem some_1 {α : Type} {en : α → Nat} {fa fs fm : α → α → α} {fi : α → α} {z u b : α} {g : Nat} {tn : Value} (_C : Fd1 g en fa fs fm fi z) (f : Nat → Nat) (S : Nat → EC.Tri α) (x y nn gp gn : Nat) (zb : Bool) (cz : ∀ w, Mm w [(g, zV pB), (2, dtab)] → Calls Tryz.prog 89 #[.agg (G1 g tn (en u) (en b)).toArray] w (Rt w (V [en ((S 0).1), en ((S 0).2.1), en ((S 0).2.2)]))) (ct : ∀ w, Mm w [(g, zV pB), (2, dtab)] → Calls Tryz.prog 120 #[.agg (G1 g tn (en u) (en b)).toArray, .agg (yC x y zb).toArray] w (Rt w (V (tb1 f)))) (cr : ∀ r, r < 6 → ∀ gt gr w, Mm w [(g, zV pB), (2, dtab), (gt, cel (tb1 f)), (gr, [Value.int .u64 (wd nn (5 - r))])] → Calls Tryz.prog 121 #[.agg (G1 g tn (en u) (en b)).toArray, V [en ((S r).1), en ((S r).2.1), en ((S r).2.2)], .slice (some ⟨gt, 0, none⟩) 1 1, .slice (some ⟨gr, 0, none⟩) 1 1] w fun e w' => e = .returned (V [en ((S (r + 1)).1), en ((S (r + 1)).2.1), en ((S (r + 1)).2.2)]) ∧ Mm w' [(gr, [Value.int .u64 0])] ∧ Kp gr w w') (w : World) (hm : Mm w [(g, zV pB), (2, dtab), (gp, yC x y zb), (gn, zD nn)]) :
  Calls Tryz.prog 90 #[.agg (G1 g tn (en u) (en b)).toArray, .slice (some ⟨gp, 0, none⟩) 1 1, .slice (some ⟨gn, 0, none⟩) 1 1] w (Rt w (V [en ((S 6).1), en ((S 6).2.1), en ((S 6).2.2)])) := by
 have H0 : Hid (_ ∧ _) := ⟨hm, Below.refl w.heap.size w⟩
 clear hm
 have CZ : Hid _ := cz
 clear cz
 have CT : Hid _ := ct
 clear ct
 have CR : Hid _ := cr
 clear cr
 go_enter Tryz.func90, Tryz.ntmps90
 refine wp_seq ?_
 refine zB 2 [.made (G1 g tn (en u) (en b)) 82, .made (cel [0, 0, 0]) 124] (sB H0) ?ho1 ?he1
 case ho1 => exact am (zS rfl rfl) (am (ex_madeTN rfl) trivial)
 intro J w1 l hM hl
 have H1 : Hid (Mm w1 ([(J 0, G1 g tn (en u) (en b)), (J 1, cel [0, 0, 0])] ++ _) ∧ _) := wB H0 hM hl [0, 1]
 have o1_0 := vB H0 hM hl 0
 have o1_1 := vB H0 hM hl 1
 clear hM hl l
 generalize J 0 = J1_0 at H1 o1_0 ⊢
 generalize J 1 = J1_1 at H1 o1_1 ⊢
 clear J
 refine rN (wp_seq ?_)
 refine zC 2 [.q (.slice (some ⟨gp, 0, none⟩) 1 1), .q (.int .i64 1)] H1 ?ho2 ?he2
 case ho2 => exact ar (ag trivial)
 intro _ w2 H2
 clear H1
 refine zF (l := [2, 3]) rfl ?_
 refine zG (d := 16) (v := .slice (some ⟨w2.heap.size, 0, none⟩) 1 1) (w' := w2.alloc (.cells (cel [0, 0, 0, 0, 0, 0, 0, 0, 0, 0, 0, 0, 0, 0, 0, 0, 0, 0, 0, 0, 0, 0, 0, 0, 0, 0, 0, 0, 0, 0, 0, 0, 0, 0, 0, 0, 0, 0, 0, 0, 0, 0, 0, 0, 0, 0, 0, 0] : List Value).toArray 162)) rfl rfl rfl (ex_mkTN rfl rfl rfl) ?_
 simp only [Act.put, sa, sz, ss]
 have o_Js3 : Hid (w.heap.size ≤ w2.heap.size) := H2.out.2.size
 have H3 : Hid (Mm (w2.alloc (.cells (cel [0, 0, 0, 0, 0, 0, 0, 0, 0, 0, 0, 0, 0, 0, 0, 0, 0, 0, 0, 0, 0, 0, 0, 0, 0, 0, 0, 0, 0, 0, 0, 0, 0, 0, 0, 0, 0, 0, 0, 0, 0, 0, 0, 0, 0, 0, 0, 0] : List Value).toArray 162)) ((w2.heap.size, cel [0, 0, 0, 0, 0, 0, 0, 0, 0, 0, 0, 0, 0, 0, 0, 0, 0, 0, 0, 0, 0, 0, 0, 0, 0, 0, 0, 0, 0, 0, 0, 0, 0, 0, 0, 0, 0, 0, 0, 0, 0, 0, 0, 0, 0, 0, 0, 0]) :: [(J1_0, G1 g tn (en u) (en b)), (J1_1, cel [0, 0, 0]), (g, zV pB), (2, dtab), (gp, yC x y zb), (gn, zD nn)]) ∧ Below w.heap.size w (w2.alloc (.cells (cel [0, 0, 0, 0, 0, 0, 0, 0, 0, 0, 0, 0, 0, 0, 0, 0, 0, 0, 0, 0, 0, 0, 0, 0, 0, 0, 0, 0, 0, 0, 0, 0, 0, 0, 0, 0, 0, 0, 0, 0, 0, 0, 0, 0, 0, 0, 0, 0] : List Value).toArray 162))) := ⟨H2.out.1.alloc _ 162 rfl, H2.out.2.alloc H2.out.2.size _⟩
 clear H2
 generalize hgw : w2.alloc (.cells (cel [0, 0, 0, 0, 0, 0, 0, 0, 0, 0, 0, 0, 0, 0, 0, 0, 0, 0, 0, 0, 0, 0, 0, 0, 0, 0, 0, 0, 0, 0, 0, 0, 0, 0, 0, 0, 0, 0, 0, 0, 0, 0, 0, 0, 0, 0, 0, 0] : List Value).toArray 162) = w3 at H3 ⊢
 clear hgw
 generalize w2.heap.size = Js3 at o_Js3 H3 ⊢
 refine zG (d := 7) rfl rfl rfl rfl ?_
 simp only [Act.put, sa, sz, ss]
 refine zE (zA ?_)
 refine wp_seq (wp_seq ?_)
 refine zC 3 [.q (.slice (some ⟨gp, 0, none⟩) 1 1), .q (.int .i64 1), .q (.int .i64 0)] H3 ?ho3 ?he3
 case ho3 => exact ar (ag (ar trivial))
 intro _ w4 H4
 clear H3
 refine rN (wp_block ?_)
 refine wp_loop_rounds 2 ?_
 refine zM (n := 1) ?_
 refine wp_seq ?_
 refine zC 1 [.q (.bool true)] H4 ?ho4 ?he4
 case ho4 => exact ag trivial
 intro _ w5 H5
 clear H4
 refine rN (wp_seq ?_)
 refine wp_cond_true rfl (wp_skip ?_)
 refine zA (wp_seq ?_)
 refine wp_block (wp_seq ?_)
 refine zB 6 [.q (.int .i64 0), .q (PT gp 0), .q (.agg (yC x y zb).toArray), .made (yC 0 0 false) 85, .q (.int .i64 0), .laid 3 (yC 0 0 false) (yC x y zb)] (sB H5) ?ho5 ?he5 (hL := ?hL5)
 case hL5 => exact ⟨⟨_, rfl⟩, trivial⟩
 case ho5 => exact ar (ag (bT 5 Ai85 As85 (am (ex_madePN rfl) (ar (ak (fun J => ⟨rfl, rfl, rfl, fun w' h => ex_laidT h rfl rfl As85 rfl rfl rfl⟩) trivial)))))
 intro J w6 l hM hl
 have H6 : Hid (Mm w6 ([(J 3, yC x y zb)] ++ _) ∧ _) := wB H5 hM hl [3]
 have o5_3 := vB H5 hM hl 3
 clear hM hl l H5
 generalize J 3 = J5_3 at H6 o5_3 ⊢
 clear J
 refine rN ?_
 refine zC 6 [.q (.slice (some ⟨Js3, 0, none⟩) 1 1), .q (.int .i64 0), .q (.agg (G1 g tn (en u) (en b)).toArray), .q (.agg (yC x y zb).toArray), .call (V (tb1 f)), .q (PT Js3 0)] H6 ?ho6 ?he6
 case ho6 => exact ar (ar (bT 2 Ai82 As82 (bT 0 Ai85 As85 (ac (fun w' h => eC call120 (CT.out w' (h.two 4 5 rfl rfl (by decide)))) (ag trivial)))))
 intro _ w7 H7
 clear H6
 refine zF (l := [6]) rfl ?_
 refine sA 1 0 [f 0, f 1, f 2, f 3, f 4, f 5, f 6, f 7, f 8, f 9, f 10, f 11, f 12, f 13, f 14, f 15, f 16, f 17, f 18, f 19, f 20, f 21, f 22, f 23, f 24, f 25, f 26, f 27, f 28, f 29, f 30, f 31, f 32, f 33, f 34, f 35, f 36, f 37, f 38, f 39, f 40, f 41, f 42, f 43, f 44, f 45, f 46, f 47] [_, (_, cel (tb1 f)), _, _, _, _, _, _] H7 o_Js3 As162 fun w8 H8 => ?_
 clear H7
 refine zE (zI (zA ?_))
 refine zC 1 [.q (.int .i64 1)] H8 ?ho7 ?he7
 case ho7 => exact av trivial
 intro _ w9 H9
 clear H8
 refine zF (l := [1]) rfl ?_
 refine zG (d := 19) rfl rfl rfl rfl ?_
 simp only [Act.put, sa, sz, ss]
 refine zE (zA ?_)
 refine zM (n := 0) ?_
 refine wp_seq ?_
 refine zC 1 [.q (.bool false)] H9 ?ho8 ?he8
 case ho8 => exact ag trivial
 intro _ w10 H10
 clear H9
 refine rN (wp_seq (wp_cond_false rfl ?_))
 refine wp_exit ?_
 repeat refine zY ?_
 refine zU ?_
 refine zA (wp_seq ?_)
 refine zB 4 [.q (.agg (G1 g tn (en u) (en b)).toArray), .call (V [en ((S 0).1), en ((S 0).2.1), en ((S 0).2.2)]), .made (cel [0, 0, 0]) 124, .laid 2 (cel [0, 0, 0]) (cel [en ((S 0).1), en ((S 0).2.1), en ((S 0).2.2)])] (sB H10) ?ho9 ?he9 (hL := ?hL9)
 case hL9 => exact ⟨⟨_, rfl⟩, trivial⟩
 case ho9 => exact bT 2 Ai82 As82 (ac (fun w' h => eC call89 (CZ.out w' (h.two 4 5 rfl rfl (by decide)))) (am (ex_madeTN rfl) (ak (fun J => ⟨rfl, rfl, rfl, fun w' h => ex_laidA h rfl As124 rfl rfl rfl⟩) trivial)))
 intro J w11 l hM hl
 have H11 : Hid (Mm w11 ([(J 2, cel [en ((S 0).1), en ((S 0).2.1), en ((S 0).2.2)])] ++ _) ∧ _) := wB H10 hM hl [2]
 have o9_2 := vB H10 hM hl 2
 clear hM hl l H10
 generalize J 2 = J9_2 at H11 o9_2 ⊢
 clear J
 refine rN (wp_seq ?_)
 refine zC 2 [.q (.slice (some ⟨gn, 0, none⟩) 1 1), .q (.int .i64 1)] H11 ?ho10 ?he10
 case ho10 => exact ar (ag trivial)
 intro _ w12 H12
 clear H11
 refine zF (l := [2, 3]) rfl ?_
 refine zG (d := 35) (v := .slice (some ⟨w12.heap.size, 0, none⟩) 1 1) (w' := w12.alloc (.cells ([Value.int .u64 0] : List Value).toArray 22)) rfl rfl rfl (ex_mkU rfl rfl rfl) ?_
 simp only [Act.put, sa, sz, ss]
 have o_Js13 : Hid (w.heap.size ≤ w12.heap.size) := H12.out.2.size
 have H13 : Hid (Mm (w12.alloc (.cells ([Value.int .u64 0] : List Value).toArray 22)) ((w12.heap.size, [Value.int .u64 0]) :: [(J9_2, cel [en ((S 0).1), en ((S 0).2.1), en ((S 0).2.2)]), (J5_3, yC x y zb), (Js3, cel (tb1 f)), (J1_0, G1 g tn (en u) (en b)), (J1_1, cel [0, 0, 0]), (g, zV pB), (2, dtab), (gp, yC x y zb), (gn, zD nn)]) ∧ Below w.heap.size w (w12.alloc (.cells ([Value.int .u64 0] : List Value).toArray 22))) := ⟨H12.out.1.alloc _ 22 rfl, H12.out.2.alloc H12.out.2.size _⟩
 clear H12
 generalize hgw : w12.alloc (.cells ([Value.int .u64 0] : List Value).toArray 22) = w13 at H13 ⊢
 clear hgw
 generalize w12.heap.size = Js13 at o_Js13 H13 ⊢
 refine zG (d := 11) rfl rfl rfl rfl ?_
 simp only [Act.put, sa, sz, ss]
 refine zE (zA ?_)
 refine wp_seq (wp_seq ?_)
 refine zC 1 [.q (.int .i64 5)] H13 ?ho11 ?he11
 case ho11 => exact ar trivial
 intro _ w14 H14
 clear H13
 refine rN (wp_block ?_)
 refine loop_ghost (α := Nat) (fun r a' w' => ∃ s2 : Nat → Value, a' = ⟨#[.agg (G1 g tn (en u) (en b)).toArray, .slice (some ⟨gp, 0, none⟩) 1 1, .slice (some ⟨gn, 0, none⟩) 1 1, PT J1_0 0, ud, ud, PT J1_1 0, .slice (some ⟨Js3, 0, none⟩) 1 1, .int .i64 0, PT J5_3 0, PT J9_2 0, .slice (some ⟨Js13, 0, none⟩) 1 1, .int .i64 (5 - ((r : Nat) : Int)), s2 13, .slice (some ⟨gp, 0, none⟩) 1 1, .int .i64 1, .slice (some ⟨Js3, 0, none⟩) 1 1, .slice (some ⟨gp, 0, none⟩) 1 1, .int .i64 1, .int .i64 1, .bool false, .int .i64 0, PT gp 0, .agg (yC x y zb).toArray, .slice (some ⟨Js3, 0, none⟩) 1 1, .int .i64 0, .agg (G1 g tn (en u) (en b)).toArray, .agg (yC x y zb).toArray, V (tb1 f), PT Js3 0, .int .i64 1, .agg (G1 g tn (en u) (en b)).toArray, V [en ((S 0).1), en ((S 0).2.1), en ((S 0).2.2)], .slice (some ⟨gn, 0, none⟩) 1 1, .int .i64 1, .slice (some ⟨Js13, 0, none⟩) 1 1, s2 36, s2 37, s2 38, s2 39, s2 40, s2 41, s2 42, s2 43, s2 44, s2 45, s2 46, s2 47, s2 48, s2 49, s2 50, s2 51, s2 52, s2 53, s2 54, s2 55, s2 56, s2 57, s2 58, s2 59, ud], []⟩ ∧ (Mm w' [(Js13, [Value.int .u64 0]), (J9_2, cel [en ((S r).1), en ((S r).2.1), en ((S r).2.2)]), (J5_3, yC x y zb), (Js3, cel (tb1 f)), (J1_0, G1 g tn (en u) (en b)), (J1_1, cel [0, 0, 0]), (g, zV pB), (2, dtab), (gp, yC x y zb), (gn, zD nn)] ∧ Below w.heap.size w w') ∧ r ≤ 6) (fun r => 6 - r) 0 ?st2 ?rd2
 case st2 => exact ⟨(slotfn [ud, ud, ud, ud, ud, ud, ud, ud, ud, ud, ud, ud, ud, ud, ud, ud, ud, ud, ud, ud, ud, ud, ud, ud, ud, ud, ud, ud, ud, ud, ud, ud, ud, ud, ud, ud, ud, ud, ud, ud, ud, ud, ud, ud, ud, ud, ud, ud, ud, ud, ud, ud, ud, ud, ud, ud, ud, ud, ud, ud]), rfl, ⟨H14.out.1, H14.out.2⟩, by omega⟩
 intro r a' w15 hI
 obtain ⟨s2, rfl, hMB, hk2⟩ := hI
 have H15 : Hid (_ ∧ _) := hMB
 clear hMB H14
 by_cases hlt : r < 6
 ·have hrd : True := trivial
  clear hrd
  have he5 : (5 : Int) - ((r : Nat) : Int) = ((5 - r : Nat) : Int) := by omega
  rw [he5]
  clear he5
  refine wp_seq (wp_seq ?_)
  refine zC 2 [.q (.int .i64 ((5 - r : Nat) : Int)), .q (.bool true)] H15 ?ho12 ?he12
  case ho12 => exact ar (ak (by refine fun J => ⟨rfl, fun w' h => ?_⟩; clear h; go_simp <;> omega) trivial)
  intro _ w16 H16
  clear H15
  refine rN (wp_cond_true rfl ?_)
  refine wp_skip (zA ?_)
  refine wp_seq (wp_block ?_)
  refine wp_seq (wp_seq ?_)
  refine zC 3 [.q (.slice (some ⟨gn, 0, none⟩) 1 1), .q (.int .i64 1), .q (.int .i64 0)] H16 ?ho13 ?he13
  case ho13 => exact ar (ag (ar trivial))
  intro _ w17 H17
  clear H16
  refine rN (wp_block ?_)
  refine wp_loop_rounds 2 ?_
  refine zM (n := 1) ?_
  refine wp_seq ?_
  refine zC 1 [.q (.bool true)] H17 ?ho14 ?he14
  case ho14 => exact ag trivial
  intro _ w18 H18
  clear H17
  refine rN (wp_seq ?_)
  refine wp_cond_true rfl (wp_skip ?_)
  refine zA (wp_seq ?_)
  refine wp_block (wp_seq ?_)
  refine zC 2 [.q (.int .i64 0), .q (.int .i64 0)] H18 ?ho15 ?he15
  case ho15 => exact ar (ar trivial)
  intro _ w19 H19
  clear H18
  refine rN ?_
  refine zC 9 [.q (.slice (some ⟨Js13, 0, none⟩) 1 1), .q (.int .i64 0), .q (.slice (some ⟨gn, 0, none⟩) 1 1), .q (.int .i64 0), .q (.int .i64 ((5 - r : Nat) : Int)), .q (PT gn 0), .q (PT gn (0 + (5 - r))), .q (.int .u64 (wd nn (5 - r))), .q (PT Js13 0)] H19 ?ho16 ?he16
  case ho16 => exact ar (ar (ar (ar (ar (ag (ak (fun J => ⟨rfl, fun w' _ => yA rfl rfl rfl (by omega)⟩) (aq (fun w' h => ex_load1 h 9 rfl rfl rfl (c6_at nn (by omega))) (ag trivial))))))))
  intro _ w20 H20
  clear H19
  refine zF (l := [9]) rfl ?_
  refine sG rfl (fun h => ex_storeI h 0 rfl rfl As22 rfl rfl (Nat.le_of_ble_eq_true rfl)) 0 [(_, [Value.int .u64 (wd nn (5 - r))]), _, _, _, _, _, _, _, _, _] H20 o_Js13 fun w21 H21 => ?_
  clear H20
  refine zE (zI (zA ?_))
  refine zC 1 [.q (.int .i64 1)] H21 ?ho17 ?he17
  case ho17 => exact av trivial
  intro _ w22 H22
  clear H21
  refine zF (l := [1]) rfl ?_
  refine zG (d := 42) rfl rfl rfl rfl ?_
  simp only [Act.put, sa, sz, ss]
  refine zE (zA ?_)
  refine zM (n := 0) ?_
  refine wp_seq ?_
  refine zC 1 [.q (.bool false)] H22 ?ho18 ?he18
  case ho18 => exact ag trivial
  intro _ w23 H23
  clear H22
  refine rN (wp_seq (wp_cond_false rfl ?_))
  refine wp_exit ?_
  repeat refine zY ?_
  refine zU ?_
  refine zA ?_
  refine zC 4 [.q (.agg (G1 g tn (en u) (en b)).toArray), .q (V [en ((S r).1), en ((S r).2.1), en ((S r).2.2)]), .q (.slice (some ⟨Js3, 0, none⟩) 1 1), .q (.slice (some ⟨Js13, 0, none⟩) 1 1)] H23 ?ho19 ?he19
  case ho19 => exact bT 4 Ai82 As82 (bA 0 3 1 Ai124 As124 (ar (ar trivial)))
  intro _ w24 H24
  clear H23
  refine zF (l := [4, 5]) rfl ?_
  refine rest_enter (d := 59) (R := fun vv w' => vv = V [en ((S (r + 1)).1), en ((S (r + 1)).2.1), en ((S (r + 1)).2.2)] ∧ Mm w' [(Js13, [Value.int .u64 0])] ∧ Kp Js13 w24 w') rfl rfl rfl (exec_call (args := #[.agg (G1 g tn (en u) (en b)).toArray, V [en ((S r).1), en ((S r).2.1), en ((S r).2.2)], .slice (some ⟨Js3, 0, none⟩) 1 1, .slice (some ⟨Js13, 0, none⟩) 1 1]) rfl call121 rfl (mpn rfl)) (Calls.mono (CR.out r hlt Js3 Js13 w24 (H24.out.1.pick [6, 7, 3, 0] rfl (by decide))) (fun e w2 hh => ⟨_, hh.1, rfl, hh.2⟩)) ?_
  rintro _ w25 ⟨rfl, hn, hp⟩
  have H25 : Hid (Mm w25 [(Js13, [Value.int .u64 0]), (J9_2, cel [en ((S r).1), en ((S r).2.1), en ((S r).2.2)]), (J5_3, yC x y zb), (Js3, cel (tb1 f)), (J1_0, G1 g tn (en u) (en b)), (J1_1, cel [0, 0, 0]), (g, zV pB), (2, dtab), (gp, yC x y zb), (gn, zD nn)] ∧ Below w.heap.size w w25) := ⟨H24.out.1.change 0 rfl hp hn, Below.kp H24.out.2 hp o_Js13.out H24.out.2.size⟩
  clear hn hp H24
  simp only [Act.put, sa, sz, ss]
  refine sF 1 [en ((S (r + 1)).1), en ((S (r + 1)).2.1), en ((S (r + 1)).2.2)] [_, _, _, _, _, _, _, _, _, _] H25 o9_2 As124 fun w26 H26 => ?_
  clear H25
  refine zE (zI (zA ?_))
  refine zC 2 [.q (.int .i64 ((5 - r : Nat) : Int)), .q (.int .i64 (5 - ((r + 1 : Nat) : Int)))] H26 ?ho20 ?he20
  case ho20 => exact ar (ak (by refine fun J => ⟨rfl, fun w' h => ?_⟩; clear h; go_simp; rw [IntKind.wrap_i64]; omega) trivial)
  intro _ w27 H27
  clear H26
  refine zF (l := [2]) rfl ?_
  refine zG (d := 12) rfl rfl rfl rfl ?_
  simp only [Act.put, sa, sz, ss]
  refine zE (zA ?_)
  exact ⟨r + 1, ⟨(slotfn [ud, ud, ud, ud, ud, ud, ud, ud, ud, ud, ud, ud, ud, .int .i64 0, ud, ud, ud, ud, ud, ud, ud, ud, ud, ud, ud, ud, ud, ud, ud, ud, ud, ud, ud, ud, ud, ud, .int .i64 ((5 - r : Nat) : Int), .bool true, .int .i64 ((5 - r : Nat) : Int), .int .i64 (5 - ((r + 1 : Nat) : Int)), .slice (some ⟨gn, 0, none⟩) 1 1, .int .i64 1, .int .i64 1, .bool false, .int .i64 0, .slice (some ⟨Js13, 0, none⟩) 1 1, .int .i64 0, .slice (some ⟨gn, 0, none⟩) 1 1, .int .i64 0, .int .i64 ((5 - r : Nat) : Int), PT gn 0, PT gn (0 + (5 - r)), .int .u64 (wd nn (5 - r)), PT Js13 0, .int .i64 1, .agg (G1 g tn (en u) (en b)).toArray, V [en ((S r).1), en ((S r).2.1), en ((S r).2.2)], .slice (some ⟨Js3, 0, none⟩) 1 1, .slice (some ⟨Js13, 0, none⟩) 1 1, V [en ((S (r + 1)).1), en ((S (r + 1)).2.1), en ((S (r + 1)).2.2)]]), rfl, ⟨H27.out.1, H27.out.2⟩, by omega⟩, by omega⟩
 have hr6 : r = 6 := by omega
 subst hr6
 refine wp_seq (wp_seq ?_)
 refine zC 2 [.q (.int .i64 (5 - ((6 : Nat) : Int))), .q (.bool false)] H15 ?ho21 ?he21
 case ho21 => exact ar (ak (by refine fun J => ⟨rfl, fun w' h => ?_⟩; clear h; go_simp <;> omega) trivial)
 intro _ w28 H28
 clear H15
 refine rN (wp_cond_false rfl ?_)
 refine wp_exit ?_
 repeat refine zY ?_
 refine zU ?_
 refine zA (wp_seq ?_)
 refine zC 1 [.q (V [en ((S 6).1), en ((S 6).2.1), en ((S 6).2.2)])] H28 ?ho22 ?he22
 case ho22 => exact bA 0 3 1 Ai124 As124 trivial
 intro _ w29 H29
 clear H28
 refine zF (l := [1]) rfl ?_
 refine sF 5 [en ((S 6).1), en ((S 6).2.1), en ((S 6).2.2)] [_, _, _, _, _, _, _, _, _, _] H29 o1_1 As124 fun w30 H30 => ?_
 clear H29
 refine zE (zA (wp_ret ?_))
 repeat (first | refine zK ?_ | refine zH ?_)
 have hf0 := cel_var (k := 3) H30.out.1 5 rfl Ai124 As124 rfl
 refine bodyPost_ret (v := V [en ((S 6).1), en ((S 6).2.1), en ((S 6).2.2)]) (by simp [results, Tryz.results90, asAddr, hf0]) rfl ?_
 exact ⟨rfl, H30.out.2⟩
set_option maxHeartbeats 4000000 in
theorem sumY_1 {α : Type} {en : α → Nat} {fa fs fm : α → α → α} {fi : α → α} {z u b : α} {g : Nat} {tn : Value} (_C : Fd1 g en fa fs fm fi z) (O T U : EC.Tri α) (x y r k nn gp gn : Nat) (zb zr : Bool) (ck : ∀ w, Mm w [(g, zV pB), (2, dtab)] → Calls Tryz.prog 45 #[.agg (G1 g tn (en u) (en b)).toArray, .agg (yC x y zb).toArray] w (Rt w (.bool true))) (cz : ∀ w, Mm w [(g, zV pB), (2, dtab)] → Calls Tryz.prog 89 #[.agg (G1 g tn (en u) (en b)).toArray] w (Rt w (V [en O.1, en O.2.1, en O.2.2]))) (cs : ∀ w, Mm w [(g, zV pB), (2, dtab), (gp, yC x y zb), (gn, zD nn)] → Calls Tryz.prog 90 #[.agg (G1 g tn (en u) (en b)).toArray, .slice (some ⟨gp, 0, none⟩) 1 1, .slice (some ⟨gn, 0, none⟩) 1 1] w (Rt w (V [en T.1, en T.2.1, en T.2.2]))) (ct : ∀ w, Mm w [(g, zV pB), (2, dtab)] → Calls Tryz.prog 88 #[.agg (G1 g tn (en u) (en b)).toArray, V [en O.1, en O.2.1, en O.2.2], V [en T.1, en T.2.1, en T.2.2]] w (Rt w (V [en U.1, en U.2.1, en U.2.2]))) (cw : ∀ w, Mm w [(g, zV pB), (2, dtab)] → Calls Tryz.prog 87 #[.agg (G1 g tn (en u) (en b)).toArray, V [en U.1, en U.2.1, en U.2.2]] w (Rt w (.agg (yC r k zr).toArray))) (w : World) (hm : Mm w [(g, zV pB), (2, dtab), (gp, yC x y zb), (gn, zD nn)]) :
  Calls Tryz.prog 49 #[.agg (G1 g tn (en u) (en b)).toArray, .slice (some ⟨gp, 0, none⟩) 1 1, .slice (some ⟨gn, 0, none⟩) 1 1] w (Rt w (.tuple #[.agg (yC r k zr).toArray, .int .i64 0])) := by
 have H0 : Hid (_ ∧ _) := ⟨hm, Below.refl w.heap.size w⟩
 clear hm
 have CK : Hid _ := ck
 clear ck
 have CZ : Hid _ := cz
 clear cz
 have CS : Hid _ := cs
 clear cs
 have CT : Hid _ := ct
 clear ct
 have CW : Hid _ := cw
 clear cw
 go_enter Tryz.func49, Tryz.ntmps49
 refine wp_seq ?_
 refine zB 3 [.made (G1 g tn (en u) (en b)) 82, .made (yC 0 0 false) 85, .q (.int .i64 0)] (sB H0) ?ho1 ?he1
 case ho1 => exact am (zS rfl rfl) (am (ex_madePN rfl) (ar trivial))
 intro J w1 l hM hl
 have H1 : Hid (Mm w1 ([(J 0, G1 g tn (en u) (en b)), (J 1, yC 0 0 false)] ++ _) ∧ _) := wB H0 hM hl [0, 1]
 have o1_0 := vB H0 hM hl 0
 have o1_1 := vB H0 hM hl 1
 clear hM hl l
 generalize J 0 = J1_0 at H1 o1_0 ⊢
 generalize J 1 = J1_1 at H1 o1_1 ⊢
 clear J
 refine rN (wp_seq (wp_seq ?_))
 refine zC 5 [.q (.slice (some ⟨gp, 0, none⟩) 1 1), .q (.int .i64 1), .q (.slice (some ⟨gn, 0, none⟩) 1 1), .q (.int .i64 1), .q (.bool false)] H1 ?ho2 ?he2
 case ho2 => exact ar (ag (ar (ag (ag trivial))))
 intro _ w2 H2
 clear H1
 refine rN (wp_cond_false rfl ?_)
 refine wp_skip (zA ?_)
 refine wp_seq (wp_seq ?_)
 refine zC 3 [.q (.slice (some ⟨gp, 0, none⟩) 1 1), .q (.int .i64 1), .q (.int .i64 0)] H2 ?ho3 ?he3
 case ho3 => exact ar (ag (ar trivial))
 intro _ w3 H3
 clear H2
 refine rN (wp_block ?_)
 refine wp_loop_rounds 2 ?_
 refine zM (n := 1) ?_
 refine wp_seq ?_
 refine zC 1 [.q (.bool true)] H3 ?ho4 ?he4
 case ho4 => exact ag trivial
 intro _ w4 H4
 clear H3
 refine rN (wp_seq ?_)
 refine wp_cond_true rfl (wp_skip ?_)
 refine zA (wp_seq ?_)
 refine wp_block (wp_seq ?_)
 refine zB 4 [.q (PT gp 0), .q (.agg (yC x y zb).toArray), .made (yC 0 0 false) 85, .laid 2 (yC 0 0 false) (yC x y zb)] (sB H4) ?ho5 ?he5 (hL := ?hL5)
 case hL5 => exact ⟨⟨_, rfl⟩, trivial⟩
 case ho5 => exact ag (bT 4 Ai85 As85 (am (ex_madePN rfl) (ak (fun J => ⟨rfl, rfl, rfl, fun w' h => ex_laidT h rfl rfl As85 rfl rfl rfl⟩) trivial)))
 intro J w5 l hM hl
 have H5 : Hid (Mm w5 ([(J 2, yC x y zb)] ++ _) ∧ _) := wB H4 hM hl [2]
 have o5_2 := vB H4 hM hl 2
 clear hM hl l H4
 generalize J 2 = J5_2 at H5 o5_2 ⊢
 clear J
 refine rN (wp_seq ?_)
 refine zC 4 [.q (.agg (G1 g tn (en u) (en b)).toArray), .q (.agg (yC x y zb).toArray), .call (.bool true), .q (.bool false)] H5 ?ho6 ?he6
 case ho6 => exact bT 1 Ai82 As82 (bT 0 Ai85 As85 (ac (fun w' h => eC call45 (CK.out w' (h.two 3 4 rfl rfl (by decide)))) (ag trivial)))
 intro _ w6 H6
 clear H5
 refine rN (wp_cond_false rfl ?_)
 refine wp_skip (zI (zA ?_))
 refine zC 1 [.q (.int .i64 1)] H6 ?ho7 ?he7
 case ho7 => exact av trivial
 intro _ w7 H7
 clear H6
 refine zF (l := [1]) rfl ?_
 refine zG (d := 21) rfl rfl rfl rfl ?_
 simp only [Act.put, sa, sz, ss]
 refine zE (zA ?_)
 refine zM (n := 0) ?_
 refine wp_seq ?_
 refine zC 1 [.q (.bool false)] H7 ?ho8 ?he8
 case ho8 => exact ag trivial
 intro _ w8 H8
 clear H7
 refine rN (wp_seq (wp_cond_false rfl ?_))
 refine wp_exit ?_
 repeat refine zY ?_
 refine zU ?_
 refine zA (wp_seq ?_)
 refine zB 4 [.q (.agg (G1 g tn (en u) (en b)).toArray), .call (V [en O.1, en O.2.1, en O.2.2]), .made (cel [0, 0, 0]) 124, .laid 2 (cel [0, 0, 0]) (cel [en O.1, en O.2.1, en O.2.2])] (sB H8) ?ho9 ?he9 (hL := ?hL9)
 case hL9 => exact ⟨⟨_, rfl⟩, trivial⟩
 case ho9 => exact bT 1 Ai82 As82 (ac (fun w' h => eC call89 (CZ.out w' (h.two 3 4 rfl rfl (by decide)))) (am (ex_madeTN rfl) (ak (fun J => ⟨rfl, rfl, rfl, fun w' h => ex_laidA h rfl As124 rfl rfl rfl⟩) trivial)))
 intro J w9 l hM hl
 have H9 : Hid (Mm w9 ([(J 2, cel [en O.1, en O.2.1, en O.2.2])] ++ _) ∧ _) := wB H8 hM hl [2]
 have o9_2 := vB H8 hM hl 2
 clear hM hl l H8
 generalize J 2 = J9_2 at H9 o9_2 ⊢
 clear J
 refine rN (wp_seq (wp_seq ?_))
 refine zC 1 [.q (.int .i64 0)] H9 ?ho10 ?he10
 case ho10 => exact ar trivial
 intro _ w10 H10
 clear H9
 refine rN (wp_block ?_)
 refine wp_loop_rounds 2 ?_
 refine zM (n := 1) ?_
 refine wp_seq (wp_seq ?_)
 refine zC 4 [.q (.int .i64 0), .q (.slice (some ⟨gp, 0, none⟩) 1 1), .q (.int .i64 1), .q (.bool true)] H10 ?ho11 ?he11
 case ho11 => exact ar (ar (ag (ag trivial)))
 intro _ w11 H11
 clear H10
 refine rN (wp_cond_true rfl ?_)
 refine wp_skip (zA ?_)
 refine wp_seq (wp_block (wp_seq ?_))
 refine zC 6 [.q (.int .i64 0), .q (.int .i64 32), .q (.slice (some ⟨gp, 0, none⟩) 1 1), .q (.int .i64 1), .q (.int .i64 1), .q (.int .i64 1)] H11 ?ho12 ?he12
 case ho12 => exact ar (av (ar (ag (ak (by refine fun J => ⟨rfl, fun w' h => ?_⟩; clear h; go_simp; rfl) (ar trivial)))))
 intro _ w12 H12
 clear H11
 refine rN ?_
 refine zN 13 [.q (.agg (G1 g tn (en u) (en b)).toArray), .q (V [en O.1, en O.2.1, en O.2.2]), .q (.agg (G1 g tn (en u) (en b)).toArray), .q (.slice (some ⟨gp, 0, none⟩) 1 1), .q (.int .i64 0), .q (.int .i64 1), .q (.slice (some ⟨gp, 0, none⟩) 1 1), .q (.slice (some ⟨gn, 0, none⟩) 1 1), .q (.int .i64 0), .q (.int .i64 1), .q (.slice (some ⟨gn, 0, none⟩) 1 1), .call (V [en T.1, en T.2.1, en T.2.2]), .call (V [en U.1, en U.2.1, en U.2.2])] H12 ?ho13 ?he13
 case ho13 => exact bT 2 Ai82 As82 (bA 0 3 0 Ai124 As124 (bT 2 Ai82 As82 (ar (ar (ar (ak (fun J => ⟨rfl, fun w' _ => ex_slice102 rfl rfl rfl rfl⟩) (ar (ar (ar (ak (fun J => ⟨rfl, fun w' _ => ex_slice65 rfl rfl rfl rfl⟩) (ac (fun w' h => eC call90 (CS.out w' (h.pick [4, 5, 6, 7] rfl (by decide)))) (ac (fun w' h => eC call88 (CT.out w' (h.two 4 5 rfl rfl (by decide)))) trivial))))))))))))
 intro _ w13 H13
 clear H12
 refine zF (l := [13]) rfl ?_
 refine sF 0 [en U.1, en U.2.1, en U.2.2] [_, _, _, _, _, _, _, _] H13 o9_2 As124 fun w14 H14 => ?_
 clear H13
 refine zE (zI (zA ?_))
 refine zC 2 [.q (.int .i64 0), .q (.int .i64 32)] H14 ?ho14 ?he14
 case ho14 => exact ar (av trivial)
 intro _ w15 H15
 clear H14
 refine zF (l := [2]) rfl ?_
 refine zG (d := 11) rfl rfl rfl rfl ?_
 simp only [Act.put, sa, sz, ss]
 refine zE (zA ?_)
 refine zM (n := 0) ?_
 refine wp_seq (wp_seq ?_)
 refine zC 4 [.q (.int .i64 32), .q (.slice (some ⟨gp, 0, none⟩) 1 1), .q (.int .i64 1), .q (.bool false)] H15 ?ho15 ?he15
 case ho15 => exact ar (ar (ag (ag trivial)))
 intro _ w16 H16
 clear H15
 refine rN (wp_cond_false rfl ?_)
 refine wp_exit ?_
 repeat refine zY ?_
 refine zU ?_
 refine zA (wp_seq ?_)
 refine zC 3 [.q (.agg (G1 g tn (en u) (en b)).toArray), .q (V [en U.1, en U.2.1, en U.2.2]), .call (.agg (yC r k zr).toArray)] H16 ?ho16 ?he16
 case ho16 => exact bT 2 Ai82 As82 (bA 0 3 0 Ai124 As124 (ac (fun w' h => eC call87 (CW.out w' (h.two 4 5 rfl rfl (by decide)))) trivial))
 intro _ w17 H17
 clear H16
 refine zF (l := [3, 4]) rfl ?_
 refine sG rfl (fun h => ex_storeT (vs := yC r k zr) h 3 rfl rfl rfl rfl As85 rfl (Nat.le_of_ble_eq_true rfl)) 3 [_, _, _, (_, yC r k zr), _, _, _, _] H17 o1_1 fun w18 H18 => ?_
 clear H17
 refine zG (d := 7) rfl rfl rfl rfl ?_
 simp only [Act.put, sa, sz, ss]
 refine zE (zA (wp_ret ?_))
 repeat (first | refine zK ?_ | refine zH ?_)
 have hf0 := var_T H18.out.1 3 rfl Ai85 As85 rfl
 refine bodyPost_ret (v := .tuple #[.agg (yC r k zr).toArray, .int .i64 0]) (by simp [results, Tryz.results49, asAddr, Act.eval, hf0]) rfl ?_
 exact ⟨rfl, H18.out.2⟩
set_option maxHeartbeats 4000000 in
theorem Sum_1 (one four x y r k nn gl gn : Nat) (zb zr : Bool) (er : Int) (cf : ∀ w, Calls Tryz.prog 41 #[] w fun e w' => Below w.heap.size w w' ∧ ∃ g x y, e = .returned (.agg (G1 g (.func (.func 73) #[] #[PT x 0, PT y 0]) one four).toArray) ∧ w.heap.size ≤ g ∧ g < w'.heap.size ∧ Blk w' g (zV pB)) (cs : ∀ g tn gp w, Mm w [(g, zV pB), (2, dtab), (gp, yC x y zb), (gn, zD nn)] → Calls Tryz.prog 49 #[(.agg (G1 g tn one four).toArray), .slice (some ⟨gp, 0, none⟩) 1 1, .slice (some ⟨gn, 0, none⟩) 1 1] w (Rt w (.tuple #[.agg (yC r k zr).toArray, .int .i64 er]))) (w : World) (hm : Mm w [(2, dtab), (gl, yC x y zb), (gn, zD nn)]) :
  Calls Tryz.prog 22 #[.slice (some ⟨gl, 0, none⟩) 1 1, .slice (some ⟨gn, 0, none⟩) 1 1] w (Rt w (.tuple #[.agg (yC r k zr).toArray, .int .i64 er])) := by
 have H0 : Hid (_ ∧ _) := ⟨hm, Below.refl w.heap.size w⟩
 clear hm
 have CF : Hid _ := cf
 clear cf
 have CS : Hid _ := cs
 clear cs
 go_enter Tryz.func22, Tryz.ntmps22
 refine wp_seq ?_
 refine zB 2 [.made (yC 0 0 false) 27, .q (.int .i64 0)] (sB H0) ?ho1 ?he1
 case ho1 => exact am (ex_madeP1 rfl) (ar trivial)
 intro J w1 l hM hl
 have H1 : Hid (Mm w1 ([(J 0, yC 0 0 false)] ++ _) ∧ _) := wB H0 hM hl [0]
 have o1_0 := vB H0 hM hl 0
 clear hM hl l
 generalize J 0 = J1_0 at H1 o1_0 ⊢
 clear J
 refine rN (wp_seq ?_)
 refine zC 2 [.q (.slice (some ⟨gl, 0, none⟩) 1 1), .q (.int .i64 1)] H1 ?ho2 ?he2
 case ho2 => exact ar (ag trivial)
 intro _ w2 H2
 clear H1
 refine zF (l := [2, 3]) rfl ?_
 refine zG (d := 13) (v := .slice (some ⟨w2.heap.size, 0, none⟩) 1 1) (w' := w2.alloc (.cells (yC 0 0 false : List Value).toArray 85)) rfl rfl rfl (ex_mkPN rfl rfl rfl) ?_
 simp only [Act.put, sa, sz, ss]
 have o_Js3 : Hid (w.heap.size ≤ w2.heap.size) := H2.out.2.size
 have H3 : Hid (Mm (w2.alloc (.cells (yC 0 0 false : List Value).toArray 85)) ((w2.heap.size, yC 0 0 false) :: [(J1_0, yC 0 0 false), (2, dtab), (gl, yC x y zb), (gn, zD nn)]) ∧ Below w.heap.size w (w2.alloc (.cells (yC 0 0 false : List Value).toArray 85))) := ⟨H2.out.1.alloc _ 85 rfl, H2.out.2.alloc H2.out.2.size _⟩
 clear H2
 generalize hgw : w2.alloc (.cells (yC 0 0 false : List Value).toArray 85) = w3 at H3 ⊢
 clear hgw
 generalize w2.heap.size = Js3 at o_Js3 H3 ⊢
 refine zG (d := 6) rfl rfl rfl rfl ?_
 simp only [Act.put, sa, sz, ss]
 refine zE (zA ?_)
 refine wp_seq (wp_seq ?_)
 refine zC 3 [.q (.slice (some ⟨gl, 0, none⟩) 1 1), .q (.int .i64 1), .q (.int .i64 0)] H3 ?ho3 ?he3
 case ho3 => exact ar (ag (ar trivial))
 intro _ w4 H4
 clear H3
 refine rN (wp_block ?_)
 refine wp_loop_rounds 2 ?_
 refine zM (n := 1) ?_
 refine wp_seq ?_
 refine zC 1 [.q (.bool true)] H4 ?ho4 ?he4
 case ho4 => exact ag trivial
 intro _ w5 H5
 clear H4
 refine rN (wp_seq ?_)
 refine wp_cond_true rfl (wp_skip ?_)
 refine zA (wp_seq ?_)
 refine wp_block (wp_seq ?_)
 refine zB 6 [.q (.int .i64 0), .q (PT gl 0), .q (.agg (yC x y zb).toArray), .made (yC 0 0 false) 27, .q (.int .i64 0), .laid 3 (yC 0 0 false) (yC x y zb)] (sB H5) ?ho5 ?he5 (hL := ?hL5)
 case hL5 => exact ⟨⟨_, rfl⟩, trivial⟩
 case ho5 => exact ar (ag (bT 3 Ai27 As27 (am (ex_madeP1 rfl) (ar (ak (fun J => ⟨rfl, rfl, rfl, fun w' h => ex_laidT h rfl rfl As27 rfl rfl rfl⟩) trivial)))))
 intro J w6 l hM hl
 have H6 : Hid (Mm w6 ([(J 3, yC x y zb)] ++ _) ∧ _) := wB H5 hM hl [3]
 have o5_3 := vB H5 hM hl 3
 clear hM hl l H5
 generalize J 3 = J5_3 at H6 o5_3 ⊢
 clear J
 refine rN ?_
 refine zC 4 [.q (.slice (some ⟨Js3, 0, none⟩) 1 1), .q (.int .i64 0), .q (.agg (yC x y zb).toArray), .q (PT Js3 0)] H6 ?ho6 ?he6
 case ho6 => exact ar (ar (bT 0 Ai27 As27 (ag trivial)))
 intro _ w7 H7
 clear H6
 refine zF (l := [4]) rfl ?_
 refine sG rfl (fun h => ex_storeT (vs := yC x y zb) h 1 rfl rfl rfl rfl As85 rfl (Nat.le_of_ble_eq_true rfl)) 1 [_, (_, yC x y zb), _, _, _, _] H7 o_Js3 fun w8 H8 => ?_
 clear H7
 refine zE (zI (zA ?_))
 refine zC 1 [.q (.int .i64 1)] H8 ?ho7 ?he7
 case ho7 => exact av trivial
 intro _ w9 H9
 clear H8
 refine zF (l := [1]) rfl ?_
 refine zG (d := 16) rfl rfl rfl rfl ?_
 simp only [Act.put, sa, sz, ss]
 refine zE (zA ?_)
 refine zM (n := 0) ?_
 refine wp_seq ?_
 refine zC 1 [.q (.bool false)] H9 ?ho8 ?he8
 case ho8 => exact ag trivial
 intro _ w10 H10
 clear H9
 refine rN (wp_seq (wp_cond_false rfl ?_))
 refine wp_exit ?_
 repeat refine zY ?_
 refine zU ?_
 refine zA (wp_seq ?_)
 refine zB 10 [.bornX (fun g x y => .agg (G1 g (.func (.func 73) #[] #[PT x 0, PT y 0]) one four).toArray) (zV pB), .q (.slice (some ⟨Js3, 0, none⟩) 1 1), .q (.slice (some ⟨gn, 0, none⟩) 1 1), .over (.tuple #[.agg (yC r k zr).toArray, .int .i64 er]) 0 (zV pB), .q (.tuple #[.agg (yC r k zr).toArray, .int .i64 er]), .q (.agg (yC r k zr).toArray), .q (.int .i64 er), .made (yC 0 0 false) 85, .laid 7 (yC 0 0 false) (yC r k zr), .q (.int .i64 er)] (sB H10) ?ho9 ?he9 (hL := ?hL9)
 case hL9 => exact ⟨⟨_, rfl⟩, ⟨_, rfl⟩, trivial⟩
 case ho9 => exact ak (fun J => ⟨rfl, fun w' h => eC call41 (CF.out w')⟩) (ar (ar (ak (fun J => ⟨rfl, fun u w' h0 hge h1 hb hlt => by have h := Mm.over h0 hge h1 hb hlt; exact eC call49 (CS.out _ _ _ w' (h.pick [0, 4, 2, 6] rfl (by decide)))⟩) (ar (ag (ag (am (ex_madePN rfl) (ak (fun J => ⟨rfl, rfl, rfl, fun w' h => ex_laidT h rfl rfl As85 rfl rfl rfl⟩) (ar trivial)))))))))
 intro J w11 l hM hl
 have H11 : Hid (Mm w11 ([(J 0, zV pB), (J 7, yC r k zr)] ++ _) ∧ _) := wB H10 hM hl [0, 7]
 have o9_0 := vB H10 hM hl 0
 have o9_7 := vB H10 hM hl 7
 clear hM hl l H10
 generalize J 0 = J9_0 at H11 o9_0 ⊢
 generalize J 7 = J9_7 at H11 o9_7 ⊢
 generalize J 65536 = J9_65536
 generalize J 131072 = J9_131072
 clear J
 refine rN (wp_seq ?_)
 refine zC 2 [.q (.agg (yC r k zr).toArray), .q (.int .i64 er)] H11 ?ho10 ?he10
 case ho10 => exact bT 1 Ai85 As85 (ar trivial)
 intro _ w12 H12
 clear H11
 refine zF (l := [2, 3]) rfl ?_
 refine sG rfl (fun h => ex_storeT (vs := yC r k zr) h 4 rfl rfl rfl rfl As27 rfl (Nat.le_of_ble_eq_true rfl)) 4 [_, _, _, _, (_, yC r k zr), _, _, _] H12 o1_0 fun w13 H13 => ?_
 clear H12
 refine zG (d := 5) rfl rfl rfl rfl ?_
 simp only [Act.put, sa, sz, ss]
 refine zE (zA (wp_ret ?_))
 repeat (first | refine zK ?_ | refine zH ?_)
 have hf0 := var_T H13.out.1 4 rfl Ai27 As27 rfl
 refine bodyPost_ret (v := .tuple #[.agg (yC r k zr).toArray, .int .i64 er]) (by simp [results, Tryz.results22, asAddr, Act.eval, hf0]) rfl ?_
 exact ⟨rfl, H13.out.2⟩
set_option maxHeartbeats 4000000 in
theorem Mul_1 (x y r k nn : Nat) (zb zr : Bool) (er : Int) (cs : ∀ gl gn w, Mm w [(2, dtab), (gl, yC x y zb), (gn, zD nn)] → Calls Tryz.prog 22 #[.slice (some ⟨gl, 0, none⟩) 1 1, .slice (some ⟨gn, 0, none⟩) 1 1] w (Rt w (.tuple #[.agg (yC r k zr).toArray, .int .i64 er]))) (w : World) (hm : Mm w [(2, dtab)]) :
  Calls Tryz.prog 8 #[.agg (yC x y zb).toArray, N nn] w (Rt w (.tuple #[.agg (yC r k zr).toArray, .int .i64 er])) := by
 have H0 : Hid (_ ∧ _) := ⟨hm, Below.refl w.heap.size w⟩
 clear hm
 have CS : Hid _ := cs
 clear cs
 go_enter Tryz.func8, Tryz.ntmps8
 refine wp_seq ?_
 refine zB 4 [.made (yC x y zb) 27, .made (zD nn) 24, .made (yC 0 0 false) 27, .q (.int .i64 0)] (sB H0) ?ho1 ?he1
 case ho1 => exact am (zS rfl rfl) (am (yE rfl rfl) (am (ex_madeP1 rfl) (ar trivial)))
 intro J w1 l hM hl
 have H1 : Hid (Mm w1 ([(J 0, yC x y zb), (J 1, zD nn), (J 2, yC 0 0 false)] ++ _) ∧ _) := wB H0 hM hl [0, 1, 2]
 have o1_0 := vB H0 hM hl 0
 have o1_1 := vB H0 hM hl 1
 have o1_2 := vB H0 hM hl 2
 clear hM hl l
 generalize J 0 = J1_0 at H1 o1_0 ⊢
 generalize J 1 = J1_1 at H1 o1_1 ⊢
 generalize J 2 = J1_2 at H1 o1_2 ⊢
 clear J
 refine rN (wp_seq ?_)
 refine zC 1 [.q (.agg (yC x y zb).toArray)] H1 ?ho2 ?he2
 case ho2 => exact bT 0 Ai27 As27 trivial
 intro _ w2 H2
 clear H1
 refine zF (l := [1, 2, 3, 4, 5, 6, 7, 8]) rfl ?_
 refine zG (d := 7) (v := .slice (some ⟨w2.heap.size, 0, none⟩) 1 1) (w' := w2.alloc (.cells (yC x y zb : List Value).toArray 27)) rfl rfl rfl (ex_bs53 rfl rfl) ?_
 simp only [Act.put, sa, sz, ss]
 have o_Js3 : Hid (w.heap.size ≤ w2.heap.size) := H2.out.2.size
 have H3 : Hid (Mm (w2.alloc (.cells (yC x y zb : List Value).toArray 27)) ((w2.heap.size, yC x y zb) :: [(J1_0, yC x y zb), (J1_1, zD nn), (J1_2, yC 0 0 false), (2, dtab)]) ∧ Below w.heap.size w (w2.alloc (.cells (yC x y zb : List Value).toArray 27))) := ⟨H2.out.1.alloc _ 27 rfl, H2.out.2.alloc H2.out.2.size _⟩
 clear H2
 generalize hgw : w2.alloc (.cells (yC x y zb : List Value).toArray 27) = w3 at H3 ⊢
 clear hgw
 generalize w2.heap.size = Js3 at o_Js3 H3 ⊢
 refine zG (d := 8) (v := N nn) rfl rfl rfl (yG H3.out.1 2 rfl rfl rfl rfl) ?_
 simp only [Act.put, sa, sz, ss]
 refine zG (d := 9) (v := .slice (some ⟨w3.heap.size, 0, none⟩) 1 1) (w' := w3.alloc (.cells (zD nn : List Value).toArray 24)) rfl rfl rfl (ex_bs65 rfl rfl) ?_
 simp only [Act.put, sa, sz, ss]
 have o_Js4 : Hid (w.heap.size ≤ w3.heap.size) := H3.out.2.size
 have H4 : Hid (Mm (w3.alloc (.cells (zD nn : List Value).toArray 24)) ((w3.heap.size, zD nn) :: [(Js3, yC x y zb), (J1_0, yC x y zb), (J1_1, zD nn), (J1_2, yC 0 0 false), (2, dtab)]) ∧ Below w.heap.size w (w3.alloc (.cells (zD nn : List Value).toArray 24))) := ⟨H3.out.1.alloc _ 24 rfl, H3.out.2.alloc H3.out.2.size _⟩
 clear H3
 generalize hgw : w3.alloc (.cells (zD nn : List Value).toArray 24) = w4 at H4 ⊢
 clear hgw
 generalize w3.heap.size = Js4 at o_Js4 H4 ⊢
 refine rest_enter (d := 10) (R := fun vv w' => vv = .tuple #[.agg (yC r k zr).toArray, .int .i64 er] ∧ Below w4.heap.size w4 w') rfl rfl rfl (exec_call (args := #[.slice (some ⟨Js3, 0, none⟩) 1 1, .slice (some ⟨Js4, 0, none⟩) 1 1]) rfl call22 rfl (mpn rfl)) (Calls.mono (CS.out _ _ w4 (H4.out.1.pick [5, 1, 0] rfl (by decide))) (fun e w2 hh => ⟨_, hh.1, rfl, hh.2⟩)) ?_
 rintro _ w5 ⟨rfl, hb⟩
 have H5 : Hid (_ ∧ _) := ⟨H4.out.1.below hb, H4.out.2.trans (hb.mono H4.out.2.size)⟩
 clear hb H4
 simp only [Act.put, sa, sz, ss]
 refine zG (d := 11) (v := .agg (yC r k zr).toArray) (w' := w5) rfl rfl rfl (by go_simp) ?_
 simp only [Act.put, sa, sz, ss]
 refine zG (d := 12) (v := .int .i64 er) (w' := w5) rfl rfl rfl (by go_simp) ?_
 simp only [Act.put, sa, sz, ss]
 refine sG rfl (fun h => ex_storeT (vs := yC r k zr) h 4 rfl rfl rfl rfl As27 rfl (Nat.le_of_ble_eq_true rfl)) 4 [_, _, _, _, (_, yC r k zr), _] H5 o1_2 fun w6 H6 => ?_
 clear H5
 refine zG (d := 5) rfl rfl rfl rfl ?_
 simp only [Act.put, sa, sz, ss]
 refine zE (zA (wp_ret ?_))
 repeat (first | refine zK ?_ | refine zH ?_)
 have hf0 := var_T H6.out.1 4 rfl Ai27 As27 rfl
 refine bodyPost_ret (v := .tuple #[.agg (yC r k zr).toArray, .int .i64 er]) (by simp [results, Tryz.results8, asAddr, Act.eval, hf0]) rfl ?_
 exact ⟨rfl, H6.out.2⟩
end Rg
end Go.Proofs.YtmanelnacifgcaaGreatDoor
end
section
namespace Go.Proofs.YtmanelnacifgcaaGreatDoor
open Go.RowKit
namespace Rg
open NT
def dgt (v k : Nat) : Nat := v * 16 ^ k % 18446744073709551616 / 1152921504606846976
def wof (v k : Nat) : Int := ((v * 16 ^ k % 18446744073709551616 : Nat) : Int)
theorem dgt_lt (v k : Nat) : dgt v k < 16 := by
 unfold dgt
 have := Nat.mod_lt (v * 16 ^ k) (show 0 < 18446744073709551616 by decide)
 omega
theorem wof_0 {v : Nat} (h : v < 18446744073709551616) : wof v 0 = ((v : Nat) : Int) := by
 unfold wof
 rw [Nat.pow_zero, Nat.mul_one, Nat.mod_eq_of_lt h]
theorem wof_16 (v : Nat) : wof v 16 = 0 := by
 unfold wof
 rw [show (16 : Nat) ^ 16 = 18446744073709551616 by decide, Nat.mul_mod_left]
 rfl
theorem wof_d (v k : Nat) : wof v k / 2 ^ 60 = ((dgt v k : Nat) : Int) := by
 unfold wof dgt
 rw [show (2 : Int) ^ 60 = ((1152921504606846976 : Nat) : Int) by decide, ← Int.natCast_ediv]
theorem wof_w (v k : Nat) : IntKind.u64.wrap (wof v k * 2 ^ 4) = wof v (k + 1) := by
 unfold wof
 rw [IntKind.wrap_u64, Nat.pow_succ, ← Nat.mul_assoc, show (2 : Int) ^ 4 = ((16 : Nat) : Int) by decide, ← Int.natCast_mul, show (18446744073709551616 : Int) = ((18446744073709551616 : Nat) : Int) from rfl, ← Int.natCast_emod, Nat.mod_mul_mod]
theorem hi_next (v k : Nat) : v * 16 ^ (k + 1) / 18446744073709551616 = 16 * (v * 16 ^ k / 18446744073709551616) + dgt v k := by
 unfold dgt
 rw [Nat.pow_succ, ← Nat.mul_assoc]
 generalize v * 16 ^ k = X
 omega
theorem hi_word (nn j : Nat) : nn / 2 ^ (64 * (j + 1)) * 18446744073709551616 + wn nn j = nn / 2 ^ (64 * j) := by
 unfold wn
 rw [Nat.mul_add, Nat.pow_add, ← Nat.div_div_eq_div_mul]
 generalize nn / 2 ^ (64 * j) = X
 rw [show 2 ^ (64 * 1) = 18446744073709551616 by decide]
 omega
theorem hi_top {nn : Nat} (h : nn < big) : nn / 2 ^ (64 * (6 - 0)) = 0 := by
 obtain ⟨m, hm, hb⟩ := big_pow
 rw [show 6 - 0 = m by omega, ← hb]
 exact Nat.div_eq_of_lt h
def tab1 {I : Fp → Fp} (hI : zW I) (P : Option (Fp × Fp)) : Nat → EC.Tri Fp
 | 0 => (K1 hI).lift none
 | 1 => (K1 hI).lift P
 | 2 => (K1 hI).twice ((K1 hI).lift P)
 | 3 => (K1 hI).tog ((K1 hI).twice ((K1 hI).lift P)) ((K1 hI).lift P)
 | 4 => (K1 hI).twice ((K1 hI).twice ((K1 hI).lift P))
 | 5 => (K1 hI).tog ((K1 hI).twice ((K1 hI).twice ((K1 hI).lift P))) ((K1 hI).lift P)
 | 6 => (K1 hI).twice ((K1 hI).tog ((K1 hI).twice ((K1 hI).lift P)) ((K1 hI).lift P))
 | 7 => (K1 hI).tog ((K1 hI).twice ((K1 hI).tog ((K1 hI).twice ((K1 hI).lift P)) ((K1 hI).lift P))) ((K1 hI).lift P)
 | 8 => (K1 hI).twice ((K1 hI).twice ((K1 hI).twice ((K1 hI).lift P)))
 | 9 => (K1 hI).tog ((K1 hI).twice ((K1 hI).twice ((K1 hI).twice ((K1 hI).lift P)))) ((K1 hI).lift P)
 | 10 => (K1 hI).twice ((K1 hI).tog ((K1 hI).twice ((K1 hI).twice ((K1 hI).lift P))) ((K1 hI).lift P))
 | 11 => (K1 hI).tog ((K1 hI).twice ((K1 hI).tog ((K1 hI).twice ((K1 hI).twice ((K1 hI).lift P))) ((K1 hI).lift P))) ((K1 hI).lift P)
 | 12 => (K1 hI).twice ((K1 hI).twice ((K1 hI).tog ((K1 hI).twice ((K1 hI).lift P)) ((K1 hI).lift P)))
 | 13 => (K1 hI).tog ((K1 hI).twice ((K1 hI).twice ((K1 hI).tog ((K1 hI).twice ((K1 hI).lift P)) ((K1 hI).lift P)))) ((K1 hI).lift P)
 | 14 => (K1 hI).twice ((K1 hI).tog ((K1 hI).twice ((K1 hI).tog ((K1 hI).twice ((K1 hI).lift P)) ((K1 hI).lift P))) ((K1 hI).lift P))
 | 15 => (K1 hI).tog ((K1 hI).twice ((K1 hI).tog ((K1 hI).twice ((K1 hI).tog ((K1 hI).twice ((K1 hI).lift P)) ((K1 hI).lift P))) ((K1 hI).lift P))) ((K1 hI).lift P)
 | _ => (K1 hI).lift none
def fn1 {I : Fp → Fp} (hI : zW I) (P : Option (Fp × Fp)) (k : Nat) : Nat :=
 match k % 3 with
 | 0 => p0 (tab1 hI P (k / 3)).1
 | 1 => p0 (tab1 hI P (k / 3)).2.1
 | _ => p0 (tab1 hI P (k / 3)).2.2
theorem fn1_0 {I : Fp → Fp} (hI : zW I) (P : Option (Fp × Fp)) (d : Nat) : fn1 hI P (3 * d) = p0 (tab1 hI P d).1 := by
 unfold fn1
 rw [show (3 * d) % 3 = 0 by omega, show (3 * d) / 3 = d by omega]
 rfl
theorem fn1_1 {I : Fp → Fp} (hI : zW I) (P : Option (Fp × Fp)) (d : Nat) : fn1 hI P (3 * d + 1) = p0 (tab1 hI P d).2.1 := by
 unfold fn1
 rw [show (3 * d + 1) % 3 = 1 by omega, show (3 * d + 1) / 3 = d by omega]
 rfl
theorem fn1_2 {I : Fp → Fp} (hI : zW I) (P : Option (Fp × Fp)) (d : Nat) : fn1 hI P (3 * d + 2) = p0 (tab1 hI P d).2.2 := by
 unfold fn1
 rw [show (3 * d + 2) % 3 = 2 by omega, show (3 * d + 2) / 3 = d by omega]
 rfl
theorem tabrep1 {I : Fp → Fp} (hI : zW I) {P : Option (Fp × Fp)} (h : (K1 hI).on P) : ∀ j, j < 16 → (K1 hI).rep (tab1 hI P j) ((K1 hI).times P j) := by
 have o := fun k => (K1 hI).times_on h k
 have rp : (K1 hI).rep ((K1 hI).lift P) P := (K1 hI).rep_lift P
 have r1 : (K1 hI).rep ((K1 hI).lift P) ((K1 hI).times P 1) := by rw [(K1 hI).times_one h]; exact rp
 have two : ∀ k (A : EC.Tri Fp), (K1 hI).rep A ((K1 hI).times P k) → (K1 hI).rep ((K1 hI).twice A) ((K1 hI).times P (2 * k)) := fun k A hk => by
  rw [← (K1 hI).times_two h]
  exact (K1 hI).rep_twice hk (o k)
 have odd : ∀ k (A : EC.Tri Fp), (K1 hI).rep A ((K1 hI).times P k) → (K1 hI).rep ((K1 hI).tog A ((K1 hI).lift P)) ((K1 hI).times P (k + 1)) := fun k A hk => (K1 hI).rep_tog hk rp (o k) h
 have r2 : (K1 hI).rep (tab1 hI P 2) ((K1 hI).times P 2) := two 1 _ r1
 have r3 : (K1 hI).rep (tab1 hI P 3) ((K1 hI).times P 3) := odd 2 _ r2
 have r4 : (K1 hI).rep (tab1 hI P 4) ((K1 hI).times P 4) := two 2 _ r2
 have r5 : (K1 hI).rep (tab1 hI P 5) ((K1 hI).times P 5) := odd 4 _ r4
 have r6 : (K1 hI).rep (tab1 hI P 6) ((K1 hI).times P 6) := two 3 _ r3
 have r7 : (K1 hI).rep (tab1 hI P 7) ((K1 hI).times P 7) := odd 6 _ r6
 have r8 : (K1 hI).rep (tab1 hI P 8) ((K1 hI).times P 8) := two 4 _ r4
 have r9 : (K1 hI).rep (tab1 hI P 9) ((K1 hI).times P 9) := odd 8 _ r8
 have r10 : (K1 hI).rep (tab1 hI P 10) ((K1 hI).times P 10) := two 5 _ r5
 have r11 : (K1 hI).rep (tab1 hI P 11) ((K1 hI).times P 11) := odd 10 _ r10
 have r12 : (K1 hI).rep (tab1 hI P 12) ((K1 hI).times P 12) := two 6 _ r6
 have r13 : (K1 hI).rep (tab1 hI P 13) ((K1 hI).times P 13) := odd 12 _ r12
 have r14 : (K1 hI).rep (tab1 hI P 14) ((K1 hI).times P 14) := two 7 _ r7
 have r15 : (K1 hI).rep (tab1 hI P 15) ((K1 hI).times P 15) := odd 14 _ r14
 intro j hj
 match j, hj with
 | 0, _ => exact (K1 hI).rep_lift none
 | 1, _ => exact r1
 | 2, _ => exact r2
 | 3, _ => exact r3
 | 4, _ => exact r4
 | 5, _ => exact r5
 | 6, _ => exact r6
 | 7, _ => exact r7
 | 8, _ => exact r8
 | 9, _ => exact r9
 | 10, _ => exact r10
 | 11, _ => exact r11
 | 12, _ => exact r12
 | 13, _ => exact r13
 | 14, _ => exact r14
 | 15, _ => exact r15
 | _ + 16, h => exact absurd h (by omega)
theorem fnl1 {I : Fp → Fp} (hI : zW I) (P : Option (Fp × Fp)) (d : Nat) : [fn1 hI P (3 * d), fn1 hI P (3 * d + 1), fn1 hI P (3 * d + 2)] = t1 (tab1 hI P d) := by rw [fn1_0, fn1_1, fn1_2]
theorem fl1_0 {I : Fp → Fp} (hI : zW I) (P : Option (Fp × Fp)) : [fn1 hI P 0, fn1 hI P 1, fn1 hI P 2] = t1 (tab1 hI P 0) := fnl1 hI P 0
theorem fl1_1 {I : Fp → Fp} (hI : zW I) (P : Option (Fp × Fp)) : [fn1 hI P 3, fn1 hI P 4, fn1 hI P 5] = t1 (tab1 hI P 1) := fnl1 hI P 1
theorem fl1_2 {I : Fp → Fp} (hI : zW I) (P : Option (Fp × Fp)) : [fn1 hI P 6, fn1 hI P 7, fn1 hI P 8] = t1 (tab1 hI P 2) := fnl1 hI P 2
theorem fl1_3 {I : Fp → Fp} (hI : zW I) (P : Option (Fp × Fp)) : [fn1 hI P 9, fn1 hI P 10, fn1 hI P 11] = t1 (tab1 hI P 3) := fnl1 hI P 3
theorem fl1_4 {I : Fp → Fp} (hI : zW I) (P : Option (Fp × Fp)) : [fn1 hI P 12, fn1 hI P 13, fn1 hI P 14] = t1 (tab1 hI P 4) := fnl1 hI P 4
theorem fl1_5 {I : Fp → Fp} (hI : zW I) (P : Option (Fp × Fp)) : [fn1 hI P 15, fn1 hI P 16, fn1 hI P 17] = t1 (tab1 hI P 5) := fnl1 hI P 5
theorem fl1_6 {I : Fp → Fp} (hI : zW I) (P : Option (Fp × Fp)) : [fn1 hI P 18, fn1 hI P 19, fn1 hI P 20] = t1 (tab1 hI P 6) := fnl1 hI P 6
theorem fl1_7 {I : Fp → Fp} (hI : zW I) (P : Option (Fp × Fp)) : [fn1 hI P 21, fn1 hI P 22, fn1 hI P 23] = t1 (tab1 hI P 7) := fnl1 hI P 7
theorem fl1_8 {I : Fp → Fp} (hI : zW I) (P : Option (Fp × Fp)) : [fn1 hI P 24, fn1 hI P 25, fn1 hI P 26] = t1 (tab1 hI P 8) := fnl1 hI P 8
theorem fl1_9 {I : Fp → Fp} (hI : zW I) (P : Option (Fp × Fp)) : [fn1 hI P 27, fn1 hI P 28, fn1 hI P 29] = t1 (tab1 hI P 9) := fnl1 hI P 9
theorem fl1_10 {I : Fp → Fp} (hI : zW I) (P : Option (Fp × Fp)) : [fn1 hI P 30, fn1 hI P 31, fn1 hI P 32] = t1 (tab1 hI P 10) := fnl1 hI P 10
theorem fl1_11 {I : Fp → Fp} (hI : zW I) (P : Option (Fp × Fp)) : [fn1 hI P 33, fn1 hI P 34, fn1 hI P 35] = t1 (tab1 hI P 11) := fnl1 hI P 11
theorem fl1_12 {I : Fp → Fp} (hI : zW I) (P : Option (Fp × Fp)) : [fn1 hI P 36, fn1 hI P 37, fn1 hI P 38] = t1 (tab1 hI P 12) := fnl1 hI P 12
theorem fl1_13 {I : Fp → Fp} (hI : zW I) (P : Option (Fp × Fp)) : [fn1 hI P 39, fn1 hI P 40, fn1 hI P 41] = t1 (tab1 hI P 13) := fnl1 hI P 13
theorem fl1_14 {I : Fp → Fp} (hI : zW I) (P : Option (Fp × Fp)) : [fn1 hI P 42, fn1 hI P 43, fn1 hI P 44] = t1 (tab1 hI P 14) := fnl1 hI P 14
theorem fl1_15 {I : Fp → Fp} (hI : zW I) (P : Option (Fp × Fp)) : [fn1 hI P 45, fn1 hI P 46, fn1 hI P 47] = t1 (tab1 hI P 15) := fnl1 hI P 15
theorem ts1_2 {I : Fp → Fp} (hI : zW I) (P : Option (Fp × Fp)) : tab1 hI P 2 = (K1 hI).twice (tab1 hI P 1) := rfl
theorem ts1_3 {I : Fp → Fp} (hI : zW I) (P : Option (Fp × Fp)) : tab1 hI P 3 = (K1 hI).tog (tab1 hI P 2) (tab1 hI P 1) := rfl
theorem ts1_4 {I : Fp → Fp} (hI : zW I) (P : Option (Fp × Fp)) : tab1 hI P 4 = (K1 hI).twice (tab1 hI P 2) := rfl
theorem ts1_5 {I : Fp → Fp} (hI : zW I) (P : Option (Fp × Fp)) : tab1 hI P 5 = (K1 hI).tog (tab1 hI P 4) (tab1 hI P 1) := rfl
theorem ts1_6 {I : Fp → Fp} (hI : zW I) (P : Option (Fp × Fp)) : tab1 hI P 6 = (K1 hI).twice (tab1 hI P 3) := rfl
theorem ts1_7 {I : Fp → Fp} (hI : zW I) (P : Option (Fp × Fp)) : tab1 hI P 7 = (K1 hI).tog (tab1 hI P 6) (tab1 hI P 1) := rfl
theorem ts1_8 {I : Fp → Fp} (hI : zW I) (P : Option (Fp × Fp)) : tab1 hI P 8 = (K1 hI).twice (tab1 hI P 4) := rfl
theorem ts1_9 {I : Fp → Fp} (hI : zW I) (P : Option (Fp × Fp)) : tab1 hI P 9 = (K1 hI).tog (tab1 hI P 8) (tab1 hI P 1) := rfl
theorem ts1_10 {I : Fp → Fp} (hI : zW I) (P : Option (Fp × Fp)) : tab1 hI P 10 = (K1 hI).twice (tab1 hI P 5) := rfl
theorem ts1_11 {I : Fp → Fp} (hI : zW I) (P : Option (Fp × Fp)) : tab1 hI P 11 = (K1 hI).tog (tab1 hI P 10) (tab1 hI P 1) := rfl
theorem ts1_12 {I : Fp → Fp} (hI : zW I) (P : Option (Fp × Fp)) : tab1 hI P 12 = (K1 hI).twice (tab1 hI P 6) := rfl
theorem ts1_13 {I : Fp → Fp} (hI : zW I) (P : Option (Fp × Fp)) : tab1 hI P 13 = (K1 hI).tog (tab1 hI P 12) (tab1 hI P 1) := rfl
theorem ts1_14 {I : Fp → Fp} (hI : zW I) (P : Option (Fp × Fp)) : tab1 hI P 14 = (K1 hI).twice (tab1 hI P 7) := rfl
theorem ts1_15 {I : Fp → Fp} (hI : zW I) (P : Option (Fp × Fp)) : tab1 hI P 15 = (K1 hI).tog (tab1 hI P 14) (tab1 hI P 1) := rfl
theorem tableE_1 {I : Fp → Fp} (hI : zW I) {g : Nat} {tn : Value} (P : Option (Fp × Fp)) (w : World) (hm : Mm w [(g, zV pB), (2, dtab)]) : Calls Tryz.prog 120 #[(GV1 g tn), enc1 P] w (Rt w (V (tb1 (fn1 hI P)))) :=
 tableOf_1 (u := (K1 hI).R.one) (b := (K1 hI).b) (tn := tn) (fd1 hI g) (fn1 hI P) (c1x P) (c1y P) (c1z P) (fun w hm => by rw [fl1_0 hI P]; exact zeroE_1 hI w hm) (fun w hm => by rw [fl1_1 hI P]; exact liftE_1 hI P w hm)
  (fun w hm => by rw [fl1_1 hI P, fl1_2 hI P, ts1_2]; exact twiceE_1 hI (tab1 hI P 1) w hm)
  (fun w hm => by rw [fl1_2 hI P, fl1_1 hI P, fl1_3 hI P, ts1_3]; exact togE_1 hI (tab1 hI P 2) (tab1 hI P 1) w hm)
  (fun w hm => by rw [fl1_2 hI P, fl1_4 hI P, ts1_4]; exact twiceE_1 hI (tab1 hI P 2) w hm)
  (fun w hm => by rw [fl1_4 hI P, fl1_1 hI P, fl1_5 hI P, ts1_5]; exact togE_1 hI (tab1 hI P 4) (tab1 hI P 1) w hm)
  (fun w hm => by rw [fl1_3 hI P, fl1_6 hI P, ts1_6]; exact twiceE_1 hI (tab1 hI P 3) w hm)
  (fun w hm => by rw [fl1_6 hI P, fl1_1 hI P, fl1_7 hI P, ts1_7]; exact togE_1 hI (tab1 hI P 6) (tab1 hI P 1) w hm)
  (fun w hm => by rw [fl1_4 hI P, fl1_8 hI P, ts1_8]; exact twiceE_1 hI (tab1 hI P 4) w hm)
  (fun w hm => by rw [fl1_8 hI P, fl1_1 hI P, fl1_9 hI P, ts1_9]; exact togE_1 hI (tab1 hI P 8) (tab1 hI P 1) w hm)
  (fun w hm => by rw [fl1_5 hI P, fl1_10 hI P, ts1_10]; exact twiceE_1 hI (tab1 hI P 5) w hm)
  (fun w hm => by rw [fl1_10 hI P, fl1_1 hI P, fl1_11 hI P, ts1_11]; exact togE_1 hI (tab1 hI P 10) (tab1 hI P 1) w hm)
  (fun w hm => by rw [fl1_6 hI P, fl1_12 hI P, ts1_12]; exact twiceE_1 hI (tab1 hI P 6) w hm)
  (fun w hm => by rw [fl1_12 hI P, fl1_1 hI P, fl1_13 hI P, ts1_13]; exact togE_1 hI (tab1 hI P 12) (tab1 hI P 1) w hm)
  (fun w hm => by rw [fl1_7 hI P, fl1_14 hI P, ts1_14]; exact twiceE_1 hI (tab1 hI P 7) w hm)
  (fun w hm => by rw [fl1_14 hI P, fl1_1 hI P, fl1_15 hI P, ts1_15]; exact togE_1 hI (tab1 hI P 14) (tab1 hI P 1) w hm) w hm
def rowA1 {I : Fp → Fp} (hI : zW I) (P : Option (Fp × Fp)) (A : EC.Tri Fp) (v : Nat) : Nat → EC.Tri Fp
 | 0 => A
 | k + 1 => if dgt v k = 0 then (K1 hI).twice ((K1 hI).twice ((K1 hI).twice ((K1 hI).twice (rowA1 hI P A v k)))) else (K1 hI).tog ((K1 hI).twice ((K1 hI).twice ((K1 hI).twice ((K1 hI).twice (rowA1 hI P A v k))))) (tab1 hI P (dgt v k))
theorem rowrep1 {I : Fp → Fp} (hI : zW I) {P : Option (Fp × Fp)} (h : (K1 hI).on P) {A : EC.Tri Fp} {m : Nat} (hA : (K1 hI).rep A ((K1 hI).times P m)) {v : Nat} (hv : v < 18446744073709551616) : ∀ k, (K1 hI).rep (rowA1 hI P A v k) ((K1 hI).times P (m * 16 ^ k + v * 16 ^ k / 18446744073709551616))
 | 0 => by
  rw [Nat.pow_zero, Nat.mul_one, Nat.mul_one, Nat.div_eq_of_lt hv, Nat.add_zero]
  exact hA
 | k + 1 => by
  have ih := (K1 hI).times_sixteen h _ (rowrep1 hI h hA hv k)
  have e : m * 16 ^ (k + 1) + v * 16 ^ (k + 1) / 18446744073709551616 = 16 * (m * 16 ^ k + v * 16 ^ k / 18446744073709551616) + dgt v k := by
   rw [hi_next, Nat.pow_succ]
   generalize v * 16 ^ k / 18446744073709551616 = Y
   rw [← Nat.mul_assoc]
   omega
  rw [e]
  show (K1 hI).rep (if dgt v k = 0 then _ else _) _
  split
  ·next hz =>
   rw [hz, Nat.add_zero]
   exact ih
  ·rw [← (K1 hI).times_step h]
   exact (K1 hI).rep_tog ih (tabrep1 hI h _ (dgt_lt v k)) ((K1 hI).times_on h _) ((K1 hI).times_on h _)
theorem rowE_1 {I : Fp → Fp} (hI : zW I) {g : Nat} {tn : Value} (P : Option (Fp × Fp)) (A : EC.Tri Fp) {v : Nat} (hv : v < 18446744073709551616) (gt gr : Nat) (w : World) (hm : Mm w [(g, zV pB), (2, dtab), (gt, cel (tb1 (fn1 hI P))), (gr, [Value.int .u64 ((v : Nat) : Int)])]) :
  Calls Tryz.prog 121 #[(GV1 g tn), V (t1 A), .slice (some ⟨gt, 0, none⟩) 1 1, .slice (some ⟨gr, 0, none⟩) 1 1] w fun e w' => e = .returned (V (t1 (rowA1 hI P A v 16))) ∧ Mm w' [(gr, [Value.int .u64 0])] ∧ Kp gr w w' := by
 rw [← wof_0 hv] at hm
 have h := byRow_1 (u := (K1 hI).R.one) (b := (K1 hI).b) (tn := tn) (fd1 hI g) (fn1 hI P) (K1 hI).twice (fun T d => (K1 hI).tog T (tab1 hI P d)) (rowA1 hI P A v) (wof v) (dgt v) gt gr
  (fun T w hm => twiceE_1 hI T w hm)
  (fun T d _ w hm => by
   rw [fn1_0, fn1_1, fn1_2]
   exact togE_1 hI T (tab1 hI P d) w hm)
  (wof_d v) (dgt_lt v) (wof_w v) (fun k hk => (if_pos hk).symm) (fun k hk => (if_neg (by omega)).symm) w hm
 rw [wof_16] at h
 exact h
def sumS1 {I : Fp → Fp} (hI : zW I) (P : Option (Fp × Fp)) (nn : Nat) : Nat → EC.Tri Fp
 | 0 => (K1 hI).lift none
 | r + 1 => rowA1 hI P (sumS1 hI P nn r) (wn nn (5 - r)) 16
theorem sumrep1 {I : Fp → Fp} (hI : zW I) {P : Option (Fp × Fp)} (h : (K1 hI).on P) {nn : Nat} (hn : nn < big) : ∀ r, r ≤ 6 → (K1 hI).rep (sumS1 hI P nn r) ((K1 hI).times P (nn / 2 ^ (64 * (6 - r))))
 | 0, _ => by
  rw [hi_top hn]
  exact (K1 hI).rep_lift none
 | r + 1, hr => by
  have h1 := rowrep1 hI h (sumrep1 hI h hn r (by omega)) (wn_lt nn (5 - r)) 16
  rw [show (16 : Nat) ^ 16 = 18446744073709551616 by decide, Nat.mul_div_cancel _ (by decide), show 6 - r = 5 - r + 1 by omega, hi_word] at h1
  rw [show 6 - (r + 1) = 5 - r by omega]
  exact h1
theorem someE_1 {I : Fp → Fp} (hI : zW I) {g : Nat} {tn : Value} (P : Option (Fp × Fp)) {nn gp gn : Nat} (w : World) (hm : Mm w [(g, zV pB), (2, dtab), (gp, cel [c1x P, c1y P] ++ [Value.bool (c1z P)]), (gn, zD nn)]) :
  Calls Tryz.prog 90 #[(GV1 g tn), .slice (some ⟨gp, 0, none⟩) 1 1, .slice (some ⟨gn, 0, none⟩) 1 1] w (Rt w (V (t1 (sumS1 hI P nn 6)))) :=
 some_1 (u := (K1 hI).R.one) (b := (K1 hI).b) (tn := tn) (fd1 hI g) (fn1 hI P) (sumS1 hI P nn) (c1x P) (c1y P) nn gp gn (c1z P) (fun w hm => zeroE_1 hI w hm) (fun w hm => tableE_1 hI P w hm)
  (fun r _ gt gr w hm => rowE_1 hI P (sumS1 hI P nn r) (wn_lt nn (5 - r)) gt gr w hm) w hm
theorem total1 {I : Fp → Fp} (hI : zW I) {P : Option (Fp × Fp)} (h : (K1 hI).on P) {nn : Nat} (hn : nn < big) : (K1 hI).lower ((K1 hI).tog ((K1 hI).lift none) (sumS1 hI P nn 6)) = (K1 hI).times P nn := by
 have h6 := sumrep1 hI h hn 6 (Nat.le_refl 6)
 rw [Nat.sub_self, Nat.mul_zero, Nat.pow_zero, Nat.div_one] at h6
 have e := (K1 hI).rep_lower ((K1 hI).rep_tog ((K1 hI).rep_lift none) h6 trivial ((K1 hI).times_on h nn))
 rw [e, (K1 hI).zero_add ((K1 hI).times_on h nn)]
theorem sumE_1 {I : Fp → Fp} (hI : zW I) {g : Nat} {tn : Value} {P : Option (Fp × Fp)} (h : (K1 hI).on P) {nn gp gn : Nat} (hn : nn < big) (w : World) (hm : Mm w [(g, zV pB), (2, dtab), (gp, cel [c1x P, c1y P] ++ [Value.bool (c1z P)]), (gn, zD nn)]) :
  Calls Tryz.prog 49 #[(GV1 g tn), .slice (some ⟨gp, 0, none⟩) 1 1, .slice (some ⟨gn, 0, none⟩) 1 1] w (Rt w (.tuple #[enc1 ((K1 hI).times P nn), .int .i64 0])) :=
 sumY_1 (u := (K1 hI).R.one) (b := (K1 hI).b) (tn := tn) (fd1 hI g) ((K1 hI).lift none) (sumS1 hI P nn 6) ((K1 hI).tog ((K1 hI).lift none) (sumS1 hI P nn 6)) (c1x P) (c1y P) (c1x ((K1 hI).times P nn)) (c1y ((K1 hI).times P nn)) nn gp gn (c1z P) (c1z ((K1 hI).times P nn))
  (fun w hm => ckE_1 hI h w hm) (fun w hm => zeroE_1 hI w hm) (fun w hm => someE_1 hI P w hm) (fun w hm => togE_1 hI _ _ w hm) (fun w hm => by
   have e := lowerE_1 hI (tn := tn) ((K1 hI).tog ((K1 hI).lift none) (sumS1 hI P nn 6)) w hm
   rw [total1 hI h hn] at e
   exact e) w hm
theorem MulE_1 {I : Fp → Fp} (hI : zW I) {P : Option (Fp × Fp)} (h : (K1 hI).on P) {nn : Nat} (hn : nn < big) (w : World) (hm : Mm w [(2, dtab)]) : Calls Tryz.prog 8 #[enc1 P, N nn] w (Rt w (.tuple #[enc1 ((K1 hI).times P nn), .int .i64 0])) :=
 Mul_1 (c1x P) (c1y P) (c1x ((K1 hI).times P nn)) (c1y ((K1 hI).times P nn)) nn (c1z P) (c1z ((K1 hI).times P nn)) 0 (fun gl gn w hm =>
  Sum_1 1 4 (c1x P) (c1y P) (c1x ((K1 hI).times P nn)) (c1y ((K1 hI).times P nn)) nn gl gn (c1z P) (c1z ((K1 hI).times P nn)) 0 firstE (fun g tn _ w hm => sumE_1 hI (g := g) (tn := tn) h hn w hm) w hm) w hm
end Rg
end Go.Proofs.YtmanelnacifgcaaGreatDoor
end
section
namespace Go.Proofs.YtmanelnacifgcaaGreatDoor
open Go.RowKit
namespace Rg
open NT
theorem refl_P1 (a b : Nat) (z : Bool) (ha : a < big) (hb : b < big) : ∀ w, (Op.equalIn 10000 27 (pv1 a b z) (pv1 a b z)).run Tryz.prog w = .ok true w := fun w => by
 have h := run_eqP1 a b a b z z ha hb ha hb w
 refine h.trans (congrArg (fun q => Result.ok q w) ?_)
 simp
theorem refl_P2 (a b c d : Nat) (z : Bool) (ha : a < big) (hb : b < big) (hc : c < big) (hd : d < big) : ∀ w, (Op.equalIn 10000 35 (pv2 a b c d z) (pv2 a b c d z)).run Tryz.prog w = .ok true w := fun w => by
 have h := run_eqP2 a b c d a b c d z z ha hb hc hd ha hb hc hd w
 refine h.trans (congrArg (fun q => Result.ok q w) ?_)
 simp
theorem gx_lt : gx < pB := by decide +kernel
theorem gy_lt : gy < pB := by decide +kernel
theorem hx0_lt : hx0 < pB := by decide +kernel
theorem hx1_lt : hx1 < pB := by decide +kernel
theorem hy0_lt : hy0 < pB := by decide +kernel
theorem hy1_lt : hy1 < pB := by decide +kernel
/-- The generators. -/
def Q1 : Option (Fp × Fp) := some (⟨gx, gx_lt⟩, ⟨gy, gy_lt⟩)
def Q2 : Option (Fq × Fq) := some ((⟨hx0, hx0_lt⟩, ⟨hx1, hx1_lt⟩), (⟨hy0, hy0_lt⟩, ⟨hy1, hy1_lt⟩))
theorem on_Q1 {I : Fp → Fp} (hI : zW I) : (K1 hI).on Q1 := by
 refine Subtype.ext ?_
 show gy * gy % pB = (gx * (gx * gx % pB) % pB + 4) % pB
 decide +kernel
theorem on_Q2 {I : Fp → Fp} (hI : zW I) : (K2 hI).on Q2 := by
 refine Prod.ext (Subtype.ext ?_) (Subtype.ext ?_)
 ·show (hy0 * hy0 % pB + (pB - hy1 * hy1 % pB) % pB) % pB = (((hx0 * ((hx0 * hx0 % pB + (pB - hx1 * hx1 % pB) % pB) % pB) % pB + (pB - hx1 * ((hx0 * hx1 % pB + hx1 * hx0 % pB) % pB) % pB) % pB) % pB) + 4) % pB
  decide +kernel
 ·show (hy0 * hy1 % pB + hy1 * hy0 % pB) % pB = (((hx0 * ((hx0 * hx1 % pB + hx1 * hx0 % pB) % pB) % pB + hx1 * ((hx0 * hx0 % pB + (pB - hx1 * hx1 % pB) % pB) % pB) % pB) % pB) + 4) % pB
  decide +kernel
theorem GenE_1 (w : World) : Calls Tryz.prog 9 #[] w (Rt w (enc1 Q1)) := gen1_gen gx gy numb_gx numb_gy w
theorem GenE_2 (w : World) : Calls Tryz.prog 11 #[] w (Rt w (enc2 Q2)) := gen2_gen hx0 hx1 hy0 hy1 numb_hx0 numb_hx1 numb_hy0 numb_hy1 w
theorem two_times {I : Fp → Fp} (hI : zW I) : (K1 hI).times Q1 2 = (K1 hI).add Q1 Q1 := by
 show (K1 hI).add ((K1 hI).add none Q1) Q1 = _
 rw [(K1 hI).zero_add (on_Q1 hI)]
theorem two_Q1 {I : Fp → Fp} (hI : zW I) : c1z ((K1 hI).add Q1 Q1) = false := by
 have h := (K1 hI).twice_ne (on_Q1 hI)
 have e : (K1 hI).add Q1 Q1 ≠ none := h
 generalize (K1 hI).add Q1 Q1 = D at e ⊢
 cases D with
 | none => exact absurd rfl e
 | some q => rfl
theorem awakeE (w : World) (hm : Mm w [(2, dtab)]) : Calls Tryz.prog 7 #[] w (Rt w (.bool true)) := by
 obtain ⟨I, hI⟩ := inv1_ex
 have hz := two_Q1 hI
 have ca := fun w hm => AddE_1 hI (on_Q1 hI) (on_Q1 hI) w hm
 have cm := fun w hm => MulE_1 hI (on_Q1 hI) (small_big 2 (by decide)) w hm
 rw [two_times hI] at cm
 have er := refl_P1 (c1x ((K1 hI).add Q1 Q1)) (c1y ((K1 hI).add Q1 Q1)) false (c1x_big _) (c1y_big _)
 unfold enc1 at ca cm
 rw [hz] at ca cm
 exact awake_gen (c1x Q1) (c1y Q1) (c1x ((K1 hI).add Q1 Q1)) (c1y ((K1 hI).add Q1 Q1)) (c2x0 Q2) (c2x1 Q2) (c2y0 Q2) (c2y1 Q2) 2 (c1z Q1) (c2z Q2)
  GenE_1 ca (fun w => of_any 2 (by decide) w) cm (fun w hm => CkE_1 hI (on_Q1 hI) w hm) GenE_2 (fun w hm => CkE_2 hI (on_Q2 hI) w hm) er w hm
end Rg
end Go.Proofs.YtmanelnacifgcaaGreatDoor
end
section
namespace Go.Proofs.YtmanelnacifgcaaGreatDoor
open Go.RowKit
namespace Rg
open NT
theorem hm_id : EC.Hm fpR (fun x => x) := ⟨fun _ _ => rfl, fun _ _ => rfl, fun _ => rfl, rfl, rfl, fun _ h => h⟩
theorem nn_mul (a b : Fp) : fpR.mul (fpR.neg a) (fpR.neg b) = fpR.mul a b := by
 rw [fpR.mul_neg, fpR.mul_comm (fpR.neg a) b, fpR.mul_neg, fpR.neg_neg, fpR.mul_comm]
theorem hm_cj : EC.Hm fqR cjq := by
 refine ⟨fun a b => ?_, fun a b => ?_, fun a => ?_, ?_, ?_, fun a h => ?_⟩
 ·exact Prod.ext rfl (fpR.neg_add_rev _ _)
 ·refine Prod.ext ?_ ?_
  ·show fpR.add (fpR.mul a.1 b.1) (fpR.neg (fpR.mul a.2 b.2)) = fpR.add (fpR.mul a.1 b.1) (fpR.neg (fpR.mul (fpR.neg a.2) (fpR.neg b.2)))
   rw [nn_mul]
  ·show fpR.neg (fpR.add (fpR.mul a.1 b.2) (fpR.mul a.2 b.1)) = fpR.add (fpR.mul a.1 (fpR.neg b.2)) (fpR.mul (fpR.neg a.2) b.1)
   rw [fpR.neg_add_rev, fpR.mul_neg, fpR.mul_comm (fpR.neg a.2), fpR.mul_neg, fpR.mul_comm b.1]
 ·rfl
 ·exact Prod.ext rfl fpR.neg_zero
 ·exact Prod.ext rfl fpR.neg_zero
 ·have h1 : (cjq a).1 = fqR.zero.1 := congrArg Prod.fst h
  refine Prod.ext h1 ?_
  have h2 : fpR.neg a.2 = fpR.zero := congrArg Prod.snd h
  rw [← fpR.neg_neg a.2, h2, fpR.neg_zero]
  rfl
/-- What points are scaled by when they are turned. -/
def lm1 : Fp := fpR.mul t3p t3p
def lmx : Fp := ⟨877076961050607968509681729531255177986764537961432449499635504522207616027455086505066378536590128544573588734230, by decide +kernel⟩
def lm2 : Fq := (lmx, lmx)
theorem lm1_2 : EC.pl2 fpR lm1 = t3p := Subtype.ext (by decide +kernel)
theorem lm1_3 : EC.pl3 fpR lm1 = fpR.one := Subtype.ext (by decide +kernel)
theorem lm1_ne : lm1 ≠ fpR.zero := fun h => absurd (congrArg Subtype.val h) (by decide +kernel)
theorem lm1_b : fpR.mul (EC.pl6 fpR lm1) fp4 = fp4 := Subtype.ext (by decide +kernel)
theorem lm2_2 : EC.pl2 fqR lm2 = oxq := Prod.ext (Subtype.ext (by decide +kernel)) (Subtype.ext (by decide +kernel))
theorem lm2_3 : EC.pl3 fqR lm2 = oyq := Prod.ext (Subtype.ext (by decide +kernel)) (Subtype.ext (by decide +kernel))
theorem lm2_ne : lm2 ≠ fqR.zero := fun h => absurd (congrArg (fun q : Fq => q.1.1) h) (by decide +kernel)
theorem lm2_b : fqR.mul (EC.pl6 fqR lm2) (cjq fq4) = fq4 := Prod.ext (Subtype.ext (by decide +kernel)) (Subtype.ext (by decide +kernel))
/-- Points turned. -/
def tu1 {I : Fp → Fp} (hI : zW I) : Option (Fp × Fp) → Option (Fp × Fp) := (K1 hI).mp (fun x => x) lm1
def tu2 {I : Fp → Fp} (hI : zW I) : Option (Fq × Fq) → Option (Fq × Fq) := (K2 hI).mp cjq lm2
theorem tu1_some {I : Fp → Fp} (hI : zW I) (x y : Fp) : tu1 hI (some (x, y)) = some (fpR.mul x t3p, y) := by
 show some (fpR.mul (EC.pl2 fpR lm1) x, fpR.mul (EC.pl3 fpR lm1) y) = _
 rw [lm1_2, lm1_3, fpR.one_mul, fpR.mul_comm]
theorem tu2_some {I : Fp → Fp} (hI : zW I) (x y : Fq) : tu2 hI (some (x, y)) = some (fqR.mul (cjq x) oxq, fqR.mul (cjq y) oyq) := by
 show some (fqR.mul (EC.pl2 fqR lm2) (cjq x), fqR.mul (EC.pl3 fqR lm2) (cjq y)) = _
 rw [lm2_2, lm2_3, fqR.mul_comm, fqR.mul_comm oyq]
theorem in1_mul {I : Fp → Fp} (hI : zW I) {P : Option (Fp × Fp)} (h : (K1 hI).on P) : in1 hI P = true ↔ P = none ∨ (K1 hI).times P (sdP ^ 2) = (K1 hI).neg (tu1 hI P) := by
 rcases P with _ | ⟨x, y⟩
 ·exact ⟨fun _ => Or.inl rfl, fun _ => rfl⟩
 ·rw [tu1_some]
  exact ⟨fun k => Or.inr ((in1_iff hI h).1 k), fun k => (in1_iff hI h).2 (k.resolve_left (fun e => by cases e))⟩
theorem in2_mul {I : Fp → Fp} (hI : zW I) {P : Option (Fq × Fq)} (h : (K2 hI).on P) : in2 hI P = true ↔ P = none ∨ (K2 hI).times P (sdP ^ 1) = (K2 hI).neg (tu2 hI P) := by
 rcases P with _ | ⟨x, y⟩
 ·exact ⟨fun _ => Or.inl rfl, fun _ => rfl⟩
 ·rw [tu2_some]
  exact ⟨fun k => Or.inr ((in2_iff hI h).1 k), fun k => (in2_iff hI h).2 (k.resolve_left (fun e => by cases e))⟩
/-! The generators, by the kernel. -/
theorem in1_Q1 {I : Fp → Fp} (hI : zW I) : in1 hI Q1 = true := by kernel_rfl
theorem in2_Q2 {I : Fp → Fp} (hI : zW I) : in2 hI Q2 = true := by kernel_rfl
end Rg
end Go.Proofs.YtmanelnacifgcaaGreatDoor
end
section
namespace Go.Proofs.YtmanelnacifgcaaGreatDoor
open Go.RowKit
namespace Rg
open NT
def A1 : EC.Tri Fp := EC.tog (EC.rops fpR) fp4 (fpR.mul (fpR.mul ⟨gx, gx_lt⟩ t3p) t3p, ⟨gy, gy_lt⟩, fpR.one) (⟨gx, gx_lt⟩, ⟨gy, gy_lt⟩, fpR.one)
theorem A1_x : decide (A1.1 = fpR.mul (fpR.mul ⟨gx, gx_lt⟩ t3p) A1.2.2) = true := by kernel_rfl
theorem A1_y : decide (A1.2.1 = fpR.mul (EC.osub (EC.rops fpR) fpR.zero ⟨gy, gy_lt⟩) A1.2.2) = true := by kernel_rfl
theorem sum_Q1 {I : Fp → Fp} (hI : zW I) : (K1 hI).add (tu1 hI (tu1 hI Q1)) Q1 = (K1 hI).neg (tu1 hI Q1) := by
 have o1 : (K1 hI).on (tu1 hI (tu1 hI Q1)) := (K1 hI).mp_on hm_id lm1_b ((K1 hI).mp_on hm_id lm1_b (on_Q1 hI))
 have e1 : tu1 hI Q1 = some (fpR.mul ⟨gx, gx_lt⟩ t3p, ⟨gy, gy_lt⟩) := tu1_some hI _ _
 rw [e1, tu1_some] at o1 ⊢
 exact (K1 hI).add_tst o1 (on_Q1 hI) (of_decide_eq_true A1_x) (of_decide_eq_true A1_y)
theorem r_one : rB + sdP ^ 2 = sdP ^ 2 * sdP ^ 2 + 1 := by decide +kernel
theorem times_r1 {I : Fp → Fp} (hI : zW I) : (K1 hI).times Q1 rB = none := by
 have e := ((in1_mul hI (on_Q1 hI)).1 (in1_Q1 hI)).resolve_left (fun h => by cases h)
 exact (K1 hI).order1 hm_id lm1_ne lm1_b (on_Q1 hI) e r_one (sum_Q1 hI)
/-! The second curve. -/
def hxq : Fq := (⟨hx0, hx0_lt⟩, ⟨hx1, hx1_lt⟩)
def hyq : Fq := (⟨hy0, hy0_lt⟩, ⟨hy1, hy1_lt⟩)
def bx1 : Fq := fqR.mul (cjq hxq) oxq
def by1 : Fq := fqR.mul (cjq hyq) oyq
def bx2 : Fq := fqR.mul (cjq bx1) oxq
def by2 : Fq := fqR.mul (cjq by1) oyq
def bx3 : Fq := fqR.mul (cjq bx2) oxq
def by3 : Fq := fqR.mul (cjq by2) oyq
def bx4 : Fq := fqR.mul (cjq bx3) oxq
def by4 : Fq := fqR.mul (cjq by3) oyq
def A2 : EC.Tri Fq := EC.tog (EC.rops fqR) fq4 (bx4, by4, fqR.one) (hxq, hyq, fqR.one)
theorem A2_x : decide (A2.1 = fqR.mul bx2 A2.2.2) = true := by kernel_rfl
theorem A2_y : decide (A2.2.1 = fqR.mul (EC.osub (EC.rops fqR) fqR.zero (fqR.neg by2)) A2.2.2) = true := by kernel_rfl
theorem sum_Q2 {I : Fp → Fp} (hI : zW I) : (K2 hI).add (tu2 hI (tu2 hI (tu2 hI (tu2 hI Q2)))) Q2 = tu2 hI (tu2 hI Q2) := by
 have e1 : tu2 hI Q2 = some (bx1, by1) := tu2_some hI _ _
 have e2 : tu2 hI (some (bx1, by1)) = some (bx2, by2) := tu2_some hI _ _
 have e3 : tu2 hI (some (bx2, by2)) = some (bx3, by3) := tu2_some hI _ _
 have e4 : tu2 hI (some (bx3, by3)) = some (bx4, by4) := tu2_some hI _ _
 have o1 := (K2 hI).mp_on hm_cj lm2_b (on_Q2 hI)
 have o2 := (K2 hI).mp_on hm_cj lm2_b o1
 have o3 := (K2 hI).mp_on hm_cj lm2_b o2
 have o4 : (K2 hI).on (tu2 hI (tu2 hI (tu2 hI (tu2 hI Q2)))) := (K2 hI).mp_on hm_cj lm2_b o3
 rw [e1, e2, e3, e4] at o4 ⊢
 have h := (K2 hI).add_tst o4 (on_Q2 hI) (of_decide_eq_true A2_x) (of_decide_eq_true A2_y)
 refine h.trans ?_
 show some (bx2, fqR.neg (fqR.neg by2)) = some (bx2, by2)
 rw [fqR.neg_neg]
theorem r_two : rB + sdP ^ 1 * sdP ^ 1 = sdP ^ 1 * sdP ^ 1 * sdP ^ 1 * sdP ^ 1 + 1 := by decide +kernel
theorem times_r2 {I : Fp → Fp} (hI : zW I) : (K2 hI).times Q2 rB = none := by
 have e := ((in2_mul hI (on_Q2 hI)).1 (in2_Q2 hI)).resolve_left (fun h => by cases h)
 exact (K2 hI).order2 hm_cj lm2_ne lm2_b (on_Q2 hI) e r_two (sum_Q2 hI)
/-! Multiples of the generators. -/
theorem in1_times {I : Fp → Fp} (hI : zW I) (n : Nat) : in1 hI ((K1 hI).times Q1 n) = true := by
 have e := ((in1_mul hI (on_Q1 hI)).1 (in1_Q1 hI)).resolve_left (fun h => by cases h)
 exact (in1_mul hI ((K1 hI).times_on (on_Q1 hI) n)).2 (Or.inr ((K1 hI).eigen hm_id lm1_ne lm1_b (on_Q1 hI) e n))
theorem in2_times {I : Fp → Fp} (hI : zW I) (n : Nat) : in2 hI ((K2 hI).times Q2 n) = true := by
 have e := ((in2_mul hI (on_Q2 hI)).1 (in2_Q2 hI)).resolve_left (fun h => by cases h)
 exact (in2_mul hI ((K2 hI).times_on (on_Q2 hI) n)).2 (Or.inr ((K2 hI).eigen hm_cj lm2_ne lm2_b (on_Q2 hI) e n))
theorem rB_prm : Prm rB := prm_r
theorem unit_r {k : Nat} (h0 : 0 < k) (h : k < rB) : k * k ^ (rB - 2) % rB = 1 := by
 have hd : ¬ rB ∣ k := fun hk => by have := Nat.le_of_dvd h0 hk; omega
 have e := fermat1 rB_prm k hd
 have e2 : rB - 1 = rB - 2 + 1 := by decide +kernel
 rw [e2, Nat.pow_succ, Nat.mul_comm] at e
 exact e
theorem zero_iff1 {I : Fp → Fp} (hI : zW I) (n : Nat) : (K1 hI).times Q1 n = none ↔ n % rB = 0 := by
 rw [(K1 hI).times_mod (on_Q1 hI) (times_r1 hI) n]
 refine ⟨fun h => ?_, fun h => by rw [h]; rfl⟩
 apply Classical.byContradiction
 intro hn
 exact (K1 hI).times_ne (on_Q1 hI) (fun e => by cases e) (times_r1 hI) (unit_r (by omega) (Nat.mod_lt _ rB_prm.pos)) h
theorem zero_iff2 {I : Fp → Fp} (hI : zW I) (n : Nat) : (K2 hI).times Q2 n = none ↔ n % rB = 0 := by
 rw [(K2 hI).times_mod (on_Q2 hI) (times_r2 hI) n]
 refine ⟨fun h => ?_, fun h => by rw [h]; rfl⟩
 apply Classical.byContradiction
 intro hn
 exact (K2 hI).times_ne (on_Q2 hI) (fun e => by cases e) (times_r2 hI) (unit_r (by omega) (Nat.mod_lt _ rB_prm.pos)) h
end Rg
end Go.Proofs.YtmanelnacifgcaaGreatDoor
end
section
namespace Go.Proofs.YtmanelnacifgcaaGreatDoor
open Go.RowKit
namespace Rg
set_option maxHeartbeats 8000000 in
theorem tableOf_2 {α : Type} {e0 e1 : α → Nat} {fa fs fm : α → α → α} {fi : α → α} {z u b : α} {tn : Value} (_C : Fd2 e0 e1 fa fs fm fi z) (f : Nat → Nat) (x0 x1 y0 y1 : Nat) (zb : Bool) (cz : ∀ w, Mm w [(2, dtab)] → Calls Tryz.prog 99 #[.agg (G2 tn (e0 u) (e1 u) (e0 b) (e1 b)).toArray] w (Rt w (V [f 0, f 1, f 2, f 3, f 4, f 5]))) (cl : ∀ w, Mm w [(2, dtab)] → Calls Tryz.prog 84 #[.agg (G2 tn (e0 u) (e1 u) (e0 b) (e1 b)).toArray, .agg (pc2 x0 x1 y0 y1 zb).toArray] w (Rt w (V [f 6, f 7, f 8, f 9, f 10, f 11]))) (c2 : ∀ w, Mm w [(2, dtab)] → Calls Tryz.prog 117 #[.agg (G2 tn (e0 u) (e1 u) (e0 b) (e1 b)).toArray, V [f 6, f 7, f 8, f 9, f 10, f 11]] w (Rt w (V [f 12, f 13, f 14, f 15, f 16, f 17]))) (c3 : ∀ w, Mm w [(2, dtab)] → Calls Tryz.prog 100 #[.agg (G2 tn (e0 u) (e1 u) (e0 b) (e1 b)).toArray, V [f 12, f 13, f 14, f 15, f 16, f 17], V [f 6, f 7, f 8, f 9, f 10, f 11]] w (Rt w (V [f 18, f 19, f 20, f 21, f 22, f 23]))) (c4 : ∀ w, Mm w [(2, dtab)] → Calls Tryz.prog 117 #[.agg (G2 tn (e0 u) (e1 u) (e0 b) (e1 b)).toArray, V [f 12, f 13, f 14, f 15, f 16, f 17]] w (Rt w (V [f 24, f 25, f 26, f 27, f 28, f 29]))) (c5 : ∀ w, Mm w [(2, dtab)] → Calls Tryz.prog 100 #[.agg (G2 tn (e0 u) (e1 u) (e0 b) (e1 b)).toArray, V [f 24, f 25, f 26, f 27, f 28, f 29], V [f 6, f 7, f 8, f 9, f 10, f 11]] w (Rt w (V [f 30, f 31, f 32, f 33, f 34, f 35]))) (c6 : ∀ w, Mm w [(2, dtab)] → Calls Tryz.prog 117 #[.agg (G2 tn (e0 u) (e1 u) (e0 b) (e1 b)).toArray, V [f 18, f 19, f 20, f 21, f 22, f 23]] w (Rt w (V [f 36, f 37, f 38, f 39, f 40, f 41]))) (c7 : ∀ w, Mm w [(2, dtab)] → Calls Tryz.prog 100 #[.agg (G2 tn (e0 u) (e1 u) (e0 b) (e1 b)).toArray, V [f 36, f 37, f 38, f 39, f 40, f 41], V [f 6, f 7, f 8, f 9, f 10, f 11]] w (Rt w (V [f 42, f 43, f 44, f 45, f 46, f 47]))) (c8 : ∀ w, Mm w [(2, dtab)] → Calls Tryz.prog 117 #[.agg (G2 tn (e0 u) (e1 u) (e0 b) (e1 b)).toArray, V [f 24, f 25, f 26, f 27, f 28, f 29]] w (Rt w (V [f 48, f 49, f 50, f 51, f 52, f 53]))) (c9 : ∀ w, Mm w [(2, dtab)] → Calls Tryz.prog 100 #[.agg (G2 tn (e0 u) (e1 u) (e0 b) (e1 b)).toArray, V [f 48, f 49, f 50, f 51, f 52, f 53], V [f 6, f 7, f 8, f 9, f 10, f 11]] w (Rt w (V [f 54, f 55, f 56, f 57, f 58, f 59]))) (c10 : ∀ w, Mm w [(2, dtab)] → Calls Tryz.prog 117 #[.agg (G2 tn (e0 u) (e1 u) (e0 b) (e1 b)).toArray, V [f 30, f 31, f 32, f 33, f 34, f 35]] w (Rt w (V [f 60, f 61, f 62, f 63, f 64, f 65]))) (c11 : ∀ w, Mm w [(2, dtab)] → Calls Tryz.prog 100 #[.agg (G2 tn (e0 u) (e1 u) (e0 b) (e1 b)).toArray, V [f 60, f 61, f 62, f 63, f 64, f 65], V [f 6, f 7, f 8, f 9, f 10, f 11]] w (Rt w (V [f 66, f 67, f 68, f 69, f 70, f 71]))) (c12 : ∀ w, Mm w [(2, dtab)] → Calls Tryz.prog 117 #[.agg (G2 tn (e0 u) (e1 u) (e0 b) (e1 b)).toArray, V [f 36, f 37, f 38, f 39, f 40, f 41]] w (Rt w (V [f 72, f 73, f 74, f 75, f 76, f 77]))) (c13 : ∀ w, Mm w [(2, dtab)] → Calls Tryz.prog 100 #[.agg (G2 tn (e0 u) (e1 u) (e0 b) (e1 b)).toArray, V [f 72, f 73, f 74, f 75, f 76, f 77], V [f 6, f 7, f 8, f 9, f 10, f 11]] w (Rt w (V [f 78, f 79, f 80, f 81, f 82, f 83]))) (c14 : ∀ w, Mm w [(2, dtab)] → Calls Tryz.prog 117 #[.agg (G2 tn (e0 u) (e1 u) (e0 b) (e1 b)).toArray, V [f 42, f 43, f 44, f 45, f 46, f 47]] w (Rt w (V [f 84, f 85, f 86, f 87, f 88, f 89]))) (c15 : ∀ w, Mm w [(2, dtab)] → Calls Tryz.prog 100 #[.agg (G2 tn (e0 u) (e1 u) (e0 b) (e1 b)).toArray, V [f 84, f 85, f 86, f 87, f 88, f 89], V [f 6, f 7, f 8, f 9, f 10, f 11]] w (Rt w (V [f 90, f 91, f 92, f 93, f 94, f 95]))) (w : World) (hm : Mm w [(2, dtab)]) :
  Calls Tryz.prog 128 #[.agg (G2 tn (e0 u) (e1 u) (e0 b) (e1 b)).toArray, .agg (pc2 x0 x1 y0 y1 zb).toArray] w (Rt w (V (tb2 f))) := by
 have H0 : Hid (_ ∧ _) := ⟨hm, Below.refl w.heap.size w⟩
 clear hm
 have CZ : Hid _ := cz
 clear cz
 have CL : Hid _ := cl
 clear cl
 have C2 : Hid _ := c2
 clear c2
 have C3 : Hid _ := c3
 clear c3
 have C4 : Hid _ := c4
 clear c4
 have C5 : Hid _ := c5
 clear c5
 have C6 : Hid _ := c6
 clear c6
 have C7 : Hid _ := c7
 clear c7
 have C8 : Hid _ := c8
 clear c8
 have C9 : Hid _ := c9
 clear c9
 have C10 : Hid _ := c10
 clear c10
 have C11 : Hid _ := c11
 clear c11
 have C12 : Hid _ := c12
 clear c12
 have C13 : Hid _ := c13
 clear c13
 have C14 : Hid _ := c14
 clear c14
 have C15 : Hid _ := c15
 clear c15
 go_enter Tryz.func128, Tryz.ntmps128
 refine wp_seq ?_
 refine zB 3 [.made (G2 tn (e0 u) (e1 u) (e0 b) (e1 b)) 93, .made (pc2 x0 x1 y0 y1 zb) 96, .made (cel [0, 0, 0, 0, 0, 0, 0, 0, 0, 0, 0, 0, 0, 0, 0, 0, 0, 0, 0, 0, 0, 0, 0, 0, 0, 0, 0, 0, 0, 0, 0, 0, 0, 0, 0, 0, 0, 0, 0, 0, 0, 0, 0, 0, 0, 0, 0, 0, 0, 0, 0, 0, 0, 0, 0, 0, 0, 0, 0, 0, 0, 0, 0, 0, 0, 0, 0, 0, 0, 0, 0, 0, 0, 0, 0, 0, 0, 0, 0, 0, 0, 0, 0, 0, 0, 0, 0, 0, 0, 0, 0, 0, 0, 0, 0, 0]) 171] (sB H0) ?ho1 ?he1
 case ho1 => exact am (zS rfl rfl) (am (zS rfl rfl) (am (ex_madeTB2 rfl) trivial))
 intro J w1 l hM hl
 have H1 : Hid (Mm w1 ([(J 0, G2 tn (e0 u) (e1 u) (e0 b) (e1 b)), (J 1, pc2 x0 x1 y0 y1 zb), (J 2, cel [0, 0, 0, 0, 0, 0, 0, 0, 0, 0, 0, 0, 0, 0, 0, 0, 0, 0, 0, 0, 0, 0, 0, 0, 0, 0, 0, 0, 0, 0, 0, 0, 0, 0, 0, 0, 0, 0, 0, 0, 0, 0, 0, 0, 0, 0, 0, 0, 0, 0, 0, 0, 0, 0, 0, 0, 0, 0, 0, 0, 0, 0, 0, 0, 0, 0, 0, 0, 0, 0, 0, 0, 0, 0, 0, 0, 0, 0, 0, 0, 0, 0, 0, 0, 0, 0, 0, 0, 0, 0, 0, 0, 0, 0, 0, 0])] ++ _) ∧ _) := wB H0 hM hl [0, 1, 2]
 have o1_0 := vB H0 hM hl 0
 have o1_1 := vB H0 hM hl 1
 have o1_2 := vB H0 hM hl 2
 clear hM hl l
 generalize J 0 = J1_0 at H1 o1_0 ⊢
 generalize J 1 = J1_1 at H1 o1_1 ⊢
 generalize J 2 = J1_2 at H1 o1_2 ⊢
 clear J
 refine rN (wp_seq ?_)
 refine zQ 8 [.q (.agg (G2 tn (e0 u) (e1 u) (e0 b) (e1 b)).toArray), .call (V [f 0, f 1, f 2, f 3, f 4, f 5]), .q (.agg (G2 tn (e0 u) (e1 u) (e0 b) (e1 b)).toArray), .q (.agg (pc2 x0 x1 y0 y1 zb).toArray), .call (V [f 6, f 7, f 8, f 9, f 10, f 11]), .q (V (tbz2 12 f)), .made (cel [0, 0, 0, 0, 0, 0, 0, 0, 0, 0, 0, 0, 0, 0, 0, 0, 0, 0, 0, 0, 0, 0, 0, 0, 0, 0, 0, 0, 0, 0, 0, 0, 0, 0, 0, 0, 0, 0, 0, 0, 0, 0, 0, 0, 0, 0, 0, 0, 0, 0, 0, 0, 0, 0, 0, 0, 0, 0, 0, 0, 0, 0, 0, 0, 0, 0, 0, 0, 0, 0, 0, 0, 0, 0, 0, 0, 0, 0, 0, 0, 0, 0, 0, 0, 0, 0, 0, 0, 0, 0, 0, 0, 0, 0, 0, 0]) 171, .laid 6 (cel [0, 0, 0, 0, 0, 0, 0, 0, 0, 0, 0, 0, 0, 0, 0, 0, 0, 0, 0, 0, 0, 0, 0, 0, 0, 0, 0, 0, 0, 0, 0, 0, 0, 0, 0, 0, 0, 0, 0, 0, 0, 0, 0, 0, 0, 0, 0, 0, 0, 0, 0, 0, 0, 0, 0, 0, 0, 0, 0, 0, 0, 0, 0, 0, 0, 0, 0, 0, 0, 0, 0, 0, 0, 0, 0, 0, 0, 0, 0, 0, 0, 0, 0, 0, 0, 0, 0, 0, 0, 0, 0, 0, 0, 0, 0, 0]) (cel (tbz2 12 f))] (sB H1) ?ho2 ?he2 (hL := ?hL2)
 case hL2 => exact ⟨⟨_, rfl⟩, trivial⟩
 case ho2 => exact bT 0 Ai93 As93 (ac (fun w' h => eC call99 (CZ.out w' (h.one 3 rfl))) (bT 0 Ai93 As93 (bT 1 Ai96 As96 (ac (fun w' h => eC call84 (CL.out w' (h.one 3 rfl))) (ak (fun J => ⟨rfl, fun w' _ => ex_buildTB2 rfl rfl rfl⟩) (am (ex_madeTB2 rfl) (ak (fun J => ⟨rfl, rfl, rfl, fun w' h => ex_laidA h rfl As171 rfl rfl rfl⟩) trivial)))))))
 intro J w2 l hM hl
 have H2 : Hid (Mm w2 ([(J 6, cel (tbz2 12 f))] ++ _) ∧ _) := wB H1 hM hl [6]
 have o2_6 := vB H1 hM hl 6
 clear hM hl l H1
 generalize J 6 = J2_6 at H2 o2_6 ⊢
 clear J
 refine rN (wp_seq (wp_seq ?_))
 refine zC 1 [.q (.int .i64 2)] H2 ?ho3 ?he3
 case ho3 => exact ar trivial
 intro _ w3 H3
 clear H2
 refine rN (wp_block ?_)
 refine wp_loop_rounds 8 ?_
 refine zM (n := 7) ?_
 refine wp_seq (wp_seq ?_)
 refine zC 2 [.q (.int .i64 2), .q (.bool true)] H3 ?ho4 ?he4
 case ho4 => exact ar (ag trivial)
 intro _ w4 H4
 clear H3
 refine rN (wp_cond_true rfl ?_)
 refine wp_skip (zA ?_)
 refine wp_seq (wp_block (wp_seq ?_))
 refine zN 8 [.q (.int .i64 2), .q (.agg (G2 tn (e0 u) (e1 u) (e0 b) (e1 b)).toArray), .q (.int .i64 2), .q (.int .i64 1), .q (PT J2_6 36), .q (V [f 6, f 7, f 8, f 9, f 10, f 11]), .call (V [f 12, f 13, f 14, f 15, f 16, f 17]), .q (PT J2_6 72)] H4 ?ho5 ?he5
 case ho5 => exact ar (bT 1 Ai93 As93 (ar (av (ag (bA 6 6 0 Ai129 As129 (ac (fun w' h => eC call117 (C2.out w' (h.one 4 rfl))) (ag trivial)))))))
 intro _ w5 H5
 clear H4
 refine zF (l := [8]) rfl ?_
 refine sA 0 12 [f 12, f 13, f 14, f 15, f 16, f 17] [(_, cel (tbz2 18 f)), _, _, _, _] H5 o2_6 As129 fun w6 H6 => ?_
 clear H5
 refine zE (zA ?_)
 refine zN 10 [.q (.int .i64 2), .q (.int .i64 3), .q (.agg (G2 tn (e0 u) (e1 u) (e0 b) (e1 b)).toArray), .q (.int .i64 2), .q (PT J2_6 72), .q (V [f 12, f 13, f 14, f 15, f 16, f 17]), .q (PT J2_6 36), .q (V [f 6, f 7, f 8, f 9, f 10, f 11]), .call (V [f 18, f 19, f 20, f 21, f 22, f 23]), .q (PT J2_6 108)] H6 ?ho6 ?he6
 case ho6 => exact ar (av (bT 1 Ai93 As93 (ar (ag (bA 12 6 0 Ai129 As129 (ag (bA 6 6 0 Ai129 As129 (ac (fun w' h => eC call100 (C3.out w' (h.one 4 rfl))) (ag trivial)))))))))
 intro _ w7 H7
 clear H6
 refine zF (l := [10]) rfl ?_
 refine sA 0 18 [f 18, f 19, f 20, f 21, f 22, f 23] [(_, cel (tbz2 24 f)), _, _, _, _] H7 o2_6 As129 fun w8 H8 => ?_
 clear H7
 refine zE (zI (zA ?_))
 refine zC 2 [.q (.int .i64 2), .q (.int .i64 4)] H8 ?ho7 ?he7
 case ho7 => exact ar (av trivial)
 intro _ w9 H9
 clear H8
 refine zF (l := [2]) rfl ?_
 refine zG (d := 6) rfl rfl rfl rfl ?_
 simp only [Act.put, sa, sz, ss]
 refine zE (zA ?_)
 refine zM (n := 6) ?_
 refine wp_seq (wp_seq ?_)
 refine zC 2 [.q (.int .i64 4), .q (.bool true)] H9 ?ho8 ?he8
 case ho8 => exact ar (ag trivial)
 intro _ w10 H10
 clear H9
 refine rN (wp_cond_true rfl ?_)
 refine wp_skip (zA ?_)
 refine wp_seq (wp_block (wp_seq ?_))
 refine zN 8 [.q (.int .i64 4), .q (.agg (G2 tn (e0 u) (e1 u) (e0 b) (e1 b)).toArray), .q (.int .i64 4), .q (.int .i64 2), .q (PT J2_6 72), .q (V [f 12, f 13, f 14, f 15, f 16, f 17]), .call (V [f 24, f 25, f 26, f 27, f 28, f 29]), .q (PT J2_6 144)] H10 ?ho9 ?he9
 case ho9 => exact ar (bT 1 Ai93 As93 (ar (av (ag (bA 12 6 0 Ai129 As129 (ac (fun w' h => eC call117 (C4.out w' (h.one 4 rfl))) (ag trivial)))))))
 intro _ w11 H11
 clear H10
 refine zF (l := [8]) rfl ?_
 refine sA 0 24 [f 24, f 25, f 26, f 27, f 28, f 29] [(_, cel (tbz2 30 f)), _, _, _, _] H11 o2_6 As129 fun w12 H12 => ?_
 clear H11
 refine zE (zA ?_)
 refine zN 10 [.q (.int .i64 4), .q (.int .i64 5), .q (.agg (G2 tn (e0 u) (e1 u) (e0 b) (e1 b)).toArray), .q (.int .i64 4), .q (PT J2_6 144), .q (V [f 24, f 25, f 26, f 27, f 28, f 29]), .q (PT J2_6 36), .q (V [f 6, f 7, f 8, f 9, f 10, f 11]), .call (V [f 30, f 31, f 32, f 33, f 34, f 35]), .q (PT J2_6 180)] H12 ?ho10 ?he10
 case ho10 => exact ar (av (bT 1 Ai93 As93 (ar (ag (bA 24 6 0 Ai129 As129 (ag (bA 6 6 0 Ai129 As129 (ac (fun w' h => eC call100 (C5.out w' (h.one 4 rfl))) (ag trivial)))))))))
 intro _ w13 H13
 clear H12
 refine zF (l := [10]) rfl ?_
 refine sA 0 30 [f 30, f 31, f 32, f 33, f 34, f 35] [(_, cel (tbz2 36 f)), _, _, _, _] H13 o2_6 As129 fun w14 H14 => ?_
 clear H13
 refine zE (zI (zA ?_))
 refine zC 2 [.q (.int .i64 4), .q (.int .i64 6)] H14 ?ho11 ?he11
 case ho11 => exact ar (av trivial)
 intro _ w15 H15
 clear H14
 refine zF (l := [2]) rfl ?_
 refine zG (d := 6) rfl rfl rfl rfl ?_
 simp only [Act.put, sa, sz, ss]
 refine zE (zA ?_)
 refine zM (n := 5) ?_
 refine wp_seq (wp_seq ?_)
 refine zC 2 [.q (.int .i64 6), .q (.bool true)] H15 ?ho12 ?he12
 case ho12 => exact ar (ag trivial)
 intro _ w16 H16
 clear H15
 refine rN (wp_cond_true rfl ?_)
 refine wp_skip (zA ?_)
 refine wp_seq (wp_block (wp_seq ?_))
 refine zN 8 [.q (.int .i64 6), .q (.agg (G2 tn (e0 u) (e1 u) (e0 b) (e1 b)).toArray), .q (.int .i64 6), .q (.int .i64 3), .q (PT J2_6 108), .q (V [f 18, f 19, f 20, f 21, f 22, f 23]), .call (V [f 36, f 37, f 38, f 39, f 40, f 41]), .q (PT J2_6 216)] H16 ?ho13 ?he13
 case ho13 => exact ar (bT 1 Ai93 As93 (ar (av (ag (bA 18 6 0 Ai129 As129 (ac (fun w' h => eC call117 (C6.out w' (h.one 4 rfl))) (ag trivial)))))))
 intro _ w17 H17
 clear H16
 refine zF (l := [8]) rfl ?_
 refine sA 0 36 [f 36, f 37, f 38, f 39, f 40, f 41] [(_, cel (tbz2 42 f)), _, _, _, _] H17 o2_6 As129 fun w18 H18 => ?_
 clear H17
 refine zE (zA ?_)
 refine zN 10 [.q (.int .i64 6), .q (.int .i64 7), .q (.agg (G2 tn (e0 u) (e1 u) (e0 b) (e1 b)).toArray), .q (.int .i64 6), .q (PT J2_6 216), .q (V [f 36, f 37, f 38, f 39, f 40, f 41]), .q (PT J2_6 36), .q (V [f 6, f 7, f 8, f 9, f 10, f 11]), .call (V [f 42, f 43, f 44, f 45, f 46, f 47]), .q (PT J2_6 252)] H18 ?ho14 ?he14
 case ho14 => exact ar (av (bT 1 Ai93 As93 (ar (ag (bA 36 6 0 Ai129 As129 (ag (bA 6 6 0 Ai129 As129 (ac (fun w' h => eC call100 (C7.out w' (h.one 4 rfl))) (ag trivial)))))))))
 intro _ w19 H19
 clear H18
 refine zF (l := [10]) rfl ?_
 refine sA 0 42 [f 42, f 43, f 44, f 45, f 46, f 47] [(_, cel (tbz2 48 f)), _, _, _, _] H19 o2_6 As129 fun w20 H20 => ?_
 clear H19
 refine zE (zI (zA ?_))
 refine zC 2 [.q (.int .i64 6), .q (.int .i64 8)] H20 ?ho15 ?he15
 case ho15 => exact ar (av trivial)
 intro _ w21 H21
 clear H20
 refine zF (l := [2]) rfl ?_
 refine zG (d := 6) rfl rfl rfl rfl ?_
 simp only [Act.put, sa, sz, ss]
 refine zE (zA ?_)
 refine zM (n := 4) ?_
 refine wp_seq (wp_seq ?_)
 refine zC 2 [.q (.int .i64 8), .q (.bool true)] H21 ?ho16 ?he16
 case ho16 => exact ar (ag trivial)
 intro _ w22 H22
 clear H21
 refine rN (wp_cond_true rfl ?_)
 refine wp_skip (zA ?_)
 refine wp_seq (wp_block (wp_seq ?_))
 refine zN 8 [.q (.int .i64 8), .q (.agg (G2 tn (e0 u) (e1 u) (e0 b) (e1 b)).toArray), .q (.int .i64 8), .q (.int .i64 4), .q (PT J2_6 144), .q (V [f 24, f 25, f 26, f 27, f 28, f 29]), .call (V [f 48, f 49, f 50, f 51, f 52, f 53]), .q (PT J2_6 288)] H22 ?ho17 ?he17
 case ho17 => exact ar (bT 1 Ai93 As93 (ar (av (ag (bA 24 6 0 Ai129 As129 (ac (fun w' h => eC call117 (C8.out w' (h.one 4 rfl))) (ag trivial)))))))
 intro _ w23 H23
 clear H22
 refine zF (l := [8]) rfl ?_
 refine sA 0 48 [f 48, f 49, f 50, f 51, f 52, f 53] [(_, cel (tbz2 54 f)), _, _, _, _] H23 o2_6 As129 fun w24 H24 => ?_
 clear H23
 refine zE (zA ?_)
 refine zN 10 [.q (.int .i64 8), .q (.int .i64 9), .q (.agg (G2 tn (e0 u) (e1 u) (e0 b) (e1 b)).toArray), .q (.int .i64 8), .q (PT J2_6 288), .q (V [f 48, f 49, f 50, f 51, f 52, f 53]), .q (PT J2_6 36), .q (V [f 6, f 7, f 8, f 9, f 10, f 11]), .call (V [f 54, f 55, f 56, f 57, f 58, f 59]), .q (PT J2_6 324)] H24 ?ho18 ?he18
 case ho18 => exact ar (av (bT 1 Ai93 As93 (ar (ag (bA 48 6 0 Ai129 As129 (ag (bA 6 6 0 Ai129 As129 (ac (fun w' h => eC call100 (C9.out w' (h.one 4 rfl))) (ag trivial)))))))))
 intro _ w25 H25
 clear H24
 refine zF (l := [10]) rfl ?_
 refine sA 0 54 [f 54, f 55, f 56, f 57, f 58, f 59] [(_, cel (tbz2 60 f)), _, _, _, _] H25 o2_6 As129 fun w26 H26 => ?_
 clear H25
 refine zE (zI (zA ?_))
 refine zC 2 [.q (.int .i64 8), .q (.int .i64 10)] H26 ?ho19 ?he19
 case ho19 => exact ar (av trivial)
 intro _ w27 H27
 clear H26
 refine zF (l := [2]) rfl ?_
 refine zG (d := 6) rfl rfl rfl rfl ?_
 simp only [Act.put, sa, sz, ss]
 refine zE (zA ?_)
 refine zM (n := 3) ?_
 refine wp_seq (wp_seq ?_)
 refine zC 2 [.q (.int .i64 10), .q (.bool true)] H27 ?ho20 ?he20
 case ho20 => exact ar (ag trivial)
 intro _ w28 H28
 clear H27
 refine rN (wp_cond_true rfl ?_)
 refine wp_skip (zA ?_)
 refine wp_seq (wp_block (wp_seq ?_))
 refine zN 8 [.q (.int .i64 10), .q (.agg (G2 tn (e0 u) (e1 u) (e0 b) (e1 b)).toArray), .q (.int .i64 10), .q (.int .i64 5), .q (PT J2_6 180), .q (V [f 30, f 31, f 32, f 33, f 34, f 35]), .call (V [f 60, f 61, f 62, f 63, f 64, f 65]), .q (PT J2_6 360)] H28 ?ho21 ?he21
 case ho21 => exact ar (bT 1 Ai93 As93 (ar (av (ag (bA 30 6 0 Ai129 As129 (ac (fun w' h => eC call117 (C10.out w' (h.one 4 rfl))) (ag trivial)))))))
 intro _ w29 H29
 clear H28
 refine zF (l := [8]) rfl ?_
 refine sA 0 60 [f 60, f 61, f 62, f 63, f 64, f 65] [(_, cel (tbz2 66 f)), _, _, _, _] H29 o2_6 As129 fun w30 H30 => ?_
 clear H29
 refine zE (zA ?_)
 refine zN 10 [.q (.int .i64 10), .q (.int .i64 11), .q (.agg (G2 tn (e0 u) (e1 u) (e0 b) (e1 b)).toArray), .q (.int .i64 10), .q (PT J2_6 360), .q (V [f 60, f 61, f 62, f 63, f 64, f 65]), .q (PT J2_6 36), .q (V [f 6, f 7, f 8, f 9, f 10, f 11]), .call (V [f 66, f 67, f 68, f 69, f 70, f 71]), .q (PT J2_6 396)] H30 ?ho22 ?he22
 case ho22 => exact ar (av (bT 1 Ai93 As93 (ar (ag (bA 60 6 0 Ai129 As129 (ag (bA 6 6 0 Ai129 As129 (ac (fun w' h => eC call100 (C11.out w' (h.one 4 rfl))) (ag trivial)))))))))
 intro _ w31 H31
 clear H30
 refine zF (l := [10]) rfl ?_
 refine sA 0 66 [f 66, f 67, f 68, f 69, f 70, f 71] [(_, cel (tbz2 72 f)), _, _, _, _] H31 o2_6 As129 fun w32 H32 => ?_
 clear H31
 refine zE (zI (zA ?_))
 refine zC 2 [.q (.int .i64 10), .q (.int .i64 12)] H32 ?ho23 ?he23
 case ho23 => exact ar (av trivial)
 intro _ w33 H33
 clear H32
 refine zF (l := [2]) rfl ?_
 refine zG (d := 6) rfl rfl rfl rfl ?_
 simp only [Act.put, sa, sz, ss]
 refine zE (zA ?_)
 refine zM (n := 2) ?_
 refine wp_seq (wp_seq ?_)
 refine zC 2 [.q (.int .i64 12), .q (.bool true)] H33 ?ho24 ?he24
 case ho24 => exact ar (ag trivial)
 intro _ w34 H34
 clear H33
 refine rN (wp_cond_true rfl ?_)
 refine wp_skip (zA ?_)
 refine wp_seq (wp_block (wp_seq ?_))
 refine zN 8 [.q (.int .i64 12), .q (.agg (G2 tn (e0 u) (e1 u) (e0 b) (e1 b)).toArray), .q (.int .i64 12), .q (.int .i64 6), .q (PT J2_6 216), .q (V [f 36, f 37, f 38, f 39, f 40, f 41]), .call (V [f 72, f 73, f 74, f 75, f 76, f 77]), .q (PT J2_6 432)] H34 ?ho25 ?he25
 case ho25 => exact ar (bT 1 Ai93 As93 (ar (av (ag (bA 36 6 0 Ai129 As129 (ac (fun w' h => eC call117 (C12.out w' (h.one 4 rfl))) (ag trivial)))))))
 intro _ w35 H35
 clear H34
 refine zF (l := [8]) rfl ?_
 refine sA 0 72 [f 72, f 73, f 74, f 75, f 76, f 77] [(_, cel (tbz2 78 f)), _, _, _, _] H35 o2_6 As129 fun w36 H36 => ?_
 clear H35
 refine zE (zA ?_)
 refine zN 10 [.q (.int .i64 12), .q (.int .i64 13), .q (.agg (G2 tn (e0 u) (e1 u) (e0 b) (e1 b)).toArray), .q (.int .i64 12), .q (PT J2_6 432), .q (V [f 72, f 73, f 74, f 75, f 76, f 77]), .q (PT J2_6 36), .q (V [f 6, f 7, f 8, f 9, f 10, f 11]), .call (V [f 78, f 79, f 80, f 81, f 82, f 83]), .q (PT J2_6 468)] H36 ?ho26 ?he26
 case ho26 => exact ar (av (bT 1 Ai93 As93 (ar (ag (bA 72 6 0 Ai129 As129 (ag (bA 6 6 0 Ai129 As129 (ac (fun w' h => eC call100 (C13.out w' (h.one 4 rfl))) (ag trivial)))))))))
 intro _ w37 H37
 clear H36
 refine zF (l := [10]) rfl ?_
 refine sA 0 78 [f 78, f 79, f 80, f 81, f 82, f 83] [(_, cel (tbz2 84 f)), _, _, _, _] H37 o2_6 As129 fun w38 H38 => ?_
 clear H37
 refine zE (zI (zA ?_))
 refine zC 2 [.q (.int .i64 12), .q (.int .i64 14)] H38 ?ho27 ?he27
 case ho27 => exact ar (av trivial)
 intro _ w39 H39
 clear H38
 refine zF (l := [2]) rfl ?_
 refine zG (d := 6) rfl rfl rfl rfl ?_
 simp only [Act.put, sa, sz, ss]
 refine zE (zA ?_)
 refine zM (n := 1) ?_
 refine wp_seq (wp_seq ?_)
 refine zC 2 [.q (.int .i64 14), .q (.bool true)] H39 ?ho28 ?he28
 case ho28 => exact ar (ag trivial)
 intro _ w40 H40
 clear H39
 refine rN (wp_cond_true rfl ?_)
 refine wp_skip (zA ?_)
 refine wp_seq (wp_block (wp_seq ?_))
 refine zN 8 [.q (.int .i64 14), .q (.agg (G2 tn (e0 u) (e1 u) (e0 b) (e1 b)).toArray), .q (.int .i64 14), .q (.int .i64 7), .q (PT J2_6 252), .q (V [f 42, f 43, f 44, f 45, f 46, f 47]), .call (V [f 84, f 85, f 86, f 87, f 88, f 89]), .q (PT J2_6 504)] H40 ?ho29 ?he29
 case ho29 => exact ar (bT 1 Ai93 As93 (ar (av (ag (bA 42 6 0 Ai129 As129 (ac (fun w' h => eC call117 (C14.out w' (h.one 4 rfl))) (ag trivial)))))))
 intro _ w41 H41
 clear H40
 refine zF (l := [8]) rfl ?_
 refine sA 0 84 [f 84, f 85, f 86, f 87, f 88, f 89] [(_, cel (tbz2 90 f)), _, _, _, _] H41 o2_6 As129 fun w42 H42 => ?_
 clear H41
 refine zE (zA ?_)
 refine zN 10 [.q (.int .i64 14), .q (.int .i64 15), .q (.agg (G2 tn (e0 u) (e1 u) (e0 b) (e1 b)).toArray), .q (.int .i64 14), .q (PT J2_6 504), .q (V [f 84, f 85, f 86, f 87, f 88, f 89]), .q (PT J2_6 36), .q (V [f 6, f 7, f 8, f 9, f 10, f 11]), .call (V [f 90, f 91, f 92, f 93, f 94, f 95]), .q (PT J2_6 540)] H42 ?ho30 ?he30
 case ho30 => exact ar (av (bT 1 Ai93 As93 (ar (ag (bA 84 6 0 Ai129 As129 (ag (bA 6 6 0 Ai129 As129 (ac (fun w' h => eC call100 (C15.out w' (h.one 4 rfl))) (ag trivial)))))))))
 intro _ w43 H43
 clear H42
 refine zF (l := [10]) rfl ?_
 refine sA 0 90 [f 90, f 91, f 92, f 93, f 94, f 95] [(_, cel (tb2 f)), _, _, _, _] H43 o2_6 As129 fun w44 H44 => ?_
 clear H43
 refine zE (zI (zA ?_))
 refine zC 2 [.q (.int .i64 14), .q (.int .i64 16)] H44 ?ho31 ?he31
 case ho31 => exact ar (av trivial)
 intro _ w45 H45
 clear H44
 refine zF (l := [2]) rfl ?_
 refine zG (d := 6) rfl rfl rfl rfl ?_
 simp only [Act.put, sa, sz, ss]
 refine zE (zA ?_)
 refine zM (n := 0) ?_
 refine wp_seq (wp_seq ?_)
 refine zC 2 [.q (.int .i64 16), .q (.bool false)] H45 ?ho32 ?he32
 case ho32 => exact ar (ag trivial)
 intro _ w46 H46
 clear H45
 refine rN (wp_cond_false rfl ?_)
 refine wp_exit ?_
 repeat refine zY ?_
 refine zU ?_
 refine zA (wp_seq ?_)
 refine zC 1 [.q (V (tb2 f))] H46 ?ho33 ?he33
 case ho33 => exact bA 0 96 0 Tryz.isAgg171 As171 trivial
 intro _ w47 H47
 clear H46
 refine zF (l := [1]) rfl ?_
 refine sA 3 0 [f 0, f 1, f 2, f 3, f 4, f 5, f 6, f 7, f 8, f 9, f 10, f 11, f 12, f 13, f 14, f 15, f 16, f 17, f 18, f 19, f 20, f 21, f 22, f 23, f 24, f 25, f 26, f 27, f 28, f 29, f 30, f 31, f 32, f 33, f 34, f 35, f 36, f 37, f 38, f 39, f 40, f 41, f 42, f 43, f 44, f 45, f 46, f 47, f 48, f 49, f 50, f 51, f 52, f 53, f 54, f 55, f 56, f 57, f 58, f 59, f 60, f 61, f 62, f 63, f 64, f 65, f 66, f 67, f 68, f 69, f 70, f 71, f 72, f 73, f 74, f 75, f 76, f 77, f 78, f 79, f 80, f 81, f 82, f 83, f 84, f 85, f 86, f 87, f 88, f 89, f 90, f 91, f 92, f 93, f 94, f 95] [_, _, _, (_, cel (tb2 f)), _] H47 o1_2 As171 fun w48 H48 => ?_
 clear H47
 refine zE (zA (wp_ret ?_))
 repeat (first | refine zK ?_ | refine zH ?_)
 have hf0 := cel_var (k := 96) H48.out.1 3 rfl Tryz.isAgg171 As171 rfl
 refine bodyPost_ret (v := V (tb2 f)) (by simp [results, Tryz.results128, asAddr, hf0]) rfl ?_
 exact ⟨rfl, H48.out.2⟩
set_option maxHeartbeats 8000000 in
theorem byRow_2 {α : Type} {e0 e1 : α → Nat} {fa fs fm : α → α → α} {fi : α → α} {z u b : α} {tn : Value} (_C : Fd2 e0 e1 fa fs fm fi z) (f : Nat → Nat) (tw : EC.Tri α → EC.Tri α) (tg : EC.Tri α → Nat → EC.Tri α) (A : Nat → EC.Tri α) (wo : Nat → Int) (dg : Nat → Nat) (gt gr : Nat)
  (ctw : ∀ T w, Mm w [(2, dtab)] → Calls Tryz.prog 117 #[.agg (G2 tn (e0 u) (e1 u) (e0 b) (e1 b)).toArray, V [e0 T.1, e1 T.1, e0 T.2.1, e1 T.2.1, e0 T.2.2, e1 T.2.2]] w (Rt w (V [e0 ((tw T).1), e1 ((tw T).1), e0 ((tw T).2.1), e1 ((tw T).2.1), e0 ((tw T).2.2), e1 ((tw T).2.2)])))
  (ctg : ∀ T d, d < 16 → ∀ w, Mm w [(2, dtab)] → Calls Tryz.prog 100 #[.agg (G2 tn (e0 u) (e1 u) (e0 b) (e1 b)).toArray, V [e0 T.1, e1 T.1, e0 T.2.1, e1 T.2.1, e0 T.2.2, e1 T.2.2], V [f (6 * d), f (6 * d + 1), f (6 * d + 2), f (6 * d + 3), f (6 * d + 4), f (6 * d + 5)]] w (Rt w (V [e0 ((tg T d).1), e1 ((tg T d).1), e0 ((tg T d).2.1), e1 ((tg T d).2.1), e0 ((tg T d).2.2), e1 ((tg T d).2.2)])))
  (hd : ∀ k, wo k / 2 ^ 60 = ((dg k : Nat) : Int)) (hdl : ∀ k, dg k < 16) (hw : ∀ k, IntKind.u64.wrap (wo k * 2 ^ 4) = wo (k + 1))
  (ha0 : ∀ k, dg k = 0 → tw (tw (tw (tw (A k)))) = A (k + 1)) (ha1 : ∀ k, 0 < dg k → tg (tw (tw (tw (tw (A k))))) (dg k) = A (k + 1)) (w : World) (hm : Mm w [(2, dtab), (gt, cel (tb2 f)), (gr, [Value.int .u64 (wo 0)])]) :
  Calls Tryz.prog 129 #[.agg (G2 tn (e0 u) (e1 u) (e0 b) (e1 b)).toArray, V [e0 ((A 0).1), e1 ((A 0).1), e0 ((A 0).2.1), e1 ((A 0).2.1), e0 ((A 0).2.2), e1 ((A 0).2.2)], .slice (some ⟨gt, 0, none⟩) 1 1, .slice (some ⟨gr, 0, none⟩) 1 1] w fun e w' => e = .returned (V [e0 ((A 16).1), e1 ((A 16).1), e0 ((A 16).2.1), e1 ((A 16).2.1), e0 ((A 16).2.2), e1 ((A 16).2.2)]) ∧ Mm w' [(gr, [Value.int .u64 (wo 16)])] ∧ Kp gr w w' := by
 have H0 : Hid (_ ∧ _) := ⟨hm, Kp.refl gr w⟩
 clear hm
 have CTW : Hid _ := ctw
 clear ctw
 have CTG : Hid _ := ctg
 clear ctg
 have HD : Hid _ := hd
 clear hd
 have HDL : Hid _ := hdl
 clear hdl
 have HW : Hid _ := hw
 clear hw
 have HA0 : Hid _ := ha0
 clear ha0
 have HA1 : Hid _ := ha1
 clear ha1
 go_enter Tryz.func129, Tryz.ntmps129
 refine wp_seq ?_
 refine zB 3 [.made (G2 tn (e0 u) (e1 u) (e0 b) (e1 b)) 93, .made (cel [e0 ((A 0).1), e1 ((A 0).1), e0 ((A 0).2.1), e1 ((A 0).2.1), e0 ((A 0).2.2), e1 ((A 0).2.2)]) 129, .made (cel [0, 0, 0, 0, 0, 0]) 129] (sB H0) ?ho1 ?he1
 case ho1 => exact am (zS rfl rfl) (am (ex_boxA rfl rfl) (am (ex_madeTE rfl) trivial))
 intro J w1 l hM hl
 have H1 : Hid (Mm w1 ([(J 0, G2 tn (e0 u) (e1 u) (e0 b) (e1 b)), (J 1, cel [e0 ((A 0).1), e1 ((A 0).1), e0 ((A 0).2.1), e1 ((A 0).2.1), e0 ((A 0).2.2), e1 ((A 0).2.2)]), (J 2, cel [0, 0, 0, 0, 0, 0])] ++ _) ∧ _) := wK H0 hM hl [0, 1, 2]
 have o1_0 := vK H0 hM hl 0
 have o1_1 := vK H0 hM hl 1
 have o1_2 := vK H0 hM hl 2
 clear hM hl l
 generalize J 0 = J1_0 at H1 o1_0 ⊢
 generalize J 1 = J1_1 at H1 o1_1 ⊢
 generalize J 2 = J1_2 at H1 o1_2 ⊢
 clear J
 refine rN (wp_seq (wp_seq ?_))
 refine zB 1 [.q (.int .i64 0)] (sB H1) ?ho2 ?he2
 case ho2 => exact ar trivial
 intro J w2 l hM hl
 have H2 := zO H1 hM.below
 clear hM hl l H1 J
 refine rN (wp_block ?_)
 refine loop_ghost (α := Nat) (fun k a' w' => ∃ s0 : Nat → Value, a' = ⟨#[.agg (G2 tn (e0 u) (e1 u) (e0 b) (e1 b)).toArray, V [e0 ((A 0).1), e1 ((A 0).1), e0 ((A 0).2.1), e1 ((A 0).2.1), e0 ((A 0).2.2), e1 ((A 0).2.2)], .slice (some ⟨gt, 0, none⟩) 1 1, .slice (some ⟨gr, 0, none⟩) 1 1, PT J1_0 0, PT J1_1 0, ud, ud, PT J1_2 0, s0 9, s0 10, s0 11, .int .i64 ((k : Nat) : Int), s0 13, s0 14, s0 15, s0 16, s0 17, s0 18, s0 19, s0 20, s0 21, s0 22, s0 23, s0 24, s0 25, s0 26, s0 27, s0 28, s0 29, s0 30, s0 31, s0 32, s0 33, s0 34, s0 35, s0 36, s0 37, s0 38, s0 39, s0 40, s0 41, s0 42, s0 43, s0 44, s0 45, s0 46, ud], []⟩ ∧ (Mm w' [(J1_0, G2 tn (e0 u) (e1 u) (e0 b) (e1 b)), (J1_1, cel [e0 ((A k).1), e1 ((A k).1), e0 ((A k).2.1), e1 ((A k).2.1), e0 ((A k).2.2), e1 ((A k).2.2)]), (J1_2, cel [0, 0, 0, 0, 0, 0]), (2, dtab), (gt, cel (tb2 f)), (gr, [Value.int .u64 (wo k)])] ∧ Kp gr w w') ∧ k ≤ 16) (fun k => 16 - k) 0 ?st0 ?rd0
 case st0 => exact ⟨(slotfn [ud, ud, ud, ud, ud, ud, ud, ud, ud, ud, ud, ud, ud, ud, ud, ud, ud, ud, ud, ud, ud, ud, ud, ud, ud, ud, ud, ud, ud, ud, ud, ud, ud, ud, ud, ud, ud, ud, ud, ud, ud, ud, ud, ud, ud, ud, ud]), rfl, ⟨H2.out.1, H2.out.2⟩, by omega⟩
 intro k a' w3 hI
 obtain ⟨s0, rfl, hMB, hk0⟩ := hI
 have H3 : Hid (_ ∧ _) := hMB
 clear hMB H2
 by_cases hlt0 : k < 16
 ·have hrd : True := trivial
  clear hrd
  by_cases hdz : dg k = 0
  ·have hrd : True := trivial
   clear hrd
   have hlt : k < 16 := by omega
   refine wp_seq ?_
   refine zB 1 [.q (.bool true)] (sB H3) ?ho3 ?he3
   case ho3 => exact ak (by refine fun J => ⟨rfl, fun w' h => ?_⟩; clear h; go_simp <;> omega) trivial
   intro J w4 l hM hl
   have H4 := zO H3 hM.below
   clear hM hl l H3 J
   refine rN (wp_seq ?_)
   refine wp_cond_true rfl (wp_skip ?_)
   refine zA (wp_seq ?_)
   refine wp_block (wp_seq (wp_seq ?_))
   refine zB 1 [.q (.int .i64 0)] (sB H4) ?ho4 ?he4
   case ho4 => exact ar trivial
   intro J w5 l hM hl
   have H5 := zO H4 hM.below
   clear hM hl l H4 J
   refine rN (wp_block ?_)
   refine wp_loop_rounds 5 ?_
   refine zM (n := 4) ?_
   refine wp_seq ?_
   refine zB 1 [.q (.bool true)] (sB H5) ?ho5 ?he5
   case ho5 => exact ag trivial
   intro J w6 l hM hl
   have H6 := zO H5 hM.below
   clear hM hl l H5 J
   refine rN (wp_seq ?_)
   refine wp_cond_true rfl (wp_skip ?_)
   refine zA (wp_seq (wp_block ?_))
   refine zB 3 [.q (.agg (G2 tn (e0 u) (e1 u) (e0 b) (e1 b)).toArray), .q (V [e0 ((A k).1), e1 ((A k).1), e0 ((A k).2.1), e1 ((A k).2.1), e0 ((A k).2.2), e1 ((A k).2.2)]), .call (V [e0 ((tw (A k)).1), e1 ((tw (A k)).1), e0 ((tw (A k)).2.1), e1 ((tw (A k)).2.1), e0 ((tw (A k)).2.2), e1 ((tw (A k)).2.2)])] (sB H6) ?ho6 ?he6
   case ho6 => exact bT 0 Ai93 As93 (bA 0 6 1 Ai129 As129 (ac (fun w' h => eC call117 (CTW.out (A k) w' (h.one 3 rfl))) trivial))
   intro J w7 l hM hl
   have H7 := zO H6 hM.below
   clear hM hl l H6 J
   refine zF (l := [3]) rfl ?_
   refine sL 1 [e0 ((tw (A k)).1), e1 ((tw (A k)).1), e0 ((tw (A k)).2.1), e1 ((tw (A k)).2.1), e0 ((tw (A k)).2.2), e1 ((tw (A k)).2.2)] [_, _, _, _, _, _] H7 o1_1 As129 fun w8 H8 => ?_
   clear H7
   refine zE (zI (zA ?_))
   refine zB 1 [.q (.int .i64 1)] (sB H8) ?ho7 ?he7
   case ho7 => exact av trivial
   intro J w9 l hM hl
   have H9 := zO H8 hM.below
   clear hM hl l H8 J
   refine zF (l := [1]) rfl ?_
   refine zG (d := 14) rfl rfl rfl rfl ?_
   simp only [Act.put, sa, sz, ss]
   refine zE (zA ?_)
   refine zM (n := 3) ?_
   refine wp_seq ?_
   refine zB 1 [.q (.bool true)] (sB H9) ?ho8 ?he8
   case ho8 => exact ag trivial
   intro J w10 l hM hl
   have H10 := zO H9 hM.below
   clear hM hl l H9 J
   refine rN (wp_seq ?_)
   refine wp_cond_true rfl (wp_skip ?_)
   refine zA (wp_seq (wp_block ?_))
   refine zB 3 [.q (.agg (G2 tn (e0 u) (e1 u) (e0 b) (e1 b)).toArray), .q (V [e0 ((tw (A k)).1), e1 ((tw (A k)).1), e0 ((tw (A k)).2.1), e1 ((tw (A k)).2.1), e0 ((tw (A k)).2.2), e1 ((tw (A k)).2.2)]), .call (V [e0 ((tw (tw (A k))).1), e1 ((tw (tw (A k))).1), e0 ((tw (tw (A k))).2.1), e1 ((tw (tw (A k))).2.1), e0 ((tw (tw (A k))).2.2), e1 ((tw (tw (A k))).2.2)])] (sB H10) ?ho9 ?he9
   case ho9 => exact bT 0 Ai93 As93 (bA 0 6 1 Ai129 As129 (ac (fun w' h => eC call117 (CTW.out (tw (A k)) w' (h.one 3 rfl))) trivial))
   intro J w11 l hM hl
   have H11 := zO H10 hM.below
   clear hM hl l H10 J
   refine zF (l := [3]) rfl ?_
   refine sL 1 [e0 ((tw (tw (A k))).1), e1 ((tw (tw (A k))).1), e0 ((tw (tw (A k))).2.1), e1 ((tw (tw (A k))).2.1), e0 ((tw (tw (A k))).2.2), e1 ((tw (tw (A k))).2.2)] [_, _, _, _, _, _] H11 o1_1 As129 fun w12 H12 => ?_
   clear H11
   refine zE (zI (zA ?_))
   refine zB 1 [.q (.int .i64 2)] (sB H12) ?ho10 ?he10
   case ho10 => exact av trivial
   intro J w13 l hM hl
   have H13 := zO H12 hM.below
   clear hM hl l H12 J
   refine zF (l := [1]) rfl ?_
   refine zG (d := 14) rfl rfl rfl rfl ?_
   simp only [Act.put, sa, sz, ss]
   refine zE (zA ?_)
   refine zM (n := 2) ?_
   refine wp_seq ?_
   refine zB 1 [.q (.bool true)] (sB H13) ?ho11 ?he11
   case ho11 => exact ag trivial
   intro J w14 l hM hl
   have H14 := zO H13 hM.below
   clear hM hl l H13 J
   refine rN (wp_seq ?_)
   refine wp_cond_true rfl (wp_skip ?_)
   refine zA (wp_seq (wp_block ?_))
   refine zB 3 [.q (.agg (G2 tn (e0 u) (e1 u) (e0 b) (e1 b)).toArray), .q (V [e0 ((tw (tw (A k))).1), e1 ((tw (tw (A k))).1), e0 ((tw (tw (A k))).2.1), e1 ((tw (tw (A k))).2.1), e0 ((tw (tw (A k))).2.2), e1 ((tw (tw (A k))).2.2)]), .call (V [e0 ((tw (tw (tw (A k)))).1), e1 ((tw (tw (tw (A k)))).1), e0 ((tw (tw (tw (A k)))).2.1), e1 ((tw (tw (tw (A k)))).2.1), e0 ((tw (tw (tw (A k)))).2.2), e1 ((tw (tw (tw (A k)))).2.2)])] (sB H14) ?ho12 ?he12
   case ho12 => exact bT 0 Ai93 As93 (bA 0 6 1 Ai129 As129 (ac (fun w' h => eC call117 (CTW.out (tw (tw (A k))) w' (h.one 3 rfl))) trivial))
   intro J w15 l hM hl
   have H15 := zO H14 hM.below
   clear hM hl l H14 J
   refine zF (l := [3]) rfl ?_
   refine sL 1 [e0 ((tw (tw (tw (A k)))).1), e1 ((tw (tw (tw (A k)))).1), e0 ((tw (tw (tw (A k)))).2.1), e1 ((tw (tw (tw (A k)))).2.1), e0 ((tw (tw (tw (A k)))).2.2), e1 ((tw (tw (tw (A k)))).2.2)] [_, _, _, _, _, _] H15 o1_1 As129 fun w16 H16 => ?_
   clear H15
   refine zE (zI (zA ?_))
   refine zB 1 [.q (.int .i64 3)] (sB H16) ?ho13 ?he13
   case ho13 => exact av trivial
   intro J w17 l hM hl
   have H17 := zO H16 hM.below
   clear hM hl l H16 J
   refine zF (l := [1]) rfl ?_
   refine zG (d := 14) rfl rfl rfl rfl ?_
   simp only [Act.put, sa, sz, ss]
   refine zE (zA ?_)
   refine zM (n := 1) ?_
   refine wp_seq ?_
   refine zB 1 [.q (.bool true)] (sB H17) ?ho14 ?he14
   case ho14 => exact ag trivial
   intro J w18 l hM hl
   have H18 := zO H17 hM.below
   clear hM hl l H17 J
   refine rN (wp_seq ?_)
   refine wp_cond_true rfl (wp_skip ?_)
   refine zA (wp_seq (wp_block ?_))
   refine zB 3 [.q (.agg (G2 tn (e0 u) (e1 u) (e0 b) (e1 b)).toArray), .q (V [e0 ((tw (tw (tw (A k)))).1), e1 ((tw (tw (tw (A k)))).1), e0 ((tw (tw (tw (A k)))).2.1), e1 ((tw (tw (tw (A k)))).2.1), e0 ((tw (tw (tw (A k)))).2.2), e1 ((tw (tw (tw (A k)))).2.2)]), .call (V [e0 ((tw (tw (tw (tw (A k))))).1), e1 ((tw (tw (tw (tw (A k))))).1), e0 ((tw (tw (tw (tw (A k))))).2.1), e1 ((tw (tw (tw (tw (A k))))).2.1), e0 ((tw (tw (tw (tw (A k))))).2.2), e1 ((tw (tw (tw (tw (A k))))).2.2)])] (sB H18) ?ho15 ?he15
   case ho15 => exact bT 0 Ai93 As93 (bA 0 6 1 Ai129 As129 (ac (fun w' h => eC call117 (CTW.out (tw (tw (tw (A k)))) w' (h.one 3 rfl))) trivial))
   intro J w19 l hM hl
   have H19 := zO H18 hM.below
   clear hM hl l H18 J
   refine zF (l := [3]) rfl ?_
   refine sL 1 [e0 ((tw (tw (tw (tw (A k))))).1), e1 ((tw (tw (tw (tw (A k))))).1), e0 ((tw (tw (tw (tw (A k))))).2.1), e1 ((tw (tw (tw (tw (A k))))).2.1), e0 ((tw (tw (tw (tw (A k))))).2.2), e1 ((tw (tw (tw (tw (A k))))).2.2)] [_, _, _, _, _, _] H19 o1_1 As129 fun w20 H20 => ?_
   clear H19
   refine zE (zI (zA ?_))
   refine zB 1 [.q (.int .i64 4)] (sB H20) ?ho16 ?he16
   case ho16 => exact av trivial
   intro J w21 l hM hl
   have H21 := zO H20 hM.below
   clear hM hl l H20 J
   refine zF (l := [1]) rfl ?_
   refine zG (d := 14) rfl rfl rfl rfl ?_
   simp only [Act.put, sa, sz, ss]
   refine zE (zA ?_)
   refine zM (n := 0) ?_
   refine wp_seq ?_
   refine zB 1 [.q (.bool false)] (sB H21) ?ho17 ?he17
   case ho17 => exact ag trivial
   intro J w22 l hM hl
   have H22 := zO H21 hM.below
   clear hM hl l H21 J
   refine rN (wp_seq (wp_cond_false rfl ?_))
   refine wp_exit ?_
   repeat refine zY ?_
   refine zU ?_
   refine zA (wp_seq ?_)
   refine zB 3 [.q (.slice (some ⟨gr, 0, none⟩) 1 1), .q (.int .i64 1), .q (.int .i64 0)] (sB H22) ?ho18 ?he18
   case ho18 => exact ar (ag (ar trivial))
   intro J w23 l hM hl
   have H23 := zO H22 hM.below
   clear hM hl l H22 J
   refine rN (wp_block ?_)
   refine wp_loop_rounds 2 ?_
   refine zM (n := 1) ?_
   refine wp_seq ?_
   refine zB 1 [.q (.bool true)] (sB H23) ?ho19 ?he19
   case ho19 => exact ag trivial
   intro J w24 l hM hl
   have H24 := zO H23 hM.below
   clear hM hl l H23 J
   refine rN (wp_seq ?_)
   refine wp_cond_true rfl (wp_skip ?_)
   refine zA (wp_seq ?_)
   refine wp_block (wp_seq ?_)
   refine zB 5 [.q (.int .i64 0), .q (PT gr 0), .q (.int .u64 (wo k)), .q (.int .i64 0), .q (.int .u64 (wo k))] (sB H24) ?ho20 ?he20
   case ho20 => exact ar (ag (bC 5 Ai22 (ar (ar trivial))))
   intro J w25 l hM hl
   have H25 := zO H24 hM.below
   clear hM hl l H24 J
   refine rN (wp_seq (wp_seq ?_))
   refine zB 3 [.q (.int .u64 (wo k)), .q (.int .u64 ((dg k : Nat) : Int)), .q (.int .u64 ((dg k : Nat) : Int))] (sB H25) ?ho21 ?he21
   case ho21 => exact ar (ak (fun J => ⟨rfl, fun w' _ => by rw [← HD.out k]; exact ex_shr60 rfl rfl rfl⟩) (ar trivial))
   intro J w26 l hM hl
   have H26 := zO H25 hM.below
   clear hM hl l H25 J
   refine rN (wp_seq ?_)
   refine zB 2 [.q (.int .u64 ((dg k : Nat) : Int)), .q (.bool false)] (sB H26) ?ho22 ?he22
   case ho22 => exact ar (ak (by refine fun J => ⟨rfl, fun w' h => ?_⟩; clear h; go_simp <;> omega) trivial)
   intro J w27 l hM hl
   have H27 := zO H26 hM.below
   clear hM hl l H26 J
   refine rN (wp_cond_false rfl ?_)
   refine wp_skip (zA ?_)
   refine zB 5 [.q (.slice (some ⟨gr, 0, none⟩) 1 1), .q (.int .i64 0), .q (.int .u64 (wo k)), .q (.int .u64 (IntKind.u64.wrap (wo k * 2 ^ 4))), .q (PT gr 0)] (sB H27) ?ho23 ?he23
   case ho23 => exact ar (ar (ar (ak (fun J => ⟨rfl, fun w' _ => ex_shl4 rfl rfl rfl⟩) (ag trivial))))
   intro J w28 l hM hl
   have H28 := zO H27 hM.below
   clear hM hl l H27 J
   refine zF (l := [5]) rfl ?_
   refine sH rfl (fun h => ex_storeI h 5 rfl rfl As22 rfl rfl (Nat.le_of_ble_eq_true rfl)) 5 [_, _, _, _, _, (_, [Value.int .u64 (IntKind.u64.wrap (wo k * 2 ^ 4))])] H28 (Or.inl rfl) fun w29 H29 => ?_
   clear H28
   refine zE (zI (zA ?_))
   refine zB 1 [.q (.int .i64 1)] (sB H29) ?ho24 ?he24
   case ho24 => exact av trivial
   intro J w30 l hM hl
   have H30 := zO H29 hM.below
   clear hM hl l H29 J
   refine zF (l := [1]) rfl ?_
   refine zG (d := 22) rfl rfl rfl rfl ?_
   simp only [Act.put, sa, sz, ss]
   refine zE (zA ?_)
   refine zM (n := 0) ?_
   refine wp_seq ?_
   refine zB 1 [.q (.bool false)] (sB H30) ?ho25 ?he25
   case ho25 => exact ag trivial
   intro J w31 l hM hl
   have H31 := zO H30 hM.below
   clear hM hl l H30 J
   refine rN (wp_seq (wp_cond_false rfl ?_))
   refine wp_exit ?_
   repeat refine zY ?_
   refine zU ?_
   refine zI (zA ?_)
   refine zB 1 [.q (.int .i64 ((k + 1 : Nat) : Int))] (sB H31) ?ho26 ?he26
   case ho26 => exact ak (by refine fun J => ⟨rfl, fun w' h => ?_⟩; clear h; go_simp; rw [IntKind.wrap_i64]; omega) trivial
   intro J w32 l hM hl
   have H32 := zO H31 hM.below
   clear hM hl l H31 J
   refine zF (l := [1]) rfl ?_
   refine zG (d := 12) rfl rfl rfl rfl ?_
   simp only [Act.put, sa, sz, ss]
   refine zE (zA ?_)
   exact ⟨k + 1, ⟨(slotfn [ud, ud, ud, ud, ud, ud, ud, ud, ud, .int .i64 0, .int .u64 (wo k), .int .u64 ((dg k : Nat) : Int), ud, .bool true, .int .i64 4, .bool false, .agg (G2 tn (e0 u) (e1 u) (e0 b) (e1 b)).toArray, V [e0 ((tw (tw (tw (A k)))).1), e1 ((tw (tw (tw (A k)))).1), e0 ((tw (tw (tw (A k)))).2.1), e1 ((tw (tw (tw (A k)))).2.1), e0 ((tw (tw (tw (A k)))).2.2), e1 ((tw (tw (tw (A k)))).2.2)], V [e0 ((tw (tw (tw (tw (A k))))).1), e1 ((tw (tw (tw (tw (A k))))).1), e0 ((tw (tw (tw (tw (A k))))).2.1), e1 ((tw (tw (tw (tw (A k))))).2.1), e0 ((tw (tw (tw (tw (A k))))).2.2), e1 ((tw (tw (tw (tw (A k))))).2.2)], .int .i64 4, .slice (some ⟨gr, 0, none⟩) 1 1, .int .i64 1, .int .i64 1, .bool false, .int .i64 0, PT gr 0, .int .u64 (wo k), .int .u64 (wo k), .int .u64 ((dg k : Nat) : Int), .int .u64 ((dg k : Nat) : Int), .bool false, s0 31, s0 32, s0 33, s0 34, s0 35, s0 36, s0 37, s0 38, s0 39, .slice (some ⟨gr, 0, none⟩) 1 1, .int .i64 0, .int .u64 (wo k), .int .u64 (IntKind.u64.wrap (wo k * 2 ^ 4)), PT gr 0, .int .i64 1, .int .i64 ((k + 1 : Nat) : Int)]), rfl, ⟨(H32.out.1).atk (by rw [HA0.out k hdz, HW.out]), H32.out.2⟩, by omega⟩, by omega⟩
  ·have hrd : True := trivial
   clear hrd
   have hdz := Nat.pos_of_ne_zero hdz
   have hlt : k < 16 := by omega
   refine wp_seq ?_
   refine zB 1 [.q (.bool true)] (sB H3) ?ho27 ?he27
   case ho27 => exact ak (by refine fun J => ⟨rfl, fun w' h => ?_⟩; clear h; go_simp <;> omega) trivial
   intro J w33 l hM hl
   have H33 := zO H3 hM.below
   clear hM hl l H3 J
   refine rN (wp_seq ?_)
   refine wp_cond_true rfl (wp_skip ?_)
   refine zA (wp_seq ?_)
   refine wp_block (wp_seq (wp_seq ?_))
   refine zB 1 [.q (.int .i64 0)] (sB H33) ?ho28 ?he28
   case ho28 => exact ar trivial
   intro J w34 l hM hl
   have H34 := zO H33 hM.below
   clear hM hl l H33 J
   refine rN (wp_block ?_)
   refine wp_loop_rounds 5 ?_
   refine zM (n := 4) ?_
   refine wp_seq ?_
   refine zB 1 [.q (.bool true)] (sB H34) ?ho29 ?he29
   case ho29 => exact ag trivial
   intro J w35 l hM hl
   have H35 := zO H34 hM.below
   clear hM hl l H34 J
   refine rN (wp_seq ?_)
   refine wp_cond_true rfl (wp_skip ?_)
   refine zA (wp_seq (wp_block ?_))
   refine zB 3 [.q (.agg (G2 tn (e0 u) (e1 u) (e0 b) (e1 b)).toArray), .q (V [e0 ((A k).1), e1 ((A k).1), e0 ((A k).2.1), e1 ((A k).2.1), e0 ((A k).2.2), e1 ((A k).2.2)]), .call (V [e0 ((tw (A k)).1), e1 ((tw (A k)).1), e0 ((tw (A k)).2.1), e1 ((tw (A k)).2.1), e0 ((tw (A k)).2.2), e1 ((tw (A k)).2.2)])] (sB H35) ?ho30 ?he30
   case ho30 => exact bT 0 Ai93 As93 (bA 0 6 1 Ai129 As129 (ac (fun w' h => eC call117 (CTW.out (A k) w' (h.one 3 rfl))) trivial))
   intro J w36 l hM hl
   have H36 := zO H35 hM.below
   clear hM hl l H35 J
   refine zF (l := [3]) rfl ?_
   refine sL 1 [e0 ((tw (A k)).1), e1 ((tw (A k)).1), e0 ((tw (A k)).2.1), e1 ((tw (A k)).2.1), e0 ((tw (A k)).2.2), e1 ((tw (A k)).2.2)] [_, _, _, _, _, _] H36 o1_1 As129 fun w37 H37 => ?_
   clear H36
   refine zE (zI (zA ?_))
   refine zB 1 [.q (.int .i64 1)] (sB H37) ?ho31 ?he31
   case ho31 => exact av trivial
   intro J w38 l hM hl
   have H38 := zO H37 hM.below
   clear hM hl l H37 J
   refine zF (l := [1]) rfl ?_
   refine zG (d := 14) rfl rfl rfl rfl ?_
   simp only [Act.put, sa, sz, ss]
   refine zE (zA ?_)
   refine zM (n := 3) ?_
   refine wp_seq ?_
   refine zB 1 [.q (.bool true)] (sB H38) ?ho32 ?he32
   case ho32 => exact ag trivial
   intro J w39 l hM hl
   have H39 := zO H38 hM.below
   clear hM hl l H38 J
   refine rN (wp_seq ?_)
   refine wp_cond_true rfl (wp_skip ?_)
   refine zA (wp_seq (wp_block ?_))
   refine zB 3 [.q (.agg (G2 tn (e0 u) (e1 u) (e0 b) (e1 b)).toArray), .q (V [e0 ((tw (A k)).1), e1 ((tw (A k)).1), e0 ((tw (A k)).2.1), e1 ((tw (A k)).2.1), e0 ((tw (A k)).2.2), e1 ((tw (A k)).2.2)]), .call (V [e0 ((tw (tw (A k))).1), e1 ((tw (tw (A k))).1), e0 ((tw (tw (A k))).2.1), e1 ((tw (tw (A k))).2.1), e0 ((tw (tw (A k))).2.2), e1 ((tw (tw (A k))).2.2)])] (sB H39) ?ho33 ?he33
   case ho33 => exact bT 0 Ai93 As93 (bA 0 6 1 Ai129 As129 (ac (fun w' h => eC call117 (CTW.out (tw (A k)) w' (h.one 3 rfl))) trivial))
   intro J w40 l hM hl
   have H40 := zO H39 hM.below
   clear hM hl l H39 J
   refine zF (l := [3]) rfl ?_
   refine sL 1 [e0 ((tw (tw (A k))).1), e1 ((tw (tw (A k))).1), e0 ((tw (tw (A k))).2.1), e1 ((tw (tw (A k))).2.1), e0 ((tw (tw (A k))).2.2), e1 ((tw (tw (A k))).2.2)] [_, _, _, _, _, _] H40 o1_1 As129 fun w41 H41 => ?_
   clear H40
   refine zE (zI (zA ?_))
   refine zB 1 [.q (.int .i64 2)] (sB H41) ?ho34 ?he34
   case ho34 => exact av trivial
   intro J w42 l hM hl
   have H42 := zO H41 hM.below
   clear hM hl l H41 J
   refine zF (l := [1]) rfl ?_
   refine zG (d := 14) rfl rfl rfl rfl ?_
   simp only [Act.put, sa, sz, ss]
   refine zE (zA ?_)
   refine zM (n := 2) ?_
   refine wp_seq ?_
   refine zB 1 [.q (.bool true)] (sB H42) ?ho35 ?he35
   case ho35 => exact ag trivial
   intro J w43 l hM hl
   have H43 := zO H42 hM.below
   clear hM hl l H42 J
   refine rN (wp_seq ?_)
   refine wp_cond_true rfl (wp_skip ?_)
   refine zA (wp_seq (wp_block ?_))
   refine zB 3 [.q (.agg (G2 tn (e0 u) (e1 u) (e0 b) (e1 b)).toArray), .q (V [e0 ((tw (tw (A k))).1), e1 ((tw (tw (A k))).1), e0 ((tw (tw (A k))).2.1), e1 ((tw (tw (A k))).2.1), e0 ((tw (tw (A k))).2.2), e1 ((tw (tw (A k))).2.2)]), .call (V [e0 ((tw (tw (tw (A k)))).1), e1 ((tw (tw (tw (A k)))).1), e0 ((tw (tw (tw (A k)))).2.1), e1 ((tw (tw (tw (A k)))).2.1), e0 ((tw (tw (tw (A k)))).2.2), e1 ((tw (tw (tw (A k)))).2.2)])] (sB H43) ?ho36 ?he36
   case ho36 => exact bT 0 Ai93 As93 (bA 0 6 1 Ai129 As129 (ac (fun w' h => eC call117 (CTW.out (tw (tw (A k))) w' (h.one 3 rfl))) trivial))
   intro J w44 l hM hl
   have H44 := zO H43 hM.below
   clear hM hl l H43 J
   refine zF (l := [3]) rfl ?_
   refine sL 1 [e0 ((tw (tw (tw (A k)))).1), e1 ((tw (tw (tw (A k)))).1), e0 ((tw (tw (tw (A k)))).2.1), e1 ((tw (tw (tw (A k)))).2.1), e0 ((tw (tw (tw (A k)))).2.2), e1 ((tw (tw (tw (A k)))).2.2)] [_, _, _, _, _, _] H44 o1_1 As129 fun w45 H45 => ?_
   clear H44
   refine zE (zI (zA ?_))
   refine zB 1 [.q (.int .i64 3)] (sB H45) ?ho37 ?he37
   case ho37 => exact av trivial
   intro J w46 l hM hl
   have H46 := zO H45 hM.below
   clear hM hl l H45 J
   refine zF (l := [1]) rfl ?_
   refine zG (d := 14) rfl rfl rfl rfl ?_
   simp only [Act.put, sa, sz, ss]
   refine zE (zA ?_)
   refine zM (n := 1) ?_
   refine wp_seq ?_
   refine zB 1 [.q (.bool true)] (sB H46) ?ho38 ?he38
   case ho38 => exact ag trivial
   intro J w47 l hM hl
   have H47 := zO H46 hM.below
   clear hM hl l H46 J
   refine rN (wp_seq ?_)
   refine wp_cond_true rfl (wp_skip ?_)
   refine zA (wp_seq (wp_block ?_))
   refine zB 3 [.q (.agg (G2 tn (e0 u) (e1 u) (e0 b) (e1 b)).toArray), .q (V [e0 ((tw (tw (tw (A k)))).1), e1 ((tw (tw (tw (A k)))).1), e0 ((tw (tw (tw (A k)))).2.1), e1 ((tw (tw (tw (A k)))).2.1), e0 ((tw (tw (tw (A k)))).2.2), e1 ((tw (tw (tw (A k)))).2.2)]), .call (V [e0 ((tw (tw (tw (tw (A k))))).1), e1 ((tw (tw (tw (tw (A k))))).1), e0 ((tw (tw (tw (tw (A k))))).2.1), e1 ((tw (tw (tw (tw (A k))))).2.1), e0 ((tw (tw (tw (tw (A k))))).2.2), e1 ((tw (tw (tw (tw (A k))))).2.2)])] (sB H47) ?ho39 ?he39
   case ho39 => exact bT 0 Ai93 As93 (bA 0 6 1 Ai129 As129 (ac (fun w' h => eC call117 (CTW.out (tw (tw (tw (A k)))) w' (h.one 3 rfl))) trivial))
   intro J w48 l hM hl
   have H48 := zO H47 hM.below
   clear hM hl l H47 J
   refine zF (l := [3]) rfl ?_
   refine sL 1 [e0 ((tw (tw (tw (tw (A k))))).1), e1 ((tw (tw (tw (tw (A k))))).1), e0 ((tw (tw (tw (tw (A k))))).2.1), e1 ((tw (tw (tw (tw (A k))))).2.1), e0 ((tw (tw (tw (tw (A k))))).2.2), e1 ((tw (tw (tw (tw (A k))))).2.2)] [_, _, _, _, _, _] H48 o1_1 As129 fun w49 H49 => ?_
   clear H48
   refine zE (zI (zA ?_))
   refine zB 1 [.q (.int .i64 4)] (sB H49) ?ho40 ?he40
   case ho40 => exact av trivial
   intro J w50 l hM hl
   have H50 := zO H49 hM.below
   clear hM hl l H49 J
   refine zF (l := [1]) rfl ?_
   refine zG (d := 14) rfl rfl rfl rfl ?_
   simp only [Act.put, sa, sz, ss]
   refine zE (zA ?_)
   refine zM (n := 0) ?_
   refine wp_seq ?_
   refine zB 1 [.q (.bool false)] (sB H50) ?ho41 ?he41
   case ho41 => exact ag trivial
   intro J w51 l hM hl
   have H51 := zO H50 hM.below
   clear hM hl l H50 J
   refine rN (wp_seq (wp_cond_false rfl ?_))
   refine wp_exit ?_
   repeat refine zY ?_
   refine zU ?_
   refine zA (wp_seq ?_)
   refine zB 3 [.q (.slice (some ⟨gr, 0, none⟩) 1 1), .q (.int .i64 1), .q (.int .i64 0)] (sB H51) ?ho42 ?he42
   case ho42 => exact ar (ag (ar trivial))
   intro J w52 l hM hl
   have H52 := zO H51 hM.below
   clear hM hl l H51 J
   refine rN (wp_block ?_)
   refine wp_loop_rounds 2 ?_
   refine zM (n := 1) ?_
   refine wp_seq ?_
   refine zB 1 [.q (.bool true)] (sB H52) ?ho43 ?he43
   case ho43 => exact ag trivial
   intro J w53 l hM hl
   have H53 := zO H52 hM.below
   clear hM hl l H52 J
   refine rN (wp_seq ?_)
   refine wp_cond_true rfl (wp_skip ?_)
   refine zA (wp_seq ?_)
   refine wp_block (wp_seq ?_)
   refine zB 5 [.q (.int .i64 0), .q (PT gr 0), .q (.int .u64 (wo k)), .q (.int .i64 0), .q (.int .u64 (wo k))] (sB H53) ?ho44 ?he44
   case ho44 => exact ar (ag (bC 5 Ai22 (ar (ar trivial))))
   intro J w54 l hM hl
   have H54 := zO H53 hM.below
   clear hM hl l H53 J
   refine rN (wp_seq (wp_seq ?_))
   refine zB 3 [.q (.int .u64 (wo k)), .q (.int .u64 ((dg k : Nat) : Int)), .q (.int .u64 ((dg k : Nat) : Int))] (sB H54) ?ho45 ?he45
   case ho45 => exact ar (ak (fun J => ⟨rfl, fun w' _ => by rw [← HD.out k]; exact ex_shr60 rfl rfl rfl⟩) (ar trivial))
   intro J w55 l hM hl
   have H55 := zO H54 hM.below
   clear hM hl l H54 J
   refine rN (wp_seq ?_)
   refine zB 2 [.q (.int .u64 ((dg k : Nat) : Int)), .q (.bool true)] (sB H55) ?ho46 ?he46
   case ho46 => exact ar (ak (by refine fun J => ⟨rfl, fun w' h => ?_⟩; clear h; go_simp <;> omega) trivial)
   intro J w56 l hM hl
   have H56 := zO H55 hM.below
   clear hM hl l H55 J
   refine rN (wp_cond_true rfl ?_)
   refine zQ 9 [.q (.agg (G2 tn (e0 u) (e1 u) (e0 b) (e1 b)).toArray), .q (V [e0 ((tw (tw (tw (tw (A k))))).1), e1 ((tw (tw (tw (tw (A k))))).1), e0 ((tw (tw (tw (tw (A k))))).2.1), e1 ((tw (tw (tw (tw (A k))))).2.1), e0 ((tw (tw (tw (tw (A k))))).2.2), e1 ((tw (tw (tw (tw (A k))))).2.2)]), .q (.slice (some ⟨gt, 0, none⟩) 1 1), .q (.int .i64 0), .q (.int .u64 ((dg k : Nat) : Int)), .q (PT gt 0), .q (PT gt (6 * (6 * (dg k)))), .q (V [f (6 * dg k), f (6 * dg k + 1), f (6 * dg k + 2), f (6 * dg k + 3), f (6 * dg k + 4), f (6 * dg k + 5)]), .call (V [e0 ((tg (tw (tw (tw (tw (A k))))) (dg k)).1), e1 ((tg (tw (tw (tw (tw (A k))))) (dg k)).1), e0 ((tg (tw (tw (tw (tw (A k))))) (dg k)).2.1), e1 ((tg (tw (tw (tw (tw (A k))))) (dg k)).2.1), e0 ((tg (tw (tw (tw (tw (A k))))) (dg k)).2.2), e1 ((tg (tw (tw (tw (tw (A k))))) (dg k)).2.2)])] (sB H56) ?ho47 ?he47
   case ho47 => exact bT 0 Ai93 As93 (bA 0 6 1 Ai129 As129 (ar (ar (ar (ag (ak (fun J => ⟨rfl, fun w' _ => ex_idxTB2 rfl rfl rfl (HDL.out _)⟩) (aq (fun w' h => ex_loadA (i := 6 * (dg k)) (k := 6) h 4 rfl rfl rfl Ai129 As129 (tb2_ld f (HDL.out k)) rfl) (ac (fun w' h => eC call100 (CTG.out (tw (tw (tw (tw (A k))))) _ (HDL.out k) w' (h.one 3 rfl))) trivial))))))))
   intro J w57 l hM hl
   have H57 := zO H56 hM.below
   clear hM hl l H56 J
   refine zF (l := [9]) rfl ?_
   refine sL 1 [e0 ((tg (tw (tw (tw (tw (A k))))) (dg k)).1), e1 ((tg (tw (tw (tw (tw (A k))))) (dg k)).1), e0 ((tg (tw (tw (tw (tw (A k))))) (dg k)).2.1), e1 ((tg (tw (tw (tw (tw (A k))))) (dg k)).2.1), e0 ((tg (tw (tw (tw (tw (A k))))) (dg k)).2.2), e1 ((tg (tw (tw (tw (tw (A k))))) (dg k)).2.2)] [_, _, _, _, _, _] H57 o1_1 As129 fun w58 H58 => ?_
   clear H57
   refine zE (zA ?_)
   refine zB 5 [.q (.slice (some ⟨gr, 0, none⟩) 1 1), .q (.int .i64 0), .q (.int .u64 (wo k)), .q (.int .u64 (IntKind.u64.wrap (wo k * 2 ^ 4))), .q (PT gr 0)] (sB H58) ?ho48 ?he48
   case ho48 => exact ar (ar (ar (ak (fun J => ⟨rfl, fun w' _ => ex_shl4 rfl rfl rfl⟩) (ag trivial))))
   intro J w59 l hM hl
   have H59 := zO H58 hM.below
   clear hM hl l H58 J
   refine zF (l := [5]) rfl ?_
   refine sH rfl (fun h => ex_storeI h 5 rfl rfl As22 rfl rfl (Nat.le_of_ble_eq_true rfl)) 5 [_, _, _, _, _, (_, [Value.int .u64 (IntKind.u64.wrap (wo k * 2 ^ 4))])] H59 (Or.inl rfl) fun w60 H60 => ?_
   clear H59
   refine zE (zI (zA ?_))
   refine zB 1 [.q (.int .i64 1)] (sB H60) ?ho49 ?he49
   case ho49 => exact av trivial
   intro J w61 l hM hl
   have H61 := zO H60 hM.below
   clear hM hl l H60 J
   refine zF (l := [1]) rfl ?_
   refine zG (d := 22) rfl rfl rfl rfl ?_
   simp only [Act.put, sa, sz, ss]
   refine zE (zA ?_)
   refine zM (n := 0) ?_
   refine wp_seq ?_
   refine zB 1 [.q (.bool false)] (sB H61) ?ho50 ?he50
   case ho50 => exact ag trivial
   intro J w62 l hM hl
   have H62 := zO H61 hM.below
   clear hM hl l H61 J
   refine rN (wp_seq (wp_cond_false rfl ?_))
   refine wp_exit ?_
   repeat refine zY ?_
   refine zU ?_
   refine zI (zA ?_)
   refine zB 1 [.q (.int .i64 ((k + 1 : Nat) : Int))] (sB H62) ?ho51 ?he51
   case ho51 => exact ak (by refine fun J => ⟨rfl, fun w' h => ?_⟩; clear h; go_simp; rw [IntKind.wrap_i64]; omega) trivial
   intro J w63 l hM hl
   have H63 := zO H62 hM.below
   clear hM hl l H62 J
   refine zF (l := [1]) rfl ?_
   refine zG (d := 12) rfl rfl rfl rfl ?_
   simp only [Act.put, sa, sz, ss]
   refine zE (zA ?_)
   exact ⟨k + 1, ⟨(slotfn [ud, ud, ud, ud, ud, ud, ud, ud, ud, .int .i64 0, .int .u64 (wo k), .int .u64 ((dg k : Nat) : Int), ud, .bool true, .int .i64 4, .bool false, .agg (G2 tn (e0 u) (e1 u) (e0 b) (e1 b)).toArray, V [e0 ((tw (tw (tw (A k)))).1), e1 ((tw (tw (tw (A k)))).1), e0 ((tw (tw (tw (A k)))).2.1), e1 ((tw (tw (tw (A k)))).2.1), e0 ((tw (tw (tw (A k)))).2.2), e1 ((tw (tw (tw (A k)))).2.2)], V [e0 ((tw (tw (tw (tw (A k))))).1), e1 ((tw (tw (tw (tw (A k))))).1), e0 ((tw (tw (tw (tw (A k))))).2.1), e1 ((tw (tw (tw (tw (A k))))).2.1), e0 ((tw (tw (tw (tw (A k))))).2.2), e1 ((tw (tw (tw (tw (A k))))).2.2)], .int .i64 4, .slice (some ⟨gr, 0, none⟩) 1 1, .int .i64 1, .int .i64 1, .bool false, .int .i64 0, PT gr 0, .int .u64 (wo k), .int .u64 (wo k), .int .u64 ((dg k : Nat) : Int), .int .u64 ((dg k : Nat) : Int), .bool true, .agg (G2 tn (e0 u) (e1 u) (e0 b) (e1 b)).toArray, V [e0 ((tw (tw (tw (tw (A k))))).1), e1 ((tw (tw (tw (tw (A k))))).1), e0 ((tw (tw (tw (tw (A k))))).2.1), e1 ((tw (tw (tw (tw (A k))))).2.1), e0 ((tw (tw (tw (tw (A k))))).2.2), e1 ((tw (tw (tw (tw (A k))))).2.2)], .slice (some ⟨gt, 0, none⟩) 1 1, .int .i64 0, .int .u64 ((dg k : Nat) : Int), PT gt 0, PT gt (6 * (6 * (dg k))), V [f (6 * dg k), f (6 * dg k + 1), f (6 * dg k + 2), f (6 * dg k + 3), f (6 * dg k + 4), f (6 * dg k + 5)], V [e0 ((tg (tw (tw (tw (tw (A k))))) (dg k)).1), e1 ((tg (tw (tw (tw (tw (A k))))) (dg k)).1), e0 ((tg (tw (tw (tw (tw (A k))))) (dg k)).2.1), e1 ((tg (tw (tw (tw (tw (A k))))) (dg k)).2.1), e0 ((tg (tw (tw (tw (tw (A k))))) (dg k)).2.2), e1 ((tg (tw (tw (tw (tw (A k))))) (dg k)).2.2)], .slice (some ⟨gr, 0, none⟩) 1 1, .int .i64 0, .int .u64 (wo k), .int .u64 (IntKind.u64.wrap (wo k * 2 ^ 4)), PT gr 0, .int .i64 1, .int .i64 ((k + 1 : Nat) : Int)]), rfl, ⟨(H63.out.1).atk (by rw [HA1.out k hdz, HW.out]), H63.out.2⟩, by omega⟩, by omega⟩
 have hk16 : k = 16 := by omega
 subst hk16
 refine wp_seq ?_
 refine zB 1 [.q (.bool false)] (sB H3) ?ho52 ?he52
 case ho52 => exact ak (by refine fun J => ⟨rfl, fun w' h => ?_⟩; clear h; go_simp <;> omega) trivial
 intro J w64 l hM hl
 have H64 := zO H3 hM.below
 clear hM hl l H3 J
 refine rN (wp_seq (wp_cond_false rfl ?_))
 refine wp_exit ?_
 repeat refine zY ?_
 refine zU ?_
 refine zA (wp_seq ?_)
 refine zB 1 [.q (V [e0 ((A 16).1), e1 ((A 16).1), e0 ((A 16).2.1), e1 ((A 16).2.1), e0 ((A 16).2.2), e1 ((A 16).2.2)])] (sB H64) ?ho53 ?he53
 case ho53 => exact bA 0 6 1 Ai129 As129 trivial
 intro J w65 l hM hl
 have H65 := zO H64 hM.below
 clear hM hl l H64 J
 refine zF (l := [1]) rfl ?_
 refine sL 2 [e0 ((A 16).1), e1 ((A 16).1), e0 ((A 16).2.1), e1 ((A 16).2.1), e0 ((A 16).2.2), e1 ((A 16).2.2)] [_, _, _, _, _, _] H65 o1_2 As129 fun w66 H66 => ?_
 clear H65
 refine zE (zA (wp_ret ?_))
 repeat (first | refine zK ?_ | refine zH ?_)
 have hf0 := cel_var (k := 6) H66.out.1 2 rfl Ai129 As129 rfl
 refine bodyPost_ret (v := V [e0 ((A 16).1), e1 ((A 16).1), e0 ((A 16).2.1), e1 ((A 16).2.1), e0 ((A 16).2.2), e1 ((A 16).2.2)]) (by simp [results, Tryz.results129, asAddr, hf0]) rfl ?_
 exact ⟨rfl, H66.out.1.one 5 rfl, H66.out.2⟩
set_option maxHeartbeats 8000000 in
theorem some_2 {α : Type} {e0 e1 : α → Nat} {fa fs fm : α → α → α} {fi : α → α} {z u b : α} {tn : Value} (_C : Fd2 e0 e1 fa fs fm fi z) (f : Nat → Nat) (S : Nat → EC.Tri α) (x0 x1 y0 y1 nn gp gn : Nat) (zb : Bool) (cz : ∀ w, Mm w [(2, dtab)] → Calls Tryz.prog 99 #[.agg (G2 tn (e0 u) (e1 u) (e0 b) (e1 b)).toArray] w (Rt w (V [e0 ((S 0).1), e1 ((S 0).1), e0 ((S 0).2.1), e1 ((S 0).2.1), e0 ((S 0).2.2), e1 ((S 0).2.2)]))) (ct : ∀ w, Mm w [(2, dtab)] → Calls Tryz.prog 128 #[.agg (G2 tn (e0 u) (e1 u) (e0 b) (e1 b)).toArray, .agg (pc2 x0 x1 y0 y1 zb).toArray] w (Rt w (V (tb2 f)))) (cr : ∀ r, r < 6 → ∀ gt gr w, Mm w [(2, dtab), (gt, cel (tb2 f)), (gr, [Value.int .u64 (wd nn (5 - r))])] → Calls Tryz.prog 129 #[.agg (G2 tn (e0 u) (e1 u) (e0 b) (e1 b)).toArray, V [e0 ((S r).1), e1 ((S r).1), e0 ((S r).2.1), e1 ((S r).2.1), e0 ((S r).2.2), e1 ((S r).2.2)], .slice (some ⟨gt, 0, none⟩) 1 1, .slice (some ⟨gr, 0, none⟩) 1 1] w fun e w' => e = .returned (V [e0 ((S (r + 1)).1), e1 ((S (r + 1)).1), e0 ((S (r + 1)).2.1), e1 ((S (r + 1)).2.1), e0 ((S (r + 1)).2.2), e1 ((S (r + 1)).2.2)]) ∧ Mm w' [(gr, [Value.int .u64 0])] ∧ Kp gr w w') (w : World) (hm : Mm w [(2, dtab), (gp, pc2 x0 x1 y0 y1 zb), (gn, zD nn)]) :
  Calls Tryz.prog 101 #[.agg (G2 tn (e0 u) (e1 u) (e0 b) (e1 b)).toArray, .slice (some ⟨gp, 0, none⟩) 1 1, .slice (some ⟨gn, 0, none⟩) 1 1] w (Rt w (V [e0 ((S 6).1), e1 ((S 6).1), e0 ((S 6).2.1), e1 ((S 6).2.1), e0 ((S 6).2.2), e1 ((S 6).2.2)])) := by
 have H0 : Hid (_ ∧ _) := ⟨hm, Below.refl w.heap.size w⟩
 clear hm
 have CZ : Hid _ := cz
 clear cz
 have CT : Hid _ := ct
 clear ct
 have CR : Hid _ := cr
 clear cr
 go_enter Tryz.func101, Tryz.ntmps101
 refine wp_seq ?_
 refine zB 2 [.made (G2 tn (e0 u) (e1 u) (e0 b) (e1 b)) 93, .made (cel [0, 0, 0, 0, 0, 0]) 129] (sB H0) ?ho1 ?he1
 case ho1 => exact am (zS rfl rfl) (am (ex_madeTE rfl) trivial)
 intro J w1 l hM hl
 have H1 : Hid (Mm w1 ([(J 0, G2 tn (e0 u) (e1 u) (e0 b) (e1 b)), (J 1, cel [0, 0, 0, 0, 0, 0])] ++ _) ∧ _) := wB H0 hM hl [0, 1]
 have o1_0 := vB H0 hM hl 0
 have o1_1 := vB H0 hM hl 1
 clear hM hl l
 generalize J 0 = J1_0 at H1 o1_0 ⊢
 generalize J 1 = J1_1 at H1 o1_1 ⊢
 clear J
 refine rN (wp_seq ?_)
 refine zC 2 [.q (.slice (some ⟨gp, 0, none⟩) 1 1), .q (.int .i64 1)] H1 ?ho2 ?he2
 case ho2 => exact ar (ag trivial)
 intro _ w2 H2
 clear H1
 refine zF (l := [2, 3]) rfl ?_
 refine zG (d := 16) (v := .slice (some ⟨w2.heap.size, 0, none⟩) 1 1) (w' := w2.alloc (.cells (cel [0, 0, 0, 0, 0, 0, 0, 0, 0, 0, 0, 0, 0, 0, 0, 0, 0, 0, 0, 0, 0, 0, 0, 0, 0, 0, 0, 0, 0, 0, 0, 0, 0, 0, 0, 0, 0, 0, 0, 0, 0, 0, 0, 0, 0, 0, 0, 0, 0, 0, 0, 0, 0, 0, 0, 0, 0, 0, 0, 0, 0, 0, 0, 0, 0, 0, 0, 0, 0, 0, 0, 0, 0, 0, 0, 0, 0, 0, 0, 0, 0, 0, 0, 0, 0, 0, 0, 0, 0, 0, 0, 0, 0, 0, 0, 0] : List Value).toArray 171)) rfl rfl rfl (ex_mkTE rfl rfl rfl) ?_
 simp only [Act.put, sa, sz, ss]
 have o_Js3 : Hid (w.heap.size ≤ w2.heap.size) := H2.out.2.size
 have H3 : Hid (Mm (w2.alloc (.cells (cel [0, 0, 0, 0, 0, 0, 0, 0, 0, 0, 0, 0, 0, 0, 0, 0, 0, 0, 0, 0, 0, 0, 0, 0, 0, 0, 0, 0, 0, 0, 0, 0, 0, 0, 0, 0, 0, 0, 0, 0, 0, 0, 0, 0, 0, 0, 0, 0, 0, 0, 0, 0, 0, 0, 0, 0, 0, 0, 0, 0, 0, 0, 0, 0, 0, 0, 0, 0, 0, 0, 0, 0, 0, 0, 0, 0, 0, 0, 0, 0, 0, 0, 0, 0, 0, 0, 0, 0, 0, 0, 0, 0, 0, 0, 0, 0] : List Value).toArray 171)) ((w2.heap.size, cel [0, 0, 0, 0, 0, 0, 0, 0, 0, 0, 0, 0, 0, 0, 0, 0, 0, 0, 0, 0, 0, 0, 0, 0, 0, 0, 0, 0, 0, 0, 0, 0, 0, 0, 0, 0, 0, 0, 0, 0, 0, 0, 0, 0, 0, 0, 0, 0, 0, 0, 0, 0, 0, 0, 0, 0, 0, 0, 0, 0, 0, 0, 0, 0, 0, 0, 0, 0, 0, 0, 0, 0, 0, 0, 0, 0, 0, 0, 0, 0, 0, 0, 0, 0, 0, 0, 0, 0, 0, 0, 0, 0, 0, 0, 0, 0]) :: [(J1_0, G2 tn (e0 u) (e1 u) (e0 b) (e1 b)), (J1_1, cel [0, 0, 0, 0, 0, 0]), (2, dtab), (gp, pc2 x0 x1 y0 y1 zb), (gn, zD nn)]) ∧ Below w.heap.size w (w2.alloc (.cells (cel [0, 0, 0, 0, 0, 0, 0, 0, 0, 0, 0, 0, 0, 0, 0, 0, 0, 0, 0, 0, 0, 0, 0, 0, 0, 0, 0, 0, 0, 0, 0, 0, 0, 0, 0, 0, 0, 0, 0, 0, 0, 0, 0, 0, 0, 0, 0, 0, 0, 0, 0, 0, 0, 0, 0, 0, 0, 0, 0, 0, 0, 0, 0, 0, 0, 0, 0, 0, 0, 0, 0, 0, 0, 0, 0, 0, 0, 0, 0, 0, 0, 0, 0, 0, 0, 0, 0, 0, 0, 0, 0, 0, 0, 0, 0, 0] : List Value).toArray 171))) := ⟨H2.out.1.alloc _ 171 rfl, H2.out.2.alloc H2.out.2.size _⟩
 clear H2
 generalize hgw : w2.alloc (.cells (cel [0, 0, 0, 0, 0, 0, 0, 0, 0, 0, 0, 0, 0, 0, 0, 0, 0, 0, 0, 0, 0, 0, 0, 0, 0, 0, 0, 0, 0, 0, 0, 0, 0, 0, 0, 0, 0, 0, 0, 0, 0, 0, 0, 0, 0, 0, 0, 0, 0, 0, 0, 0, 0, 0, 0, 0, 0, 0, 0, 0, 0, 0, 0, 0, 0, 0, 0, 0, 0, 0, 0, 0, 0, 0, 0, 0, 0, 0, 0, 0, 0, 0, 0, 0, 0, 0, 0, 0, 0, 0, 0, 0, 0, 0, 0, 0] : List Value).toArray 171) = w3 at H3 ⊢
 clear hgw
 generalize w2.heap.size = Js3 at o_Js3 H3 ⊢
 refine zG (d := 7) rfl rfl rfl rfl ?_
 simp only [Act.put, sa, sz, ss]
 refine zE (zA ?_)
 refine wp_seq (wp_seq ?_)
 refine zC 3 [.q (.slice (some ⟨gp, 0, none⟩) 1 1), .q (.int .i64 1), .q (.int .i64 0)] H3 ?ho3 ?he3
 case ho3 => exact ar (ag (ar trivial))
 intro _ w4 H4
 clear H3
 refine rN (wp_block ?_)
 refine wp_loop_rounds 2 ?_
 refine zM (n := 1) ?_
 refine wp_seq ?_
 refine zC 1 [.q (.bool true)] H4 ?ho4 ?he4
 case ho4 => exact ag trivial
 intro _ w5 H5
 clear H4
 refine rN (wp_seq ?_)
 refine wp_cond_true rfl (wp_skip ?_)
 refine zA (wp_seq ?_)
 refine wp_block (wp_seq ?_)
 refine zB 6 [.q (.int .i64 0), .q (PT gp 0), .q (.agg (pc2 x0 x1 y0 y1 zb).toArray), .made (pc2 0 0 0 0 false) 96, .q (.int .i64 0), .laid 3 (pc2 0 0 0 0 false) (pc2 x0 x1 y0 y1 zb)] (sB H5) ?ho5 ?he5 (hL := ?hL5)
 case hL5 => exact ⟨⟨_, rfl⟩, trivial⟩
 case ho5 => exact ar (ag (bT 4 Ai96 As96 (am (ex_madePE rfl) (ar (ak (fun J => ⟨rfl, rfl, rfl, fun w' h => ex_laidT h rfl rfl As96 rfl rfl rfl⟩) trivial)))))
 intro J w6 l hM hl
 have H6 : Hid (Mm w6 ([(J 3, pc2 x0 x1 y0 y1 zb)] ++ _) ∧ _) := wB H5 hM hl [3]
 have o5_3 := vB H5 hM hl 3
 clear hM hl l H5
 generalize J 3 = J5_3 at H6 o5_3 ⊢
 clear J
 refine rN ?_
 refine zC 6 [.q (.slice (some ⟨Js3, 0, none⟩) 1 1), .q (.int .i64 0), .q (.agg (G2 tn (e0 u) (e1 u) (e0 b) (e1 b)).toArray), .q (.agg (pc2 x0 x1 y0 y1 zb).toArray), .call (V (tb2 f)), .q (PT Js3 0)] H6 ?ho6 ?he6
 case ho6 => exact ar (ar (bT 2 Ai93 As93 (bT 0 Ai96 As96 (ac (fun w' h => eC call128 (CT.out w' (h.one 4 rfl))) (ag trivial)))))
 intro _ w7 H7
 clear H6
 refine zF (l := [6]) rfl ?_
 refine sA 1 0 [f 0, f 1, f 2, f 3, f 4, f 5, f 6, f 7, f 8, f 9, f 10, f 11, f 12, f 13, f 14, f 15, f 16, f 17, f 18, f 19, f 20, f 21, f 22, f 23, f 24, f 25, f 26, f 27, f 28, f 29, f 30, f 31, f 32, f 33, f 34, f 35, f 36, f 37, f 38, f 39, f 40, f 41, f 42, f 43, f 44, f 45, f 46, f 47, f 48, f 49, f 50, f 51, f 52, f 53, f 54, f 55, f 56, f 57, f 58, f 59, f 60, f 61, f 62, f 63, f 64, f 65, f 66, f 67, f 68, f 69, f 70, f 71, f 72, f 73, f 74, f 75, f 76, f 77, f 78, f 79, f 80, f 81, f 82, f 83, f 84, f 85, f 86, f 87, f 88, f 89, f 90, f 91, f 92, f 93, f 94, f 95] [_, (_, cel (tb2 f)), _, _, _, _, _] H7 o_Js3 As171 fun w8 H8 => ?_
 clear H7
 refine zE (zI (zA ?_))
 refine zC 1 [.q (.int .i64 1)] H8 ?ho7 ?he7
 case ho7 => exact av trivial
 intro _ w9 H9
 clear H8
 refine zF (l := [1]) rfl ?_
 refine zG (d := 19) rfl rfl rfl rfl ?_
 simp only [Act.put, sa, sz, ss]
 refine zE (zA ?_)
 refine zM (n := 0) ?_
 refine wp_seq ?_
 refine zC 1 [.q (.bool false)] H9 ?ho8 ?he8
 case ho8 => exact ag trivial
 intro _ w10 H10
 clear H9
 refine rN (wp_seq (wp_cond_false rfl ?_))
 refine wp_exit ?_
 repeat refine zY ?_
 refine zU ?_
 refine zA (wp_seq ?_)
 refine zB 4 [.q (.agg (G2 tn (e0 u) (e1 u) (e0 b) (e1 b)).toArray), .call (V [e0 ((S 0).1), e1 ((S 0).1), e0 ((S 0).2.1), e1 ((S 0).2.1), e0 ((S 0).2.2), e1 ((S 0).2.2)]), .made (cel [0, 0, 0, 0, 0, 0]) 129, .laid 2 (cel [0, 0, 0, 0, 0, 0]) (cel [e0 ((S 0).1), e1 ((S 0).1), e0 ((S 0).2.1), e1 ((S 0).2.1), e0 ((S 0).2.2), e1 ((S 0).2.2)])] (sB H10) ?ho9 ?he9 (hL := ?hL9)
 case hL9 => exact ⟨⟨_, rfl⟩, trivial⟩
 case ho9 => exact bT 2 Ai93 As93 (ac (fun w' h => eC call99 (CZ.out w' (h.one 4 rfl))) (am (ex_madeTE rfl) (ak (fun J => ⟨rfl, rfl, rfl, fun w' h => ex_laidA h rfl As129 rfl rfl rfl⟩) trivial)))
 intro J w11 l hM hl
 have H11 : Hid (Mm w11 ([(J 2, cel [e0 ((S 0).1), e1 ((S 0).1), e0 ((S 0).2.1), e1 ((S 0).2.1), e0 ((S 0).2.2), e1 ((S 0).2.2)])] ++ _) ∧ _) := wB H10 hM hl [2]
 have o9_2 := vB H10 hM hl 2
 clear hM hl l H10
 generalize J 2 = J9_2 at H11 o9_2 ⊢
 clear J
 refine rN (wp_seq ?_)
 refine zC 2 [.q (.slice (some ⟨gn, 0, none⟩) 1 1), .q (.int .i64 1)] H11 ?ho10 ?he10
 case ho10 => exact ar (ag trivial)
 intro _ w12 H12
 clear H11
 refine zF (l := [2, 3]) rfl ?_
 refine zG (d := 35) (v := .slice (some ⟨w12.heap.size, 0, none⟩) 1 1) (w' := w12.alloc (.cells ([Value.int .u64 0] : List Value).toArray 22)) rfl rfl rfl (ex_mkU rfl rfl rfl) ?_
 simp only [Act.put, sa, sz, ss]
 have o_Js13 : Hid (w.heap.size ≤ w12.heap.size) := H12.out.2.size
 have H13 : Hid (Mm (w12.alloc (.cells ([Value.int .u64 0] : List Value).toArray 22)) ((w12.heap.size, [Value.int .u64 0]) :: [(J9_2, cel [e0 ((S 0).1), e1 ((S 0).1), e0 ((S 0).2.1), e1 ((S 0).2.1), e0 ((S 0).2.2), e1 ((S 0).2.2)]), (J5_3, pc2 x0 x1 y0 y1 zb), (Js3, cel (tb2 f)), (J1_0, G2 tn (e0 u) (e1 u) (e0 b) (e1 b)), (J1_1, cel [0, 0, 0, 0, 0, 0]), (2, dtab), (gp, pc2 x0 x1 y0 y1 zb), (gn, zD nn)]) ∧ Below w.heap.size w (w12.alloc (.cells ([Value.int .u64 0] : List Value).toArray 22))) := ⟨H12.out.1.alloc _ 22 rfl, H12.out.2.alloc H12.out.2.size _⟩
 clear H12
 generalize hgw : w12.alloc (.cells ([Value.int .u64 0] : List Value).toArray 22) = w13 at H13 ⊢
 clear hgw
 generalize w12.heap.size = Js13 at o_Js13 H13 ⊢
 refine zG (d := 11) rfl rfl rfl rfl ?_
 simp only [Act.put, sa, sz, ss]
 refine zE (zA ?_)
 refine wp_seq (wp_seq ?_)
 refine zC 1 [.q (.int .i64 5)] H13 ?ho11 ?he11
 case ho11 => exact ar trivial
 intro _ w14 H14
 clear H13
 refine rN (wp_block ?_)
 refine loop_ghost (α := Nat) (fun r a' w' => ∃ s2 : Nat → Value, a' = ⟨#[.agg (G2 tn (e0 u) (e1 u) (e0 b) (e1 b)).toArray, .slice (some ⟨gp, 0, none⟩) 1 1, .slice (some ⟨gn, 0, none⟩) 1 1, PT J1_0 0, ud, ud, PT J1_1 0, .slice (some ⟨Js3, 0, none⟩) 1 1, .int .i64 0, PT J5_3 0, PT J9_2 0, .slice (some ⟨Js13, 0, none⟩) 1 1, .int .i64 (5 - ((r : Nat) : Int)), s2 13, .slice (some ⟨gp, 0, none⟩) 1 1, .int .i64 1, .slice (some ⟨Js3, 0, none⟩) 1 1, .slice (some ⟨gp, 0, none⟩) 1 1, .int .i64 1, .int .i64 1, .bool false, .int .i64 0, PT gp 0, .agg (pc2 x0 x1 y0 y1 zb).toArray, .slice (some ⟨Js3, 0, none⟩) 1 1, .int .i64 0, .agg (G2 tn (e0 u) (e1 u) (e0 b) (e1 b)).toArray, .agg (pc2 x0 x1 y0 y1 zb).toArray, V (tb2 f), PT Js3 0, .int .i64 1, .agg (G2 tn (e0 u) (e1 u) (e0 b) (e1 b)).toArray, V [e0 ((S 0).1), e1 ((S 0).1), e0 ((S 0).2.1), e1 ((S 0).2.1), e0 ((S 0).2.2), e1 ((S 0).2.2)], .slice (some ⟨gn, 0, none⟩) 1 1, .int .i64 1, .slice (some ⟨Js13, 0, none⟩) 1 1, s2 36, s2 37, s2 38, s2 39, s2 40, s2 41, s2 42, s2 43, s2 44, s2 45, s2 46, s2 47, s2 48, s2 49, s2 50, s2 51, s2 52, s2 53, s2 54, s2 55, s2 56, s2 57, s2 58, s2 59, ud], []⟩ ∧ (Mm w' [(Js13, [Value.int .u64 0]), (J9_2, cel [e0 ((S r).1), e1 ((S r).1), e0 ((S r).2.1), e1 ((S r).2.1), e0 ((S r).2.2), e1 ((S r).2.2)]), (J5_3, pc2 x0 x1 y0 y1 zb), (Js3, cel (tb2 f)), (J1_0, G2 tn (e0 u) (e1 u) (e0 b) (e1 b)), (J1_1, cel [0, 0, 0, 0, 0, 0]), (2, dtab), (gp, pc2 x0 x1 y0 y1 zb), (gn, zD nn)] ∧ Below w.heap.size w w') ∧ r ≤ 6) (fun r => 6 - r) 0 ?st2 ?rd2
 case st2 => exact ⟨(slotfn [ud, ud, ud, ud, ud, ud, ud, ud, ud, ud, ud, ud, ud, ud, ud, ud, ud, ud, ud, ud, ud, ud, ud, ud, ud, ud, ud, ud, ud, ud, ud, ud, ud, ud, ud, ud, ud, ud, ud, ud, ud, ud, ud, ud, ud, ud, ud, ud, ud, ud, ud, ud, ud, ud, ud, ud, ud, ud, ud, ud]), rfl, ⟨H14.out.1, H14.out.2⟩, by omega⟩
 intro r a' w15 hI
 obtain ⟨s2, rfl, hMB, hk2⟩ := hI
 have H15 : Hid (_ ∧ _) := hMB
 clear hMB H14
 by_cases hlt : r < 6
 ·have hrd : True := trivial
  clear hrd
  have he5 : (5 : Int) - ((r : Nat) : Int) = ((5 - r : Nat) : Int) := by omega
  rw [he5]
  clear he5
  refine wp_seq (wp_seq ?_)
  refine zC 2 [.q (.int .i64 ((5 - r : Nat) : Int)), .q (.bool true)] H15 ?ho12 ?he12
  case ho12 => exact ar (ak (by refine fun J => ⟨rfl, fun w' h => ?_⟩; clear h; go_simp <;> omega) trivial)
  intro _ w16 H16
  clear H15
  refine rN (wp_cond_true rfl ?_)
  refine wp_skip (zA ?_)
  refine wp_seq (wp_block ?_)
  refine wp_seq (wp_seq ?_)
  refine zC 3 [.q (.slice (some ⟨gn, 0, none⟩) 1 1), .q (.int .i64 1), .q (.int .i64 0)] H16 ?ho13 ?he13
  case ho13 => exact ar (ag (ar trivial))
  intro _ w17 H17
  clear H16
  refine rN (wp_block ?_)
  refine wp_loop_rounds 2 ?_
  refine zM (n := 1) ?_
  refine wp_seq ?_
  refine zC 1 [.q (.bool true)] H17 ?ho14 ?he14
  case ho14 => exact ag trivial
  intro _ w18 H18
  clear H17
  refine rN (wp_seq ?_)
  refine wp_cond_true rfl (wp_skip ?_)
  refine zA (wp_seq ?_)
  refine wp_block (wp_seq ?_)
  refine zC 2 [.q (.int .i64 0), .q (.int .i64 0)] H18 ?ho15 ?he15
  case ho15 => exact ar (ar trivial)
  intro _ w19 H19
  clear H18
  refine rN ?_
  refine zC 9 [.q (.slice (some ⟨Js13, 0, none⟩) 1 1), .q (.int .i64 0), .q (.slice (some ⟨gn, 0, none⟩) 1 1), .q (.int .i64 0), .q (.int .i64 ((5 - r : Nat) : Int)), .q (PT gn 0), .q (PT gn (0 + (5 - r))), .q (.int .u64 (wd nn (5 - r))), .q (PT Js13 0)] H19 ?ho16 ?he16
  case ho16 => exact ar (ar (ar (ar (ar (ag (ak (fun J => ⟨rfl, fun w' _ => yA rfl rfl rfl (by omega)⟩) (aq (fun w' h => ex_load1 h 8 rfl rfl rfl (c6_at nn (by omega))) (ag trivial))))))))
  intro _ w20 H20
  clear H19
  refine zF (l := [9]) rfl ?_
  refine sG rfl (fun h => ex_storeI h 0 rfl rfl As22 rfl rfl (Nat.le_of_ble_eq_true rfl)) 0 [(_, [Value.int .u64 (wd nn (5 - r))]), _, _, _, _, _, _, _, _] H20 o_Js13 fun w21 H21 => ?_
  clear H20
  refine zE (zI (zA ?_))
  refine zC 1 [.q (.int .i64 1)] H21 ?ho17 ?he17
  case ho17 => exact av trivial
  intro _ w22 H22
  clear H21
  refine zF (l := [1]) rfl ?_
  refine zG (d := 42) rfl rfl rfl rfl ?_
  simp only [Act.put, sa, sz, ss]
  refine zE (zA ?_)
  refine zM (n := 0) ?_
  refine wp_seq ?_
  refine zC 1 [.q (.bool false)] H22 ?ho18 ?he18
  case ho18 => exact ag trivial
  intro _ w23 H23
  clear H22
  refine rN (wp_seq (wp_cond_false rfl ?_))
  refine wp_exit ?_
  repeat refine zY ?_
  refine zU ?_
  refine zA ?_
  refine zC 4 [.q (.agg (G2 tn (e0 u) (e1 u) (e0 b) (e1 b)).toArray), .q (V [e0 ((S r).1), e1 ((S r).1), e0 ((S r).2.1), e1 ((S r).2.1), e0 ((S r).2.2), e1 ((S r).2.2)]), .q (.slice (some ⟨Js3, 0, none⟩) 1 1), .q (.slice (some ⟨Js13, 0, none⟩) 1 1)] H23 ?ho19 ?he19
  case ho19 => exact bT 4 Ai93 As93 (bA 0 6 1 Ai129 As129 (ar (ar trivial)))
  intro _ w24 H24
  clear H23
  refine zF (l := [4, 5]) rfl ?_
  refine rest_enter (d := 59) (R := fun vv w' => vv = V [e0 ((S (r + 1)).1), e1 ((S (r + 1)).1), e0 ((S (r + 1)).2.1), e1 ((S (r + 1)).2.1), e0 ((S (r + 1)).2.2), e1 ((S (r + 1)).2.2)] ∧ Mm w' [(Js13, [Value.int .u64 0])] ∧ Kp Js13 w24 w') rfl rfl rfl (exec_call (args := #[.agg (G2 tn (e0 u) (e1 u) (e0 b) (e1 b)).toArray, V [e0 ((S r).1), e1 ((S r).1), e0 ((S r).2.1), e1 ((S r).2.1), e0 ((S r).2.2), e1 ((S r).2.2)], .slice (some ⟨Js3, 0, none⟩) 1 1, .slice (some ⟨Js13, 0, none⟩) 1 1]) rfl call129 rfl (mpn rfl)) (Calls.mono (CR.out r hlt Js3 Js13 w24 (H24.out.1.pick [6, 3, 0] rfl (by decide))) (fun e w2 hh => ⟨_, hh.1, rfl, hh.2⟩)) ?_
  rintro _ w25 ⟨rfl, hn, hp⟩
  have H25 : Hid (Mm w25 [(Js13, [Value.int .u64 0]), (J9_2, cel [e0 ((S r).1), e1 ((S r).1), e0 ((S r).2.1), e1 ((S r).2.1), e0 ((S r).2.2), e1 ((S r).2.2)]), (J5_3, pc2 x0 x1 y0 y1 zb), (Js3, cel (tb2 f)), (J1_0, G2 tn (e0 u) (e1 u) (e0 b) (e1 b)), (J1_1, cel [0, 0, 0, 0, 0, 0]), (2, dtab), (gp, pc2 x0 x1 y0 y1 zb), (gn, zD nn)] ∧ Below w.heap.size w w25) := ⟨H24.out.1.change 0 rfl hp hn, Below.kp H24.out.2 hp o_Js13.out H24.out.2.size⟩
  clear hn hp H24
  simp only [Act.put, sa, sz, ss]
  refine sF 1 [e0 ((S (r + 1)).1), e1 ((S (r + 1)).1), e0 ((S (r + 1)).2.1), e1 ((S (r + 1)).2.1), e0 ((S (r + 1)).2.2), e1 ((S (r + 1)).2.2)] [_, _, _, _, _, _, _, _, _] H25 o9_2 As129 fun w26 H26 => ?_
  clear H25
  refine zE (zI (zA ?_))
  refine zC 2 [.q (.int .i64 ((5 - r : Nat) : Int)), .q (.int .i64 (5 - ((r + 1 : Nat) : Int)))] H26 ?ho20 ?he20
  case ho20 => exact ar (ak (by refine fun J => ⟨rfl, fun w' h => ?_⟩; clear h; go_simp; rw [IntKind.wrap_i64]; omega) trivial)
  intro _ w27 H27
  clear H26
  refine zF (l := [2]) rfl ?_
  refine zG (d := 12) rfl rfl rfl rfl ?_
  simp only [Act.put, sa, sz, ss]
  refine zE (zA ?_)
  exact ⟨r + 1, ⟨(slotfn [ud, ud, ud, ud, ud, ud, ud, ud, ud, ud, ud, ud, ud, .int .i64 0, ud, ud, ud, ud, ud, ud, ud, ud, ud, ud, ud, ud, ud, ud, ud, ud, ud, ud, ud, ud, ud, ud, .int .i64 ((5 - r : Nat) : Int), .bool true, .int .i64 ((5 - r : Nat) : Int), .int .i64 (5 - ((r + 1 : Nat) : Int)), .slice (some ⟨gn, 0, none⟩) 1 1, .int .i64 1, .int .i64 1, .bool false, .int .i64 0, .slice (some ⟨Js13, 0, none⟩) 1 1, .int .i64 0, .slice (some ⟨gn, 0, none⟩) 1 1, .int .i64 0, .int .i64 ((5 - r : Nat) : Int), PT gn 0, PT gn (0 + (5 - r)), .int .u64 (wd nn (5 - r)), PT Js13 0, .int .i64 1, .agg (G2 tn (e0 u) (e1 u) (e0 b) (e1 b)).toArray, V [e0 ((S r).1), e1 ((S r).1), e0 ((S r).2.1), e1 ((S r).2.1), e0 ((S r).2.2), e1 ((S r).2.2)], .slice (some ⟨Js3, 0, none⟩) 1 1, .slice (some ⟨Js13, 0, none⟩) 1 1, V [e0 ((S (r + 1)).1), e1 ((S (r + 1)).1), e0 ((S (r + 1)).2.1), e1 ((S (r + 1)).2.1), e0 ((S (r + 1)).2.2), e1 ((S (r + 1)).2.2)]]), rfl, ⟨H27.out.1, H27.out.2⟩, by omega⟩, by omega⟩
 have hr6 : r = 6 := by omega
 subst hr6
 refine wp_seq (wp_seq ?_)
 refine zC 2 [.q (.int .i64 (5 - ((6 : Nat) : Int))), .q (.bool false)] H15 ?ho21 ?he21
 case ho21 => exact ar (ak (by refine fun J => ⟨rfl, fun w' h => ?_⟩; clear h; go_simp <;> omega) trivial)
 intro _ w28 H28
 clear H15
 refine rN (wp_cond_false rfl ?_)
 refine wp_exit ?_
 repeat refine zY ?_
 refine zU ?_
 refine zA (wp_seq ?_)
 refine zC 1 [.q (V [e0 ((S 6).1), e1 ((S 6).1), e0 ((S 6).2.1), e1 ((S 6).2.1), e0 ((S 6).2.2), e1 ((S 6).2.2)])] H28 ?ho22 ?he22
 case ho22 => exact bA 0 6 1 Ai129 As129 trivial
 intro _ w29 H29
 clear H28
 refine zF (l := [1]) rfl ?_
 refine sF 5 [e0 ((S 6).1), e1 ((S 6).1), e0 ((S 6).2.1), e1 ((S 6).2.1), e0 ((S 6).2.2), e1 ((S 6).2.2)] [_, _, _, _, _, _, _, _, _] H29 o1_1 As129 fun w30 H30 => ?_
 clear H29
 refine zE (zA (wp_ret ?_))
 repeat (first | refine zK ?_ | refine zH ?_)
 have hf0 := cel_var (k := 6) H30.out.1 5 rfl Ai129 As129 rfl
 refine bodyPost_ret (v := V [e0 ((S 6).1), e1 ((S 6).1), e0 ((S 6).2.1), e1 ((S 6).2.1), e0 ((S 6).2.2), e1 ((S 6).2.2)]) (by simp [results, Tryz.results101, asAddr, hf0]) rfl ?_
 exact ⟨rfl, H30.out.2⟩
set_option maxHeartbeats 4000000 in
theorem sumY_2 {α : Type} {e0 e1 : α → Nat} {fa fs fm : α → α → α} {fi : α → α} {z u b : α} {tn : Value} (_C : Fd2 e0 e1 fa fs fm fi z) (O T U : EC.Tri α) (x0 x1 y0 y1 r0 r1 k0 k1 nn gp gn : Nat) (zb zr : Bool) (ck : ∀ w, Mm w [(2, dtab)] → Calls Tryz.prog 57 #[.agg (G2 tn (e0 u) (e1 u) (e0 b) (e1 b)).toArray, .agg (pc2 x0 x1 y0 y1 zb).toArray] w (Rt w (.bool true))) (cz : ∀ w, Mm w [(2, dtab)] → Calls Tryz.prog 99 #[.agg (G2 tn (e0 u) (e1 u) (e0 b) (e1 b)).toArray] w (Rt w (V [e0 O.1, e1 O.1, e0 O.2.1, e1 O.2.1, e0 O.2.2, e1 O.2.2]))) (cs : ∀ w, Mm w [(2, dtab), (gp, pc2 x0 x1 y0 y1 zb), (gn, zD nn)] → Calls Tryz.prog 101 #[.agg (G2 tn (e0 u) (e1 u) (e0 b) (e1 b)).toArray, .slice (some ⟨gp, 0, none⟩) 1 1, .slice (some ⟨gn, 0, none⟩) 1 1] w (Rt w (V [e0 T.1, e1 T.1, e0 T.2.1, e1 T.2.1, e0 T.2.2, e1 T.2.2]))) (ct : ∀ w, Mm w [(2, dtab)] → Calls Tryz.prog 100 #[.agg (G2 tn (e0 u) (e1 u) (e0 b) (e1 b)).toArray, V [e0 O.1, e1 O.1, e0 O.2.1, e1 O.2.1, e0 O.2.2, e1 O.2.2], V [e0 T.1, e1 T.1, e0 T.2.1, e1 T.2.1, e0 T.2.2, e1 T.2.2]] w (Rt w (V [e0 U.1, e1 U.1, e0 U.2.1, e1 U.2.1, e0 U.2.2, e1 U.2.2]))) (cw : ∀ w, Mm w [(2, dtab)] → Calls Tryz.prog 102 #[.agg (G2 tn (e0 u) (e1 u) (e0 b) (e1 b)).toArray, V [e0 U.1, e1 U.1, e0 U.2.1, e1 U.2.1, e0 U.2.2, e1 U.2.2]] w (Rt w (.agg (pc2 r0 r1 k0 k1 zr).toArray))) (w : World) (hm : Mm w [(2, dtab), (gp, pc2 x0 x1 y0 y1 zb), (gn, zD nn)]) :
  Calls Tryz.prog 59 #[.agg (G2 tn (e0 u) (e1 u) (e0 b) (e1 b)).toArray, .slice (some ⟨gp, 0, none⟩) 1 1, .slice (some ⟨gn, 0, none⟩) 1 1] w (Rt w (.tuple #[.agg (pc2 r0 r1 k0 k1 zr).toArray, .int .i64 0])) := by
 have H0 : Hid (_ ∧ _) := ⟨hm, Below.refl w.heap.size w⟩
 clear hm
 have CK : Hid _ := ck
 clear ck
 have CZ : Hid _ := cz
 clear cz
 have CS : Hid _ := cs
 clear cs
 have CT : Hid _ := ct
 clear ct
 have CW : Hid _ := cw
 clear cw
 go_enter Tryz.func59, Tryz.ntmps59
 refine wp_seq ?_
 refine zB 3 [.made (G2 tn (e0 u) (e1 u) (e0 b) (e1 b)) 93, .made (pc2 0 0 0 0 false) 96, .q (.int .i64 0)] (sB H0) ?ho1 ?he1
 case ho1 => exact am (zS rfl rfl) (am (ex_madePE rfl) (ar trivial))
 intro J w1 l hM hl
 have H1 : Hid (Mm w1 ([(J 0, G2 tn (e0 u) (e1 u) (e0 b) (e1 b)), (J 1, pc2 0 0 0 0 false)] ++ _) ∧ _) := wB H0 hM hl [0, 1]
 have o1_0 := vB H0 hM hl 0
 have o1_1 := vB H0 hM hl 1
 clear hM hl l
 generalize J 0 = J1_0 at H1 o1_0 ⊢
 generalize J 1 = J1_1 at H1 o1_1 ⊢
 clear J
 refine rN (wp_seq (wp_seq ?_))
 refine zC 5 [.q (.slice (some ⟨gp, 0, none⟩) 1 1), .q (.int .i64 1), .q (.slice (some ⟨gn, 0, none⟩) 1 1), .q (.int .i64 1), .q (.bool false)] H1 ?ho2 ?he2
 case ho2 => exact ar (ag (ar (ag (ag trivial))))
 intro _ w2 H2
 clear H1
 refine rN (wp_cond_false rfl ?_)
 refine wp_skip (zA ?_)
 refine wp_seq (wp_seq ?_)
 refine zC 3 [.q (.slice (some ⟨gp, 0, none⟩) 1 1), .q (.int .i64 1), .q (.int .i64 0)] H2 ?ho3 ?he3
 case ho3 => exact ar (ag (ar trivial))
 intro _ w3 H3
 clear H2
 refine rN (wp_block ?_)
 refine wp_loop_rounds 2 ?_
 refine zM (n := 1) ?_
 refine wp_seq ?_
 refine zC 1 [.q (.bool true)] H3 ?ho4 ?he4
 case ho4 => exact ag trivial
 intro _ w4 H4
 clear H3
 refine rN (wp_seq ?_)
 refine wp_cond_true rfl (wp_skip ?_)
 refine zA (wp_seq ?_)
 refine wp_block (wp_seq ?_)
 refine zB 4 [.q (PT gp 0), .q (.agg (pc2 x0 x1 y0 y1 zb).toArray), .made (pc2 0 0 0 0 false) 96, .laid 2 (pc2 0 0 0 0 false) (pc2 x0 x1 y0 y1 zb)] (sB H4) ?ho5 ?he5 (hL := ?hL5)
 case hL5 => exact ⟨⟨_, rfl⟩, trivial⟩
 case ho5 => exact ag (bT 3 Ai96 As96 (am (ex_madePE rfl) (ak (fun J => ⟨rfl, rfl, rfl, fun w' h => ex_laidT h rfl rfl As96 rfl rfl rfl⟩) trivial)))
 intro J w5 l hM hl
 have H5 : Hid (Mm w5 ([(J 2, pc2 x0 x1 y0 y1 zb)] ++ _) ∧ _) := wB H4 hM hl [2]
 have o5_2 := vB H4 hM hl 2
 clear hM hl l H4
 generalize J 2 = J5_2 at H5 o5_2 ⊢
 clear J
 refine rN (wp_seq ?_)
 refine zC 4 [.q (.agg (G2 tn (e0 u) (e1 u) (e0 b) (e1 b)).toArray), .q (.agg (pc2 x0 x1 y0 y1 zb).toArray), .call (.bool true), .q (.bool false)] H5 ?ho6 ?he6
 case ho6 => exact bT 1 Ai93 As93 (bT 0 Ai96 As96 (ac (fun w' h => eC call57 (CK.out w' (h.one 3 rfl))) (ag trivial)))
 intro _ w6 H6
 clear H5
 refine rN (wp_cond_false rfl ?_)
 refine wp_skip (zI (zA ?_))
 refine zC 1 [.q (.int .i64 1)] H6 ?ho7 ?he7
 case ho7 => exact av trivial
 intro _ w7 H7
 clear H6
 refine zF (l := [1]) rfl ?_
 refine zG (d := 21) rfl rfl rfl rfl ?_
 simp only [Act.put, sa, sz, ss]
 refine zE (zA ?_)
 refine zM (n := 0) ?_
 refine wp_seq ?_
 refine zC 1 [.q (.bool false)] H7 ?ho8 ?he8
 case ho8 => exact ag trivial
 intro _ w8 H8
 clear H7
 refine rN (wp_seq (wp_cond_false rfl ?_))
 refine wp_exit ?_
 repeat refine zY ?_
 refine zU ?_
 refine zA (wp_seq ?_)
 refine zB 4 [.q (.agg (G2 tn (e0 u) (e1 u) (e0 b) (e1 b)).toArray), .call (V [e0 O.1, e1 O.1, e0 O.2.1, e1 O.2.1, e0 O.2.2, e1 O.2.2]), .made (cel [0, 0, 0, 0, 0, 0]) 129, .laid 2 (cel [0, 0, 0, 0, 0, 0]) (cel [e0 O.1, e1 O.1, e0 O.2.1, e1 O.2.1, e0 O.2.2, e1 O.2.2])] (sB H8) ?ho9 ?he9 (hL := ?hL9)
 case hL9 => exact ⟨⟨_, rfl⟩, trivial⟩
 case ho9 => exact bT 1 Ai93 As93 (ac (fun w' h => eC call99 (CZ.out w' (h.one 3 rfl))) (am (ex_madeTE rfl) (ak (fun J => ⟨rfl, rfl, rfl, fun w' h => ex_laidA h rfl As129 rfl rfl rfl⟩) trivial)))
 intro J w9 l hM hl
 have H9 : Hid (Mm w9 ([(J 2, cel [e0 O.1, e1 O.1, e0 O.2.1, e1 O.2.1, e0 O.2.2, e1 O.2.2])] ++ _) ∧ _) := wB H8 hM hl [2]
 have o9_2 := vB H8 hM hl 2
 clear hM hl l H8
 generalize J 2 = J9_2 at H9 o9_2 ⊢
 clear J
 refine rN (wp_seq (wp_seq ?_))
 refine zC 1 [.q (.int .i64 0)] H9 ?ho10 ?he10
 case ho10 => exact ar trivial
 intro _ w10 H10
 clear H9
 refine rN (wp_block ?_)
 refine wp_loop_rounds 2 ?_
 refine zM (n := 1) ?_
 refine wp_seq (wp_seq ?_)
 refine zC 4 [.q (.int .i64 0), .q (.slice (some ⟨gp, 0, none⟩) 1 1), .q (.int .i64 1), .q (.bool true)] H10 ?ho11 ?he11
 case ho11 => exact ar (ar (ag (ag trivial)))
 intro _ w11 H11
 clear H10
 refine rN (wp_cond_true rfl ?_)
 refine wp_skip (zA ?_)
 refine wp_seq (wp_block (wp_seq ?_))
 refine zC 6 [.q (.int .i64 0), .q (.int .i64 32), .q (.slice (some ⟨gp, 0, none⟩) 1 1), .q (.int .i64 1), .q (.int .i64 1), .q (.int .i64 1)] H11 ?ho12 ?he12
 case ho12 => exact ar (av (ar (ag (ak (by refine fun J => ⟨rfl, fun w' h => ?_⟩; clear h; go_simp; rfl) (ar trivial)))))
 intro _ w12 H12
 clear H11
 refine rN ?_
 refine zN 13 [.q (.agg (G2 tn (e0 u) (e1 u) (e0 b) (e1 b)).toArray), .q (V [e0 O.1, e1 O.1, e0 O.2.1, e1 O.2.1, e0 O.2.2, e1 O.2.2]), .q (.agg (G2 tn (e0 u) (e1 u) (e0 b) (e1 b)).toArray), .q (.slice (some ⟨gp, 0, none⟩) 1 1), .q (.int .i64 0), .q (.int .i64 1), .q (.slice (some ⟨gp, 0, none⟩) 1 1), .q (.slice (some ⟨gn, 0, none⟩) 1 1), .q (.int .i64 0), .q (.int .i64 1), .q (.slice (some ⟨gn, 0, none⟩) 1 1), .call (V [e0 T.1, e1 T.1, e0 T.2.1, e1 T.2.1, e0 T.2.2, e1 T.2.2]), .call (V [e0 U.1, e1 U.1, e0 U.2.1, e1 U.2.1, e0 U.2.2, e1 U.2.2])] H12 ?ho13 ?he13
 case ho13 => exact bT 2 Ai93 As93 (bA 0 6 0 Ai129 As129 (bT 2 Ai93 As93 (ar (ar (ar (ak (fun J => ⟨rfl, fun w' _ => ex_slice114 rfl rfl rfl rfl⟩) (ar (ar (ar (ak (fun J => ⟨rfl, fun w' _ => ex_slice65 rfl rfl rfl rfl⟩) (ac (fun w' h => eC call101 (CS.out w' (h.pick [4, 5, 6] rfl (by decide)))) (ac (fun w' h => eC call100 (CT.out w' (h.one 4 rfl))) trivial))))))))))))
 intro _ w13 H13
 clear H12
 refine zF (l := [13]) rfl ?_
 refine sF 0 [e0 U.1, e1 U.1, e0 U.2.1, e1 U.2.1, e0 U.2.2, e1 U.2.2] [_, _, _, _, _, _, _] H13 o9_2 As129 fun w14 H14 => ?_
 clear H13
 refine zE (zI (zA ?_))
 refine zC 2 [.q (.int .i64 0), .q (.int .i64 32)] H14 ?ho14 ?he14
 case ho14 => exact ar (av trivial)
 intro _ w15 H15
 clear H14
 refine zF (l := [2]) rfl ?_
 refine zG (d := 11) rfl rfl rfl rfl ?_
 simp only [Act.put, sa, sz, ss]
 refine zE (zA ?_)
 refine zM (n := 0) ?_
 refine wp_seq (wp_seq ?_)
 refine zC 4 [.q (.int .i64 32), .q (.slice (some ⟨gp, 0, none⟩) 1 1), .q (.int .i64 1), .q (.bool false)] H15 ?ho15 ?he15
 case ho15 => exact ar (ar (ag (ag trivial)))
 intro _ w16 H16
 clear H15
 refine rN (wp_cond_false rfl ?_)
 refine wp_exit ?_
 repeat refine zY ?_
 refine zU ?_
 refine zA (wp_seq ?_)
 refine zC 3 [.q (.agg (G2 tn (e0 u) (e1 u) (e0 b) (e1 b)).toArray), .q (V [e0 U.1, e1 U.1, e0 U.2.1, e1 U.2.1, e0 U.2.2, e1 U.2.2]), .call (.agg (pc2 r0 r1 k0 k1 zr).toArray)] H16 ?ho16 ?he16
 case ho16 => exact bT 2 Ai93 As93 (bA 0 6 0 Ai129 As129 (ac (fun w' h => eC call102 (CW.out w' (h.one 4 rfl))) trivial))
 intro _ w17 H17
 clear H16
 refine zF (l := [3, 4]) rfl ?_
 refine sG rfl (fun h => ex_storeT (vs := pc2 r0 r1 k0 k1 zr) h 3 rfl rfl rfl rfl As96 rfl (Nat.le_of_ble_eq_true rfl)) 3 [_, _, _, (_, pc2 r0 r1 k0 k1 zr), _, _, _] H17 o1_1 fun w18 H18 => ?_
 clear H17
 refine zG (d := 7) rfl rfl rfl rfl ?_
 simp only [Act.put, sa, sz, ss]
 refine zE (zA (wp_ret ?_))
 repeat (first | refine zK ?_ | refine zH ?_)
 have hf0 := var_T H18.out.1 3 rfl Ai96 As96 rfl
 refine bodyPost_ret (v := .tuple #[.agg (pc2 r0 r1 k0 k1 zr).toArray, .int .i64 0]) (by simp [results, Tryz.results59, asAddr, Act.eval, hf0]) rfl ?_
 exact ⟨rfl, H18.out.2⟩
set_option maxHeartbeats 4000000 in
theorem Sum_2 (one four x0 x1 y0 y1 r0 r1 k0 k1 nn gl gn : Nat) (zb zr : Bool) (er : Int) (cf : ∀ w, Calls Tryz.prog 43 #[] w fun e w' => Below w.heap.size w w' ∧ ∃ g x, ∃ _y : Nat, e = .returned (.agg (G2 (.func (.func 82) #[] #[PT g 0, PT x 0]) one 0 four four).toArray) ∧ w.heap.size ≤ g ∧ g < w'.heap.size ∧ Blk w' g ([])) (cs : ∀ tn gp w, Mm w [(2, dtab), (gp, pc2 x0 x1 y0 y1 zb), (gn, zD nn)] → Calls Tryz.prog 59 #[(.agg (G2 tn one 0 four four).toArray), .slice (some ⟨gp, 0, none⟩) 1 1, .slice (some ⟨gn, 0, none⟩) 1 1] w (Rt w (.tuple #[.agg (pc2 r0 r1 k0 k1 zr).toArray, .int .i64 er]))) (w : World) (hm : Mm w [(2, dtab), (gl, pc2 x0 x1 y0 y1 zb), (gn, zD nn)]) :
  Calls Tryz.prog 33 #[.slice (some ⟨gl, 0, none⟩) 1 1, .slice (some ⟨gn, 0, none⟩) 1 1] w (Rt w (.tuple #[.agg (pc2 r0 r1 k0 k1 zr).toArray, .int .i64 er])) := by
 have H0 : Hid (_ ∧ _) := ⟨hm, Below.refl w.heap.size w⟩
 clear hm
 have CF : Hid _ := cf
 clear cf
 have CS : Hid _ := cs
 clear cs
 go_enter Tryz.func33, Tryz.ntmps33
 refine wp_seq ?_
 refine zB 2 [.made (pc2 0 0 0 0 false) 35, .q (.int .i64 0)] (sB H0) ?ho1 ?he1
 case ho1 => exact am (ex_madeP2 rfl) (ar trivial)
 intro J w1 l hM hl
 have H1 : Hid (Mm w1 ([(J 0, pc2 0 0 0 0 false)] ++ _) ∧ _) := wB H0 hM hl [0]
 have o1_0 := vB H0 hM hl 0
 clear hM hl l
 generalize J 0 = J1_0 at H1 o1_0 ⊢
 clear J
 refine rN (wp_seq ?_)
 refine zC 2 [.q (.slice (some ⟨gl, 0, none⟩) 1 1), .q (.int .i64 1)] H1 ?ho2 ?he2
 case ho2 => exact ar (ag trivial)
 intro _ w2 H2
 clear H1
 refine zF (l := [2, 3]) rfl ?_
 refine zG (d := 13) (v := .slice (some ⟨w2.heap.size, 0, none⟩) 1 1) (w' := w2.alloc (.cells (pc2 0 0 0 0 false : List Value).toArray 96)) rfl rfl rfl (ex_mkPE rfl rfl rfl) ?_
 simp only [Act.put, sa, sz, ss]
 have o_Js3 : Hid (w.heap.size ≤ w2.heap.size) := H2.out.2.size
 have H3 : Hid (Mm (w2.alloc (.cells (pc2 0 0 0 0 false : List Value).toArray 96)) ((w2.heap.size, pc2 0 0 0 0 false) :: [(J1_0, pc2 0 0 0 0 false), (2, dtab), (gl, pc2 x0 x1 y0 y1 zb), (gn, zD nn)]) ∧ Below w.heap.size w (w2.alloc (.cells (pc2 0 0 0 0 false : List Value).toArray 96))) := ⟨H2.out.1.alloc _ 96 rfl, H2.out.2.alloc H2.out.2.size _⟩
 clear H2
 generalize hgw : w2.alloc (.cells (pc2 0 0 0 0 false : List Value).toArray 96) = w3 at H3 ⊢
 clear hgw
 generalize w2.heap.size = Js3 at o_Js3 H3 ⊢
 refine zG (d := 6) rfl rfl rfl rfl ?_
 simp only [Act.put, sa, sz, ss]
 refine zE (zA ?_)
 refine wp_seq (wp_seq ?_)
 refine zC 3 [.q (.slice (some ⟨gl, 0, none⟩) 1 1), .q (.int .i64 1), .q (.int .i64 0)] H3 ?ho3 ?he3
 case ho3 => exact ar (ag (ar trivial))
 intro _ w4 H4
 clear H3
 refine rN (wp_block ?_)
 refine wp_loop_rounds 2 ?_
 refine zM (n := 1) ?_
 refine wp_seq ?_
 refine zC 1 [.q (.bool true)] H4 ?ho4 ?he4
 case ho4 => exact ag trivial
 intro _ w5 H5
 clear H4
 refine rN (wp_seq ?_)
 refine wp_cond_true rfl (wp_skip ?_)
 refine zA (wp_seq ?_)
 refine wp_block (wp_seq ?_)
 refine zB 6 [.q (.int .i64 0), .q (PT gl 0), .q (.agg (pc2 x0 x1 y0 y1 zb).toArray), .made (pc2 0 0 0 0 false) 35, .q (.int .i64 0), .laid 3 (pc2 0 0 0 0 false) (pc2 x0 x1 y0 y1 zb)] (sB H5) ?ho5 ?he5 (hL := ?hL5)
 case hL5 => exact ⟨⟨_, rfl⟩, trivial⟩
 case ho5 => exact ar (ag (bT 3 Ai35 As35 (am (ex_madeP2 rfl) (ar (ak (fun J => ⟨rfl, rfl, rfl, fun w' h => ex_laidT h rfl rfl As35 rfl rfl rfl⟩) trivial)))))
 intro J w6 l hM hl
 have H6 : Hid (Mm w6 ([(J 3, pc2 x0 x1 y0 y1 zb)] ++ _) ∧ _) := wB H5 hM hl [3]
 have o5_3 := vB H5 hM hl 3
 clear hM hl l H5
 generalize J 3 = J5_3 at H6 o5_3 ⊢
 clear J
 refine rN ?_
 refine zC 4 [.q (.slice (some ⟨Js3, 0, none⟩) 1 1), .q (.int .i64 0), .q (.agg (pc2 x0 x1 y0 y1 zb).toArray), .q (PT Js3 0)] H6 ?ho6 ?he6
 case ho6 => exact ar (ar (bT 0 Ai35 As35 (ag trivial)))
 intro _ w7 H7
 clear H6
 refine zF (l := [4]) rfl ?_
 refine sG rfl (fun h => ex_storeT (vs := pc2 x0 x1 y0 y1 zb) h 1 rfl rfl rfl rfl As96 rfl (Nat.le_of_ble_eq_true rfl)) 1 [_, (_, pc2 x0 x1 y0 y1 zb), _, _, _, _] H7 o_Js3 fun w8 H8 => ?_
 clear H7
 refine zE (zI (zA ?_))
 refine zC 1 [.q (.int .i64 1)] H8 ?ho7 ?he7
 case ho7 => exact av trivial
 intro _ w9 H9
 clear H8
 refine zF (l := [1]) rfl ?_
 refine zG (d := 16) rfl rfl rfl rfl ?_
 simp only [Act.put, sa, sz, ss]
 refine zE (zA ?_)
 refine zM (n := 0) ?_
 refine wp_seq ?_
 refine zC 1 [.q (.bool false)] H9 ?ho8 ?he8
 case ho8 => exact ag trivial
 intro _ w10 H10
 clear H9
 refine rN (wp_seq (wp_cond_false rfl ?_))
 refine wp_exit ?_
 repeat refine zY ?_
 refine zU ?_
 refine zA (wp_seq ?_)
 refine zB 10 [.bornX (fun g x y => .agg (G2 (.func (.func 82) #[] #[PT g 0, PT x 0]) one 0 four four).toArray) ([]), .q (.slice (some ⟨Js3, 0, none⟩) 1 1), .q (.slice (some ⟨gn, 0, none⟩) 1 1), .over (.tuple #[.agg (pc2 r0 r1 k0 k1 zr).toArray, .int .i64 er]) 0 ([]), .q (.tuple #[.agg (pc2 r0 r1 k0 k1 zr).toArray, .int .i64 er]), .q (.agg (pc2 r0 r1 k0 k1 zr).toArray), .q (.int .i64 er), .made (pc2 0 0 0 0 false) 96, .laid 7 (pc2 0 0 0 0 false) (pc2 r0 r1 k0 k1 zr), .q (.int .i64 er)] (sB H10) ?ho9 ?he9 (hL := ?hL9)
 case hL9 => exact ⟨⟨_, rfl⟩, ⟨_, rfl⟩, trivial⟩
 case ho9 => exact ak (fun J => ⟨rfl, fun w' h => eC call43 (CF.out w')⟩) (ar (ar (ak (fun J => ⟨rfl, fun u w' h0 hge h1 hb hlt => by have h := Mm.over h0 hge h1 hb hlt; exact eC call59 (CS.out _ _ w' (h.pick [4, 2, 6] rfl (by decide)))⟩) (ar (ag (ag (am (ex_madePE rfl) (ak (fun J => ⟨rfl, rfl, rfl, fun w' h => ex_laidT h rfl rfl As96 rfl rfl rfl⟩) (ar trivial)))))))))
 intro J w11 l hM hl
 have H11 : Hid (Mm w11 ([(J 0, []), (J 7, pc2 r0 r1 k0 k1 zr)] ++ _) ∧ _) := wB H10 hM hl [0, 7]
 have o9_0 := vB H10 hM hl 0
 have o9_7 := vB H10 hM hl 7
 clear hM hl l H10
 generalize J 0 = J9_0 at H11 o9_0 ⊢
 generalize J 7 = J9_7 at H11 o9_7 ⊢
 generalize J 65536 = J9_65536
 clear J
 refine rN (wp_seq ?_)
 refine zC 2 [.q (.agg (pc2 r0 r1 k0 k1 zr).toArray), .q (.int .i64 er)] H11 ?ho10 ?he10
 case ho10 => exact bT 1 Ai96 As96 (ar trivial)
 intro _ w12 H12
 clear H11
 refine zF (l := [2, 3]) rfl ?_
 refine sG rfl (fun h => ex_storeT (vs := pc2 r0 r1 k0 k1 zr) h 4 rfl rfl rfl rfl As35 rfl (Nat.le_of_ble_eq_true rfl)) 4 [_, _, _, _, (_, pc2 r0 r1 k0 k1 zr), _, _, _] H12 o1_0 fun w13 H13 => ?_
 clear H12
 refine zG (d := 5) rfl rfl rfl rfl ?_
 simp only [Act.put, sa, sz, ss]
 refine zE (zA (wp_ret ?_))
 repeat (first | refine zK ?_ | refine zH ?_)
 have hf0 := var_T H13.out.1 4 rfl Ai35 As35 rfl
 refine bodyPost_ret (v := .tuple #[.agg (pc2 r0 r1 k0 k1 zr).toArray, .int .i64 er]) (by simp [results, Tryz.results33, asAddr, Act.eval, hf0]) rfl ?_
 exact ⟨rfl, H13.out.2⟩
set_option maxHeartbeats 4000000 in
theorem Mul_2 (x0 x1 y0 y1 r0 r1 k0 k1 nn : Nat) (zb zr : Bool) (er : Int) (cs : ∀ gl gn w, Mm w [(2, dtab), (gl, pc2 x0 x1 y0 y1 zb), (gn, zD nn)] → Calls Tryz.prog 33 #[.slice (some ⟨gl, 0, none⟩) 1 1, .slice (some ⟨gn, 0, none⟩) 1 1] w (Rt w (.tuple #[.agg (pc2 r0 r1 k0 k1 zr).toArray, .int .i64 er]))) (w : World) (hm : Mm w [(2, dtab)]) :
  Calls Tryz.prog 10 #[.agg (pc2 x0 x1 y0 y1 zb).toArray, N nn] w (Rt w (.tuple #[.agg (pc2 r0 r1 k0 k1 zr).toArray, .int .i64 er])) := by
 have H0 : Hid (_ ∧ _) := ⟨hm, Below.refl w.heap.size w⟩
 clear hm
 have CS : Hid _ := cs
 clear cs
 go_enter Tryz.func10, Tryz.ntmps10
 refine wp_seq ?_
 refine zB 4 [.made (pc2 x0 x1 y0 y1 zb) 35, .made (zD nn) 24, .made (pc2 0 0 0 0 false) 35, .q (.int .i64 0)] (sB H0) ?ho1 ?he1
 case ho1 => exact am (zS rfl rfl) (am (yE rfl rfl) (am (ex_madeP2 rfl) (ar trivial)))
 intro J w1 l hM hl
 have H1 : Hid (Mm w1 ([(J 0, pc2 x0 x1 y0 y1 zb), (J 1, zD nn), (J 2, pc2 0 0 0 0 false)] ++ _) ∧ _) := wB H0 hM hl [0, 1, 2]
 have o1_0 := vB H0 hM hl 0
 have o1_1 := vB H0 hM hl 1
 have o1_2 := vB H0 hM hl 2
 clear hM hl l
 generalize J 0 = J1_0 at H1 o1_0 ⊢
 generalize J 1 = J1_1 at H1 o1_1 ⊢
 generalize J 2 = J1_2 at H1 o1_2 ⊢
 clear J
 refine rN (wp_seq ?_)
 refine zC 1 [.q (.agg (pc2 x0 x1 y0 y1 zb).toArray)] H1 ?ho2 ?he2
 case ho2 => exact bT 0 Ai35 As35 trivial
 intro _ w2 H2
 clear H1
 refine zF (l := [1, 2, 3, 4, 5, 6, 7, 8]) rfl ?_
 refine zG (d := 7) (v := .slice (some ⟨w2.heap.size, 0, none⟩) 1 1) (w' := w2.alloc (.cells (pc2 x0 x1 y0 y1 zb : List Value).toArray 35)) rfl rfl rfl (ex_bs68 rfl rfl) ?_
 simp only [Act.put, sa, sz, ss]
 have o_Js3 : Hid (w.heap.size ≤ w2.heap.size) := H2.out.2.size
 have H3 : Hid (Mm (w2.alloc (.cells (pc2 x0 x1 y0 y1 zb : List Value).toArray 35)) ((w2.heap.size, pc2 x0 x1 y0 y1 zb) :: [(J1_0, pc2 x0 x1 y0 y1 zb), (J1_1, zD nn), (J1_2, pc2 0 0 0 0 false), (2, dtab)]) ∧ Below w.heap.size w (w2.alloc (.cells (pc2 x0 x1 y0 y1 zb : List Value).toArray 35))) := ⟨H2.out.1.alloc _ 35 rfl, H2.out.2.alloc H2.out.2.size _⟩
 clear H2
 generalize hgw : w2.alloc (.cells (pc2 x0 x1 y0 y1 zb : List Value).toArray 35) = w3 at H3 ⊢
 clear hgw
 generalize w2.heap.size = Js3 at o_Js3 H3 ⊢
 refine zG (d := 8) (v := N nn) rfl rfl rfl (yG H3.out.1 2 rfl rfl rfl rfl) ?_
 simp only [Act.put, sa, sz, ss]
 refine zG (d := 9) (v := .slice (some ⟨w3.heap.size, 0, none⟩) 1 1) (w' := w3.alloc (.cells (zD nn : List Value).toArray 24)) rfl rfl rfl (ex_bs65 rfl rfl) ?_
 simp only [Act.put, sa, sz, ss]
 have o_Js4 : Hid (w.heap.size ≤ w3.heap.size) := H3.out.2.size
 have H4 : Hid (Mm (w3.alloc (.cells (zD nn : List Value).toArray 24)) ((w3.heap.size, zD nn) :: [(Js3, pc2 x0 x1 y0 y1 zb), (J1_0, pc2 x0 x1 y0 y1 zb), (J1_1, zD nn), (J1_2, pc2 0 0 0 0 false), (2, dtab)]) ∧ Below w.heap.size w (w3.alloc (.cells (zD nn : List Value).toArray 24))) := ⟨H3.out.1.alloc _ 24 rfl, H3.out.2.alloc H3.out.2.size _⟩
 clear H3
 generalize hgw : w3.alloc (.cells (zD nn : List Value).toArray 24) = w4 at H4 ⊢
 clear hgw
 generalize w3.heap.size = Js4 at o_Js4 H4 ⊢
 refine rest_enter (d := 10) (R := fun vv w' => vv = .tuple #[.agg (pc2 r0 r1 k0 k1 zr).toArray, .int .i64 er] ∧ Below w4.heap.size w4 w') rfl rfl rfl (exec_call (args := #[.slice (some ⟨Js3, 0, none⟩) 1 1, .slice (some ⟨Js4, 0, none⟩) 1 1]) rfl call33 rfl (mpn rfl)) (Calls.mono (CS.out _ _ w4 (H4.out.1.pick [5, 1, 0] rfl (by decide))) (fun e w2 hh => ⟨_, hh.1, rfl, hh.2⟩)) ?_
 rintro _ w5 ⟨rfl, hb⟩
 have H5 : Hid (_ ∧ _) := ⟨H4.out.1.below hb, H4.out.2.trans (hb.mono H4.out.2.size)⟩
 clear hb H4
 simp only [Act.put, sa, sz, ss]
 refine zG (d := 11) (v := .agg (pc2 r0 r1 k0 k1 zr).toArray) (w' := w5) rfl rfl rfl (by go_simp) ?_
 simp only [Act.put, sa, sz, ss]
 refine zG (d := 12) (v := .int .i64 er) (w' := w5) rfl rfl rfl (by go_simp) ?_
 simp only [Act.put, sa, sz, ss]
 refine sG rfl (fun h => ex_storeT (vs := pc2 r0 r1 k0 k1 zr) h 4 rfl rfl rfl rfl As35 rfl (Nat.le_of_ble_eq_true rfl)) 4 [_, _, _, _, (_, pc2 r0 r1 k0 k1 zr), _] H5 o1_2 fun w6 H6 => ?_
 clear H5
 refine zG (d := 5) rfl rfl rfl rfl ?_
 simp only [Act.put, sa, sz, ss]
 refine zE (zA (wp_ret ?_))
 repeat (first | refine zK ?_ | refine zH ?_)
 have hf0 := var_T H6.out.1 4 rfl Ai35 As35 rfl
 refine bodyPost_ret (v := .tuple #[.agg (pc2 r0 r1 k0 k1 zr).toArray, .int .i64 er]) (by simp [results, Tryz.results10, asAddr, Act.eval, hf0]) rfl ?_
 exact ⟨rfl, H6.out.2⟩
end Rg
end Go.Proofs.YtmanelnacifgcaaGreatDoor
end
