/- Texts of the proof, joined. -/
import Derived.Test.YtahgdighnlekdaaGreatDoorP7
import Derived.ProofKit
import Derived.OpenShut
import Derived.Test.YtahgdighnlekdaaGreatDoorRows
import Derived.LaidMore
import Derived.Stop.Joined
import Derived.Test.YtahgdighnlekdaaGreatDoorTie
set_option maxRecDepth 100000
section
namespace Go.Proofs.YtahgdighnlekdaaGreatDoor
open Go.RowKit
namespace Rg
theorem c6_at (v : Nat) {j : Nat} (h : j < 6) : (zC v)[0 + j]? = some (.int .u64 (wd v j)) := by
 match j, h with
 | 0, _ => rfl
 | 1, _ => rfl
 | 2, _ => rfl
 | 3, _ => rfl
 | 4, _ => rfl
 | 5, _ => rfl
set_option maxHeartbeats 8000000 in
theorem some_1 {α : Type} {en : α → Nat} {fa fs fm : α → α → α} {fi : α → α} {z u b : α} {g : Nat} {tn : Value} (_C : Fd1 g en fa fs fm fi z) (f : Nat → Nat) (S : Nat → EC.Tri α) (x y nn gp gn : Nat) (zb : Bool) (cz : ∀ w, Mm w [(g, zQ pB), (0, dtab)] → Calls Tryz.prog 102 #[.agg (G1 g tn (en u) (en b)).toArray] w (Rt w (V [en ((S 0).1), en ((S 0).2.1), en ((S 0).2.2)]))) (ct : ∀ w, Mm w [(g, zQ pB), (0, dtab)] → Calls Tryz.prog 121 #[.agg (G1 g tn (en u) (en b)).toArray, .agg (pc1 x y zb).toArray] w (Rt w (V (tb1 f)))) (cr : ∀ r, r < 6 → ∀ gt gr w, Mm w [(g, zQ pB), (0, dtab), (gt, cel (tb1 f)), (gr, [Value.int .u64 (wd nn (5 - r))])] → Calls Tryz.prog 122 #[.agg (G1 g tn (en u) (en b)).toArray, V [en ((S r).1), en ((S r).2.1), en ((S r).2.2)], .slice (some ⟨gt, 0, none⟩) 1 1, .slice (some ⟨gr, 0, none⟩) 1 1] w fun e w' => e = .returned (V [en ((S (r + 1)).1), en ((S (r + 1)).2.1), en ((S (r + 1)).2.2)]) ∧ Mm w' [(gr, [Value.int .u64 0])] ∧ Kp gr w w') (w : World) (hm : Mm w [(g, zQ pB), (0, dtab), (gp, pc1 x y zb), (gn, zC nn)]) :
  Calls Tryz.prog 103 #[.agg (G1 g tn (en u) (en b)).toArray, .slice (some ⟨gp, 0, none⟩) 1 1, .slice (some ⟨gn, 0, none⟩) 1 1] w (Rt w (V [en ((S 6).1), en ((S 6).2.1), en ((S 6).2.2)])) := by
 have H0 : Hid (_ ∧ _) := ⟨hm, Below.refl w.heap.size w⟩
 clear hm
 have CZ : Hid _ := cz
 clear cz
 have CT : Hid _ := ct
 clear ct
 have CR : Hid _ := cr
 clear cr
 go_enter Tryz.func103, Tryz.ntmps103
 refine wp_seq ?_
 refine zD 2 [.made (G1 g tn (en u) (en b)) 102, .made (cel [0, 0, 0]) 137] (sB H0) ?ho1 ?he1
 case ho1 => exact am (zN rfl rfl) (am (ex_madeTN rfl) trivial)
 intro J w1 l hM hl
 have H1 : Hid (Mm w1 ([(J 0, G1 g tn (en u) (en b)), (J 1, cel [0, 0, 0])] ++ _) ∧ _) := wB H0 hM hl [0, 1]
 have o1_0 := vB H0 hM hl 0
 have o1_1 := vB H0 hM hl 1
 clear hM hl l
 generalize J 0 = J1_0 at H1 o1_0 ⊢
 generalize J 1 = J1_1 at H1 o1_1 ⊢
 clear J
 refine rN (wp_seq ?_)
 refine zB 2 [.q (.slice (some ⟨gp, 0, none⟩) 1 1), .q (.int .i64 1)] H1 ?ho2 ?he2
 case ho2 => exact ar (ag trivial)
 intro _ w2 H2
 clear H1
 refine zF (l := [2, 3]) rfl ?_
 refine zG (d := 16) (v := .slice (some ⟨w2.heap.size, 0, none⟩) 1 1) (w' := w2.alloc (.cells (cel [0, 0, 0, 0, 0, 0, 0, 0, 0, 0, 0, 0, 0, 0, 0, 0, 0, 0, 0, 0, 0, 0, 0, 0, 0, 0, 0, 0, 0, 0, 0, 0, 0, 0, 0, 0, 0, 0, 0, 0, 0, 0, 0, 0, 0, 0, 0, 0] : List Value).toArray 170)) rfl rfl rfl (ex_mkTN rfl rfl rfl) ?_
 simp only [Act.put, sa, sz, ss]
 have o_Js3 : Hid (w.heap.size ≤ w2.heap.size) := H2.out.2.size
 have H3 : Hid (Mm (w2.alloc (.cells (cel [0, 0, 0, 0, 0, 0, 0, 0, 0, 0, 0, 0, 0, 0, 0, 0, 0, 0, 0, 0, 0, 0, 0, 0, 0, 0, 0, 0, 0, 0, 0, 0, 0, 0, 0, 0, 0, 0, 0, 0, 0, 0, 0, 0, 0, 0, 0, 0] : List Value).toArray 170)) ((w2.heap.size, cel [0, 0, 0, 0, 0, 0, 0, 0, 0, 0, 0, 0, 0, 0, 0, 0, 0, 0, 0, 0, 0, 0, 0, 0, 0, 0, 0, 0, 0, 0, 0, 0, 0, 0, 0, 0, 0, 0, 0, 0, 0, 0, 0, 0, 0, 0, 0, 0]) :: [(J1_0, G1 g tn (en u) (en b)), (J1_1, cel [0, 0, 0]), (g, zQ pB), (0, dtab), (gp, pc1 x y zb), (gn, zC nn)]) ∧ Below w.heap.size w (w2.alloc (.cells (cel [0, 0, 0, 0, 0, 0, 0, 0, 0, 0, 0, 0, 0, 0, 0, 0, 0, 0, 0, 0, 0, 0, 0, 0, 0, 0, 0, 0, 0, 0, 0, 0, 0, 0, 0, 0, 0, 0, 0, 0, 0, 0, 0, 0, 0, 0, 0, 0] : List Value).toArray 170))) := ⟨H2.out.1.alloc _ 170 rfl, H2.out.2.alloc H2.out.2.size _⟩
 clear H2
 generalize hgw : w2.alloc (.cells (cel [0, 0, 0, 0, 0, 0, 0, 0, 0, 0, 0, 0, 0, 0, 0, 0, 0, 0, 0, 0, 0, 0, 0, 0, 0, 0, 0, 0, 0, 0, 0, 0, 0, 0, 0, 0, 0, 0, 0, 0, 0, 0, 0, 0, 0, 0, 0, 0] : List Value).toArray 170) = w3 at H3 ⊢
 clear hgw
 generalize w2.heap.size = Js3 at o_Js3 H3 ⊢
 refine zG (d := 7) rfl rfl rfl rfl ?_
 simp only [Act.put, sa, sz, ss]
 refine zE (zA ?_)
 refine wp_seq (wp_seq ?_)
 refine zB 3 [.q (.slice (some ⟨gp, 0, none⟩) 1 1), .q (.int .i64 1), .q (.int .i64 0)] H3 ?ho3 ?he3
 case ho3 => exact ar (ag (ar trivial))
 intro _ w4 H4
 clear H3
 refine rN (wp_block ?_)
 refine wp_loop_rounds 2 ?_
 refine zR (n := 1) ?_
 refine wp_seq ?_
 refine zB 1 [.q (.bool true)] H4 ?ho4 ?he4
 case ho4 => exact ag trivial
 intro _ w5 H5
 clear H4
 refine rN (wp_seq ?_)
 refine wp_cond_true rfl (wp_skip ?_)
 refine zA (wp_seq ?_)
 refine wp_block (wp_seq ?_)
 refine zD 6 [.q (.int .i64 0), .q (PT gp 0), .q (.agg (pc1 x y zb).toArray), .made (pc1 0 0 false) 95, .q (.int .i64 0), .laid 3 (pc1 0 0 false) (pc1 x y zb)] (sB H5) ?ho5 ?he5 (hL := ?hL5)
 case hL5 => exact ⟨⟨_, rfl⟩, trivial⟩
 case ho5 => exact ar (ag (bT 5 Ai95 As95 (am (ex_madePN rfl) (ar (ak (fun J => ⟨rfl, rfl, rfl, fun w' h => ex_laidT h rfl rfl As95 rfl rfl rfl⟩) trivial)))))
 intro J w6 l hM hl
 have H6 : Hid (Mm w6 ([(J 3, pc1 x y zb)] ++ _) ∧ _) := wB H5 hM hl [3]
 have o5_3 := vB H5 hM hl 3
 clear hM hl l H5
 generalize J 3 = J5_3 at H6 o5_3 ⊢
 clear J
 refine rN ?_
 refine zB 6 [.q (.slice (some ⟨Js3, 0, none⟩) 1 1), .q (.int .i64 0), .q (.agg (G1 g tn (en u) (en b)).toArray), .q (.agg (pc1 x y zb).toArray), .call (V (tb1 f)), .q (PT Js3 0)] H6 ?ho6 ?he6
 case ho6 => exact ar (ar (bT 2 Ai102 As102 (bT 0 Ai95 As95 (ac (fun w' h => eC call121 (CT.out w' (h.two 4 5 rfl rfl (by decide)))) (ag trivial)))))
 intro _ w7 H7
 clear H6
 refine zF (l := [6]) rfl ?_
 refine sA 1 0 [f 0, f 1, f 2, f 3, f 4, f 5, f 6, f 7, f 8, f 9, f 10, f 11, f 12, f 13, f 14, f 15, f 16, f 17, f 18, f 19, f 20, f 21, f 22, f 23, f 24, f 25, f 26, f 27, f 28, f 29, f 30, f 31, f 32, f 33, f 34, f 35, f 36, f 37, f 38, f 39, f 40, f 41, f 42, f 43, f 44, f 45, f 46, f 47] [_, (_, cel (tb1 f)), _, _, _, _, _, _] H7 o_Js3 As170 fun w8 H8 => ?_
 clear H7
 refine zE (zK (zA ?_))
 refine zB 1 [.q (.int .i64 1)] H8 ?ho7 ?he7
 case ho7 => exact av trivial
 intro _ w9 H9
 clear H8
 refine zF (l := [1]) rfl ?_
 refine zG (d := 19) rfl rfl rfl rfl ?_
 simp only [Act.put, sa, sz, ss]
 refine zE (zA ?_)
 refine zR (n := 0) ?_
 refine wp_seq ?_
 refine zB 1 [.q (.bool false)] H9 ?ho8 ?he8
 case ho8 => exact ag trivial
 intro _ w10 H10
 clear H9
 refine rN (wp_seq (wp_cond_false rfl ?_))
 refine wp_exit ?_
 repeat refine then_exit ?_
 refine block_exit ?_
 refine zA (wp_seq ?_)
 refine zD 4 [.q (.agg (G1 g tn (en u) (en b)).toArray), .call (V [en ((S 0).1), en ((S 0).2.1), en ((S 0).2.2)]), .made (cel [0, 0, 0]) 137, .laid 2 (cel [0, 0, 0]) (cel [en ((S 0).1), en ((S 0).2.1), en ((S 0).2.2)])] (sB H10) ?ho9 ?he9 (hL := ?hL9)
 case hL9 => exact ⟨⟨_, rfl⟩, trivial⟩
 case ho9 => exact bT 2 Ai102 As102 (ac (fun w' h => eC call102 (CZ.out w' (h.two 4 5 rfl rfl (by decide)))) (am (ex_madeTN rfl) (ak (fun J => ⟨rfl, rfl, rfl, fun w' h => ex_laidA h rfl As137 rfl rfl rfl⟩) trivial)))
 intro J w11 l hM hl
 have H11 : Hid (Mm w11 ([(J 2, cel [en ((S 0).1), en ((S 0).2.1), en ((S 0).2.2)])] ++ _) ∧ _) := wB H10 hM hl [2]
 have o9_2 := vB H10 hM hl 2
 clear hM hl l H10
 generalize J 2 = J9_2 at H11 o9_2 ⊢
 clear J
 refine rN (wp_seq ?_)
 refine zB 2 [.q (.slice (some ⟨gn, 0, none⟩) 1 1), .q (.int .i64 1)] H11 ?ho10 ?he10
 case ho10 => exact ar (ag trivial)
 intro _ w12 H12
 clear H11
 refine zF (l := [2, 3]) rfl ?_
 refine zG (d := 35) (v := .slice (some ⟨w12.heap.size, 0, none⟩) 1 1) (w' := w12.alloc (.cells ([Value.int .u64 0] : List Value).toArray 22)) rfl rfl rfl (ex_mkU rfl rfl rfl) ?_
 simp only [Act.put, sa, sz, ss]
 have o_Js13 : Hid (w.heap.size ≤ w12.heap.size) := H12.out.2.size
 have H13 : Hid (Mm (w12.alloc (.cells ([Value.int .u64 0] : List Value).toArray 22)) ((w12.heap.size, [Value.int .u64 0]) :: [(J9_2, cel [en ((S 0).1), en ((S 0).2.1), en ((S 0).2.2)]), (J5_3, pc1 x y zb), (Js3, cel (tb1 f)), (J1_0, G1 g tn (en u) (en b)), (J1_1, cel [0, 0, 0]), (g, zQ pB), (0, dtab), (gp, pc1 x y zb), (gn, zC nn)]) ∧ Below w.heap.size w (w12.alloc (.cells ([Value.int .u64 0] : List Value).toArray 22))) := ⟨H12.out.1.alloc _ 22 rfl, H12.out.2.alloc H12.out.2.size _⟩
 clear H12
 generalize hgw : w12.alloc (.cells ([Value.int .u64 0] : List Value).toArray 22) = w13 at H13 ⊢
 clear hgw
 generalize w12.heap.size = Js13 at o_Js13 H13 ⊢
 refine zG (d := 11) rfl rfl rfl rfl ?_
 simp only [Act.put, sa, sz, ss]
 refine zE (zA ?_)
 refine wp_seq (wp_seq ?_)
 refine zB 1 [.q (.int .i64 5)] H13 ?ho11 ?he11
 case ho11 => exact ar trivial
 intro _ w14 H14
 clear H13
 refine rN (wp_block ?_)
 refine loop_ghost (α := Nat) (fun r a' w' => ∃ s2 : Nat → Value, a' = ⟨#[.agg (G1 g tn (en u) (en b)).toArray, .slice (some ⟨gp, 0, none⟩) 1 1, .slice (some ⟨gn, 0, none⟩) 1 1, PT J1_0 0, ud, ud, PT J1_1 0, .slice (some ⟨Js3, 0, none⟩) 1 1, .int .i64 0, PT J5_3 0, PT J9_2 0, .slice (some ⟨Js13, 0, none⟩) 1 1, .int .i64 (5 - ((r : Nat) : Int)), s2 13, .slice (some ⟨gp, 0, none⟩) 1 1, .int .i64 1, .slice (some ⟨Js3, 0, none⟩) 1 1, .slice (some ⟨gp, 0, none⟩) 1 1, .int .i64 1, .int .i64 1, .bool false, .int .i64 0, PT gp 0, .agg (pc1 x y zb).toArray, .slice (some ⟨Js3, 0, none⟩) 1 1, .int .i64 0, .agg (G1 g tn (en u) (en b)).toArray, .agg (pc1 x y zb).toArray, V (tb1 f), PT Js3 0, .int .i64 1, .agg (G1 g tn (en u) (en b)).toArray, V [en ((S 0).1), en ((S 0).2.1), en ((S 0).2.2)], .slice (some ⟨gn, 0, none⟩) 1 1, .int .i64 1, .slice (some ⟨Js13, 0, none⟩) 1 1, s2 36, s2 37, s2 38, s2 39, s2 40, s2 41, s2 42, s2 43, s2 44, s2 45, s2 46, s2 47, s2 48, s2 49, s2 50, s2 51, s2 52, s2 53, s2 54, s2 55, s2 56, s2 57, s2 58, s2 59, ud], []⟩ ∧ (Mm w' [(Js13, [Value.int .u64 0]), (J9_2, cel [en ((S r).1), en ((S r).2.1), en ((S r).2.2)]), (J5_3, pc1 x y zb), (Js3, cel (tb1 f)), (J1_0, G1 g tn (en u) (en b)), (J1_1, cel [0, 0, 0]), (g, zQ pB), (0, dtab), (gp, pc1 x y zb), (gn, zC nn)] ∧ Below w.heap.size w w') ∧ r ≤ 6) (fun r => 6 - r) 0 ?st2 ?rd2
 case st2 => exact ⟨(slotfn [ud, ud, ud, ud, ud, ud, ud, ud, ud, ud, ud, ud, ud, ud, ud, ud, ud, ud, ud, ud, ud, ud, ud, ud, ud, ud, ud, ud, ud, ud, ud, ud, ud, ud, ud, ud, ud, ud, ud, ud, ud, ud, ud, ud, ud, ud, ud, ud, ud, ud, ud, ud, ud, ud, ud, ud, ud, ud, ud, ud]), rfl, ⟨H14.out.1, H14.out.2⟩, by omega⟩
 intro r a' w15 hI
 obtain ⟨s2, rfl, hMB, hk2⟩ := hI
 have H15 : Hid (_ ∧ _) := hMB
 clear hMB H14
 by_cases hlt : r < 6
 ·have hrd : True := trivial
  clear hrd
  have he5 : (5 : Int) - ((r : Nat) : Int) = ((5 - r : Nat) : Int) := by omega
  rw [he5]
  clear he5
  refine wp_seq (wp_seq ?_)
  refine zB 2 [.q (.int .i64 ((5 - r : Nat) : Int)), .q (.bool true)] H15 ?ho12 ?he12
  case ho12 => exact ar (ak (by refine fun J => ⟨rfl, fun w' h => ?_⟩; clear h; go_simp <;> omega) trivial)
  intro _ w16 H16
  clear H15
  refine rN (wp_cond_true rfl ?_)
  refine wp_skip (zA ?_)
  refine wp_seq (wp_block ?_)
  refine wp_seq (wp_seq ?_)
  refine zB 3 [.q (.slice (some ⟨gn, 0, none⟩) 1 1), .q (.int .i64 1), .q (.int .i64 0)] H16 ?ho13 ?he13
  case ho13 => exact ar (ag (ar trivial))
  intro _ w17 H17
  clear H16
  refine rN (wp_block ?_)
  refine wp_loop_rounds 2 ?_
  refine zR (n := 1) ?_
  refine wp_seq ?_
  refine zB 1 [.q (.bool true)] H17 ?ho14 ?he14
  case ho14 => exact ag trivial
  intro _ w18 H18
  clear H17
  refine rN (wp_seq ?_)
  refine wp_cond_true rfl (wp_skip ?_)
  refine zA (wp_seq ?_)
  refine wp_block (wp_seq ?_)
  refine zB 2 [.q (.int .i64 0), .q (.int .i64 0)] H18 ?ho15 ?he15
  case ho15 => exact ar (ar trivial)
  intro _ w19 H19
  clear H18
  refine rN ?_
  refine zB 9 [.q (.slice (some ⟨Js13, 0, none⟩) 1 1), .q (.int .i64 0), .q (.slice (some ⟨gn, 0, none⟩) 1 1), .q (.int .i64 0), .q (.int .i64 ((5 - r : Nat) : Int)), .q (PT gn 0), .q (PT gn (0 + (5 - r))), .q (.int .u64 (wd nn (5 - r))), .q (PT Js13 0)] H19 ?ho16 ?he16
  case ho16 => exact ar (ar (ar (ar (ar (ag (ak (fun J => ⟨rfl, fun w' _ => ex_indexAddr6 rfl rfl rfl (by omega)⟩) (aq (fun w' h => ex_load1 h 9 rfl rfl rfl (c6_at nn (by omega))) (ag trivial))))))))
  intro _ w20 H20
  clear H19
  refine zF (l := [9]) rfl ?_
  refine sG rfl (fun h => ex_storeI h 0 rfl rfl As22 rfl rfl (Nat.le_of_ble_eq_true rfl)) 0 [(_, [Value.int .u64 (wd nn (5 - r))]), _, _, _, _, _, _, _, _, _] H20 o_Js13 fun w21 H21 => ?_
  clear H20
  refine zE (zK (zA ?_))
  refine zB 1 [.q (.int .i64 1)] H21 ?ho17 ?he17
  case ho17 => exact av trivial
  intro _ w22 H22
  clear H21
  refine zF (l := [1]) rfl ?_
  refine zG (d := 42) rfl rfl rfl rfl ?_
  simp only [Act.put, sa, sz, ss]
  refine zE (zA ?_)
  refine zR (n := 0) ?_
  refine wp_seq ?_
  refine zB 1 [.q (.bool false)] H22 ?ho18 ?he18
  case ho18 => exact ag trivial
  intro _ w23 H23
  clear H22
  refine rN (wp_seq (wp_cond_false rfl ?_))
  refine wp_exit ?_
  repeat refine then_exit ?_
  refine block_exit ?_
  refine zA ?_
  refine zB 4 [.q (.agg (G1 g tn (en u) (en b)).toArray), .q (V [en ((S r).1), en ((S r).2.1), en ((S r).2.2)]), .q (.slice (some ⟨Js3, 0, none⟩) 1 1), .q (.slice (some ⟨Js13, 0, none⟩) 1 1)] H23 ?ho19 ?he19
  case ho19 => exact bT 4 Ai102 As102 (bA 0 3 1 Ai137 As137 (ar (ar trivial)))
  intro _ w24 H24
  clear H23
  refine zF (l := [4, 5]) rfl ?_
  refine rest_enter (d := 59) (R := fun vv w' => vv = V [en ((S (r + 1)).1), en ((S (r + 1)).2.1), en ((S (r + 1)).2.2)] ∧ Mm w' [(Js13, [Value.int .u64 0])] ∧ Kp Js13 w24 w') rfl rfl rfl (exec_call (args := #[.agg (G1 g tn (en u) (en b)).toArray, V [en ((S r).1), en ((S r).2.1), en ((S r).2.2)], .slice (some ⟨Js3, 0, none⟩) 1 1, .slice (some ⟨Js13, 0, none⟩) 1 1]) rfl call122 rfl (mpn rfl)) (Calls.mono (CR.out r hlt Js3 Js13 w24 (H24.out.1.pick [6, 7, 3, 0] rfl (by decide))) (fun e w2 hh => ⟨_, hh.1, rfl, hh.2⟩)) ?_
  rintro _ w25 ⟨rfl, hn, hp⟩
  have H25 : Hid (Mm w25 [(Js13, [Value.int .u64 0]), (J9_2, cel [en ((S r).1), en ((S r).2.1), en ((S r).2.2)]), (J5_3, pc1 x y zb), (Js3, cel (tb1 f)), (J1_0, G1 g tn (en u) (en b)), (J1_1, cel [0, 0, 0]), (g, zQ pB), (0, dtab), (gp, pc1 x y zb), (gn, zC nn)] ∧ Below w.heap.size w w25) := ⟨H24.out.1.change 0 rfl hp hn, Below.kp H24.out.2 hp o_Js13.out H24.out.2.size⟩
  clear hn hp H24
  simp only [Act.put, sa, sz, ss]
  refine sF 1 [en ((S (r + 1)).1), en ((S (r + 1)).2.1), en ((S (r + 1)).2.2)] [_, _, _, _, _, _, _, _, _, _] H25 o9_2 As137 fun w26 H26 => ?_
  clear H25
  refine zE (zK (zA ?_))
  refine zB 2 [.q (.int .i64 ((5 - r : Nat) : Int)), .q (.int .i64 (5 - ((r + 1 : Nat) : Int)))] H26 ?ho20 ?he20
  case ho20 => exact ar (ak (by refine fun J => ⟨rfl, fun w' h => ?_⟩; clear h; go_simp; rw [IntKind.wrap_i64]; omega) trivial)
  intro _ w27 H27
  clear H26
  refine zF (l := [2]) rfl ?_
  refine zG (d := 12) rfl rfl rfl rfl ?_
  simp only [Act.put, sa, sz, ss]
  refine zE (zA ?_)
  exact ⟨r + 1, ⟨(slotfn [ud, ud, ud, ud, ud, ud, ud, ud, ud, ud, ud, ud, ud, .int .i64 0, ud, ud, ud, ud, ud, ud, ud, ud, ud, ud, ud, ud, ud, ud, ud, ud, ud, ud, ud, ud, ud, ud, .int .i64 ((5 - r : Nat) : Int), .bool true, .int .i64 ((5 - r : Nat) : Int), .int .i64 (5 - ((r + 1 : Nat) : Int)), .slice (some ⟨gn, 0, none⟩) 1 1, .int .i64 1, .int .i64 1, .bool false, .int .i64 0, .slice (some ⟨Js13, 0, none⟩) 1 1, .int .i64 0, .slice (some ⟨gn, 0, none⟩) 1 1, .int .i64 0, .int .i64 ((5 - r : Nat) : Int), PT gn 0, PT gn (0 + (5 - r)), .int .u64 (wd nn (5 - r)), PT Js13 0, .int .i64 1, .agg (G1 g tn (en u) (en b)).toArray, V [en ((S r).1), en ((S r).2.1), en ((S r).2.2)], .slice (some ⟨Js3, 0, none⟩) 1 1, .slice (some ⟨Js13, 0, none⟩) 1 1, V [en ((S (r + 1)).1), en ((S (r + 1)).2.1), en ((S (r + 1)).2.2)]]), rfl, ⟨H27.out.1, H27.out.2⟩, by omega⟩, by omega⟩
 have hr6 : r = 6 := by omega
 subst hr6
 refine wp_seq (wp_seq ?_)
 refine zB 2 [.q (.int .i64 (5 - ((6 : Nat) : Int))), .q (.bool false)] H15 ?ho21 ?he21
 case ho21 => exact ar (ak (by refine fun J => ⟨rfl, fun w' h => ?_⟩; clear h; go_simp <;> omega) trivial)
 intro _ w28 H28
 clear H15
 refine rN (wp_cond_false rfl ?_)
 refine wp_exit ?_
 repeat refine then_exit ?_
 refine block_exit ?_
 refine zA (wp_seq ?_)
 refine zB 1 [.q (V [en ((S 6).1), en ((S 6).2.1), en ((S 6).2.2)])] H28 ?ho22 ?he22
 case ho22 => exact bA 0 3 1 Ai137 As137 trivial
 intro _ w29 H29
 clear H28
 refine zF (l := [1]) rfl ?_
 refine sF 5 [en ((S 6).1), en ((S 6).2.1), en ((S 6).2.2)] [_, _, _, _, _, _, _, _, _, _] H29 o1_1 As137 fun w30 H30 => ?_
 clear H29
 refine zE (zA (wp_ret ?_))
 repeat (first | refine zJ ?_ | refine zI ?_)
 have hf0 := cel_var (k := 3) H30.out.1 5 rfl Ai137 As137 rfl
 refine bodyPost_ret (v := V [en ((S 6).1), en ((S 6).2.1), en ((S 6).2.2)]) (by simp [results, Tryz.results103, asAddr, hf0]) rfl ?_
 exact ⟨rfl, H30.out.2⟩
set_option maxHeartbeats 4000000 in
theorem sumY_1 {α : Type} {en : α → Nat} {fa fs fm : α → α → α} {fi : α → α} {z u b : α} {g : Nat} {tn : Value} (_C : Fd1 g en fa fs fm fi z) (O T U : EC.Tri α) (x y r k nn gp gn : Nat) (zb zr : Bool) (ck : ∀ w, Mm w [(g, zQ pB), (0, dtab)] → Calls Tryz.prog 74 #[.agg (G1 g tn (en u) (en b)).toArray, .agg (pc1 x y zb).toArray] w (Rt w (.bool true))) (cz : ∀ w, Mm w [(g, zQ pB), (0, dtab)] → Calls Tryz.prog 102 #[.agg (G1 g tn (en u) (en b)).toArray] w (Rt w (V [en O.1, en O.2.1, en O.2.2]))) (cs : ∀ w, Mm w [(g, zQ pB), (0, dtab), (gp, pc1 x y zb), (gn, zC nn)] → Calls Tryz.prog 103 #[.agg (G1 g tn (en u) (en b)).toArray, .slice (some ⟨gp, 0, none⟩) 1 1, .slice (some ⟨gn, 0, none⟩) 1 1] w (Rt w (V [en T.1, en T.2.1, en T.2.2]))) (ct : ∀ w, Mm w [(g, zQ pB), (0, dtab)] → Calls Tryz.prog 76 #[.agg (G1 g tn (en u) (en b)).toArray, V [en O.1, en O.2.1, en O.2.2], V [en T.1, en T.2.1, en T.2.2]] w (Rt w (V [en U.1, en U.2.1, en U.2.2]))) (cw : ∀ w, Mm w [(g, zQ pB), (0, dtab)] → Calls Tryz.prog 75 #[.agg (G1 g tn (en u) (en b)).toArray, V [en U.1, en U.2.1, en U.2.2]] w (Rt w (.agg (pc1 r k zr).toArray))) (w : World) (hm : Mm w [(g, zQ pB), (0, dtab), (gp, pc1 x y zb), (gn, zC nn)]) :
  Calls Tryz.prog 64 #[.agg (G1 g tn (en u) (en b)).toArray, .slice (some ⟨gp, 0, none⟩) 1 1, .slice (some ⟨gn, 0, none⟩) 1 1] w (Rt w (.tuple #[.agg (pc1 r k zr).toArray, .int .i64 0])) := by
 have H0 : Hid (_ ∧ _) := ⟨hm, Below.refl w.heap.size w⟩
 clear hm
 have CK : Hid _ := ck
 clear ck
 have CZ : Hid _ := cz
 clear cz
 have CS : Hid _ := cs
 clear cs
 have CT : Hid _ := ct
 clear ct
 have CW : Hid _ := cw
 clear cw
 go_enter Tryz.func64, Tryz.ntmps64
 refine wp_seq ?_
 refine zD 3 [.made (G1 g tn (en u) (en b)) 102, .made (pc1 0 0 false) 95, .q (.int .i64 0)] (sB H0) ?ho1 ?he1
 case ho1 => exact am (zN rfl rfl) (am (ex_madePN rfl) (ar trivial))
 intro J w1 l hM hl
 have H1 : Hid (Mm w1 ([(J 0, G1 g tn (en u) (en b)), (J 1, pc1 0 0 false)] ++ _) ∧ _) := wB H0 hM hl [0, 1]
 have o1_0 := vB H0 hM hl 0
 have o1_1 := vB H0 hM hl 1
 clear hM hl l
 generalize J 0 = J1_0 at H1 o1_0 ⊢
 generalize J 1 = J1_1 at H1 o1_1 ⊢
 clear J
 refine rN (wp_seq (wp_seq ?_))
 refine zB 5 [.q (.slice (some ⟨gp, 0, none⟩) 1 1), .q (.int .i64 1), .q (.slice (some ⟨gn, 0, none⟩) 1 1), .q (.int .i64 1), .q (.bool false)] H1 ?ho2 ?he2
 case ho2 => exact ar (ag (ar (ag (ag trivial))))
 intro _ w2 H2
 clear H1
 refine rN (wp_cond_false rfl ?_)
 refine wp_skip (zA ?_)
 refine wp_seq (wp_seq ?_)
 refine zB 3 [.q (.slice (some ⟨gp, 0, none⟩) 1 1), .q (.int .i64 1), .q (.int .i64 0)] H2 ?ho3 ?he3
 case ho3 => exact ar (ag (ar trivial))
 intro _ w3 H3
 clear H2
 refine rN (wp_block ?_)
 refine wp_loop_rounds 2 ?_
 refine zR (n := 1) ?_
 refine wp_seq ?_
 refine zB 1 [.q (.bool true)] H3 ?ho4 ?he4
 case ho4 => exact ag trivial
 intro _ w4 H4
 clear H3
 refine rN (wp_seq ?_)
 refine wp_cond_true rfl (wp_skip ?_)
 refine zA (wp_seq ?_)
 refine wp_block (wp_seq ?_)
 refine zD 4 [.q (PT gp 0), .q (.agg (pc1 x y zb).toArray), .made (pc1 0 0 false) 95, .laid 2 (pc1 0 0 false) (pc1 x y zb)] (sB H4) ?ho5 ?he5 (hL := ?hL5)
 case hL5 => exact ⟨⟨_, rfl⟩, trivial⟩
 case ho5 => exact ag (bT 4 Ai95 As95 (am (ex_madePN rfl) (ak (fun J => ⟨rfl, rfl, rfl, fun w' h => ex_laidT h rfl rfl As95 rfl rfl rfl⟩) trivial)))
 intro J w5 l hM hl
 have H5 : Hid (Mm w5 ([(J 2, pc1 x y zb)] ++ _) ∧ _) := wB H4 hM hl [2]
 have o5_2 := vB H4 hM hl 2
 clear hM hl l H4
 generalize J 2 = J5_2 at H5 o5_2 ⊢
 clear J
 refine rN (wp_seq ?_)
 refine zB 4 [.q (.agg (G1 g tn (en u) (en b)).toArray), .q (.agg (pc1 x y zb).toArray), .call (.bool true), .q (.bool false)] H5 ?ho6 ?he6
 case ho6 => exact bT 1 Ai102 As102 (bT 0 Ai95 As95 (ac (fun w' h => eC call74 (CK.out w' (h.two 3 4 rfl rfl (by decide)))) (ag trivial)))
 intro _ w6 H6
 clear H5
 refine rN (wp_cond_false rfl ?_)
 refine wp_skip (zK (zA ?_))
 refine zB 1 [.q (.int .i64 1)] H6 ?ho7 ?he7
 case ho7 => exact av trivial
 intro _ w7 H7
 clear H6
 refine zF (l := [1]) rfl ?_
 refine zG (d := 21) rfl rfl rfl rfl ?_
 simp only [Act.put, sa, sz, ss]
 refine zE (zA ?_)
 refine zR (n := 0) ?_
 refine wp_seq ?_
 refine zB 1 [.q (.bool false)] H7 ?ho8 ?he8
 case ho8 => exact ag trivial
 intro _ w8 H8
 clear H7
 refine rN (wp_seq (wp_cond_false rfl ?_))
 refine wp_exit ?_
 repeat refine then_exit ?_
 refine block_exit ?_
 refine zA (wp_seq ?_)
 refine zD 4 [.q (.agg (G1 g tn (en u) (en b)).toArray), .call (V [en O.1, en O.2.1, en O.2.2]), .made (cel [0, 0, 0]) 137, .laid 2 (cel [0, 0, 0]) (cel [en O.1, en O.2.1, en O.2.2])] (sB H8) ?ho9 ?he9 (hL := ?hL9)
 case hL9 => exact ⟨⟨_, rfl⟩, trivial⟩
 case ho9 => exact bT 1 Ai102 As102 (ac (fun w' h => eC call102 (CZ.out w' (h.two 3 4 rfl rfl (by decide)))) (am (ex_madeTN rfl) (ak (fun J => ⟨rfl, rfl, rfl, fun w' h => ex_laidA h rfl As137 rfl rfl rfl⟩) trivial)))
 intro J w9 l hM hl
 have H9 : Hid (Mm w9 ([(J 2, cel [en O.1, en O.2.1, en O.2.2])] ++ _) ∧ _) := wB H8 hM hl [2]
 have o9_2 := vB H8 hM hl 2
 clear hM hl l H8
 generalize J 2 = J9_2 at H9 o9_2 ⊢
 clear J
 refine rN (wp_seq (wp_seq ?_))
 refine zB 1 [.q (.int .i64 0)] H9 ?ho10 ?he10
 case ho10 => exact ar trivial
 intro _ w10 H10
 clear H9
 refine rN (wp_block ?_)
 refine wp_loop_rounds 2 ?_
 refine zR (n := 1) ?_
 refine wp_seq (wp_seq ?_)
 refine zB 4 [.q (.int .i64 0), .q (.slice (some ⟨gp, 0, none⟩) 1 1), .q (.int .i64 1), .q (.bool true)] H10 ?ho11 ?he11
 case ho11 => exact ar (ar (ag (ag trivial)))
 intro _ w11 H11
 clear H10
 refine rN (wp_cond_true rfl ?_)
 refine wp_skip (zA ?_)
 refine wp_seq (wp_block (wp_seq ?_))
 refine zB 6 [.q (.int .i64 0), .q (.int .i64 32), .q (.slice (some ⟨gp, 0, none⟩) 1 1), .q (.int .i64 1), .q (.int .i64 1), .q (.int .i64 1)] H11 ?ho12 ?he12
 case ho12 => exact ar (av (ar (ag (ak (by refine fun J => ⟨rfl, fun w' h => ?_⟩; clear h; go_simp; rfl) (ar trivial)))))
 intro _ w12 H12
 clear H11
 refine rN ?_
 refine zP 13 [.q (.agg (G1 g tn (en u) (en b)).toArray), .q (V [en O.1, en O.2.1, en O.2.2]), .q (.agg (G1 g tn (en u) (en b)).toArray), .q (.slice (some ⟨gp, 0, none⟩) 1 1), .q (.int .i64 0), .q (.int .i64 1), .q (.slice (some ⟨gp, 0, none⟩) 1 1), .q (.slice (some ⟨gn, 0, none⟩) 1 1), .q (.int .i64 0), .q (.int .i64 1), .q (.slice (some ⟨gn, 0, none⟩) 1 1), .call (V [en T.1, en T.2.1, en T.2.2]), .call (V [en U.1, en U.2.1, en U.2.2])] H12 ?ho13 ?he13
 case ho13 => exact bT 2 Ai102 As102 (bA 0 3 0 Ai137 As137 (bT 2 Ai102 As102 (ar (ar (ar (ak (fun J => ⟨rfl, fun w' _ => ex_slice129 rfl rfl rfl rfl⟩) (ar (ar (ar (ak (fun J => ⟨rfl, fun w' _ => ex_slice73 rfl rfl rfl rfl⟩) (ac (fun w' h => eC call103 (CS.out w' (h.pick [4, 5, 6, 7] rfl (by decide)))) (ac (fun w' h => eC call76 (CT.out w' (h.two 4 5 rfl rfl (by decide)))) trivial))))))))))))
 intro _ w13 H13
 clear H12
 refine zF (l := [13]) rfl ?_
 refine sF 0 [en U.1, en U.2.1, en U.2.2] [_, _, _, _, _, _, _, _] H13 o9_2 As137 fun w14 H14 => ?_
 clear H13
 refine zE (zK (zA ?_))
 refine zB 2 [.q (.int .i64 0), .q (.int .i64 32)] H14 ?ho14 ?he14
 case ho14 => exact ar (av trivial)
 intro _ w15 H15
 clear H14
 refine zF (l := [2]) rfl ?_
 refine zG (d := 11) rfl rfl rfl rfl ?_
 simp only [Act.put, sa, sz, ss]
 refine zE (zA ?_)
 refine zR (n := 0) ?_
 refine wp_seq (wp_seq ?_)
 refine zB 4 [.q (.int .i64 32), .q (.slice (some ⟨gp, 0, none⟩) 1 1), .q (.int .i64 1), .q (.bool false)] H15 ?ho15 ?he15
 case ho15 => exact ar (ar (ag (ag trivial)))
 intro _ w16 H16
 clear H15
 refine rN (wp_cond_false rfl ?_)
 refine wp_exit ?_
 repeat refine then_exit ?_
 refine block_exit ?_
 refine zA (wp_seq ?_)
 refine zB 3 [.q (.agg (G1 g tn (en u) (en b)).toArray), .q (V [en U.1, en U.2.1, en U.2.2]), .call (.agg (pc1 r k zr).toArray)] H16 ?ho16 ?he16
 case ho16 => exact bT 2 Ai102 As102 (bA 0 3 0 Ai137 As137 (ac (fun w' h => eC call75 (CW.out w' (h.two 4 5 rfl rfl (by decide)))) trivial))
 intro _ w17 H17
 clear H16
 refine zF (l := [3, 4]) rfl ?_
 refine sG rfl (fun h => ex_storeT (vs := pc1 r k zr) h 3 rfl rfl rfl rfl As95 rfl (Nat.le_of_ble_eq_true rfl)) 3 [_, _, _, (_, pc1 r k zr), _, _, _, _] H17 o1_1 fun w18 H18 => ?_
 clear H17
 refine zG (d := 7) rfl rfl rfl rfl ?_
 simp only [Act.put, sa, sz, ss]
 refine zE (zA (wp_ret ?_))
 repeat (first | refine zJ ?_ | refine zI ?_)
 have hf0 := var_T H18.out.1 3 rfl Ai95 As95 rfl
 refine bodyPost_ret (v := .tuple #[.agg (pc1 r k zr).toArray, .int .i64 0]) (by simp [results, Tryz.results64, asAddr, Act.eval, hf0]) rfl ?_
 exact ⟨rfl, H18.out.2⟩
set_option maxHeartbeats 4000000 in
theorem Sum_1 (one four x y r k nn gl gn : Nat) (zb zr : Bool) (er : Int) (cf : ∀ w, Calls Tryz.prog 47 #[] w fun e w' => Below w.heap.size w w' ∧ ∃ g x y, e = .returned (.agg (G1 g (.func (.func 73) #[] #[PT x 0, PT y 0]) one four).toArray) ∧ w.heap.size ≤ g ∧ g < w'.heap.size ∧ Blk w' g (zQ pB)) (cs : ∀ g tn gp w, Mm w [(g, zQ pB), (0, dtab), (gp, pc1 x y zb), (gn, zC nn)] → Calls Tryz.prog 64 #[(.agg (G1 g tn one four).toArray), .slice (some ⟨gp, 0, none⟩) 1 1, .slice (some ⟨gn, 0, none⟩) 1 1] w (Rt w (.tuple #[.agg (pc1 r k zr).toArray, .int .i64 er]))) (w : World) (hm : Mm w [(0, dtab), (gl, pc1 x y zb), (gn, zC nn)]) :
  Calls Tryz.prog 43 #[.slice (some ⟨gl, 0, none⟩) 1 1, .slice (some ⟨gn, 0, none⟩) 1 1] w (Rt w (.tuple #[.agg (pc1 r k zr).toArray, .int .i64 er])) := by
 have H0 : Hid (_ ∧ _) := ⟨hm, Below.refl w.heap.size w⟩
 clear hm
 have CF : Hid _ := cf
 clear cf
 have CS : Hid _ := cs
 clear cs
 go_enter Tryz.func43, Tryz.ntmps43
 refine wp_seq ?_
 refine zD 2 [.made (pc1 0 0 false) 33, .q (.int .i64 0)] (sB H0) ?ho1 ?he1
 case ho1 => exact am (ex_madeP1 rfl) (ar trivial)
 intro J w1 l hM hl
 have H1 : Hid (Mm w1 ([(J 0, pc1 0 0 false)] ++ _) ∧ _) := wB H0 hM hl [0]
 have o1_0 := vB H0 hM hl 0
 clear hM hl l
 generalize J 0 = J1_0 at H1 o1_0 ⊢
 clear J
 refine rN (wp_seq ?_)
 refine zB 2 [.q (.slice (some ⟨gl, 0, none⟩) 1 1), .q (.int .i64 1)] H1 ?ho2 ?he2
 case ho2 => exact ar (ag trivial)
 intro _ w2 H2
 clear H1
 refine zF (l := [2, 3]) rfl ?_
 refine zG (d := 13) (v := .slice (some ⟨w2.heap.size, 0, none⟩) 1 1) (w' := w2.alloc (.cells (pc1 0 0 false : List Value).toArray 95)) rfl rfl rfl (ex_mkPN rfl rfl rfl) ?_
 simp only [Act.put, sa, sz, ss]
 have o_Js3 : Hid (w.heap.size ≤ w2.heap.size) := H2.out.2.size
 have H3 : Hid (Mm (w2.alloc (.cells (pc1 0 0 false : List Value).toArray 95)) ((w2.heap.size, pc1 0 0 false) :: [(J1_0, pc1 0 0 false), (0, dtab), (gl, pc1 x y zb), (gn, zC nn)]) ∧ Below w.heap.size w (w2.alloc (.cells (pc1 0 0 false : List Value).toArray 95))) := ⟨H2.out.1.alloc _ 95 rfl, H2.out.2.alloc H2.out.2.size _⟩
 clear H2
 generalize hgw : w2.alloc (.cells (pc1 0 0 false : List Value).toArray 95) = w3 at H3 ⊢
 clear hgw
 generalize w2.heap.size = Js3 at o_Js3 H3 ⊢
 refine zG (d := 6) rfl rfl rfl rfl ?_
 simp only [Act.put, sa, sz, ss]
 refine zE (zA ?_)
 refine wp_seq (wp_seq ?_)
 refine zB 3 [.q (.slice (some ⟨gl, 0, none⟩) 1 1), .q (.int .i64 1), .q (.int .i64 0)] H3 ?ho3 ?he3
 case ho3 => exact ar (ag (ar trivial))
 intro _ w4 H4
 clear H3
 refine rN (wp_block ?_)
 refine wp_loop_rounds 2 ?_
 refine zR (n := 1) ?_
 refine wp_seq ?_
 refine zB 1 [.q (.bool true)] H4 ?ho4 ?he4
 case ho4 => exact ag trivial
 intro _ w5 H5
 clear H4
 refine rN (wp_seq ?_)
 refine wp_cond_true rfl (wp_skip ?_)
 refine zA (wp_seq ?_)
 refine wp_block (wp_seq ?_)
 refine zD 6 [.q (.int .i64 0), .q (PT gl 0), .q (.agg (pc1 x y zb).toArray), .made (pc1 0 0 false) 33, .q (.int .i64 0), .laid 3 (pc1 0 0 false) (pc1 x y zb)] (sB H5) ?ho5 ?he5 (hL := ?hL5)
 case hL5 => exact ⟨⟨_, rfl⟩, trivial⟩
 case ho5 => exact ar (ag (bT 3 Ai33 As33 (am (ex_madeP1 rfl) (ar (ak (fun J => ⟨rfl, rfl, rfl, fun w' h => ex_laidT h rfl rfl As33 rfl rfl rfl⟩) trivial)))))
 intro J w6 l hM hl
 have H6 : Hid (Mm w6 ([(J 3, pc1 x y zb)] ++ _) ∧ _) := wB H5 hM hl [3]
 have o5_3 := vB H5 hM hl 3
 clear hM hl l H5
 generalize J 3 = J5_3 at H6 o5_3 ⊢
 clear J
 refine rN ?_
 refine zB 4 [.q (.slice (some ⟨Js3, 0, none⟩) 1 1), .q (.int .i64 0), .q (.agg (pc1 x y zb).toArray), .q (PT Js3 0)] H6 ?ho6 ?he6
 case ho6 => exact ar (ar (bT 0 Ai33 As33 (ag trivial)))
 intro _ w7 H7
 clear H6
 refine zF (l := [4]) rfl ?_
 refine sG rfl (fun h => ex_storeT (vs := pc1 x y zb) h 1 rfl rfl rfl rfl As95 rfl (Nat.le_of_ble_eq_true rfl)) 1 [_, (_, pc1 x y zb), _, _, _, _] H7 o_Js3 fun w8 H8 => ?_
 clear H7
 refine zE (zK (zA ?_))
 refine zB 1 [.q (.int .i64 1)] H8 ?ho7 ?he7
 case ho7 => exact av trivial
 intro _ w9 H9
 clear H8
 refine zF (l := [1]) rfl ?_
 refine zG (d := 16) rfl rfl rfl rfl ?_
 simp only [Act.put, sa, sz, ss]
 refine zE (zA ?_)
 refine zR (n := 0) ?_
 refine wp_seq ?_
 refine zB 1 [.q (.bool false)] H9 ?ho8 ?he8
 case ho8 => exact ag trivial
 intro _ w10 H10
 clear H9
 refine rN (wp_seq (wp_cond_false rfl ?_))
 refine wp_exit ?_
 repeat refine then_exit ?_
 refine block_exit ?_
 refine zA (wp_seq ?_)
 refine zD 10 [.bornX (fun g x y => .agg (G1 g (.func (.func 73) #[] #[PT x 0, PT y 0]) one four).toArray) (zQ pB), .q (.slice (some ⟨Js3, 0, none⟩) 1 1), .q (.slice (some ⟨gn, 0, none⟩) 1 1), .over (.tuple #[.agg (pc1 r k zr).toArray, .int .i64 er]) 0 (zQ pB), .q (.tuple #[.agg (pc1 r k zr).toArray, .int .i64 er]), .q (.agg (pc1 r k zr).toArray), .q (.int .i64 er), .made (pc1 0 0 false) 95, .laid 7 (pc1 0 0 false) (pc1 r k zr), .q (.int .i64 er)] (sB H10) ?ho9 ?he9 (hL := ?hL9)
 case hL9 => exact ⟨⟨_, rfl⟩, ⟨_, rfl⟩, trivial⟩
 case ho9 => exact ak (fun J => ⟨rfl, fun w' h => eC call47 (CF.out w')⟩) (ar (ar (ak (fun J => ⟨rfl, fun u w' h0 hge h1 hb hlt => by have h := Mm.over h0 hge h1 hb hlt; exact eC call64 (CS.out _ _ _ w' (h.pick [0, 4, 2, 6] rfl (by decide)))⟩) (ar (ag (ag (am (ex_madePN rfl) (ak (fun J => ⟨rfl, rfl, rfl, fun w' h => ex_laidT h rfl rfl As95 rfl rfl rfl⟩) (ar trivial)))))))))
 intro J w11 l hM hl
 have H11 : Hid (Mm w11 ([(J 0, zQ pB), (J 7, pc1 r k zr)] ++ _) ∧ _) := wB H10 hM hl [0, 7]
 have o9_0 := vB H10 hM hl 0
 have o9_7 := vB H10 hM hl 7
 clear hM hl l H10
 generalize J 0 = J9_0 at H11 o9_0 ⊢
 generalize J 7 = J9_7 at H11 o9_7 ⊢
 generalize J 65536 = J9_65536
 generalize J 131072 = J9_131072
 clear J
 refine rN (wp_seq ?_)
 refine zB 2 [.q (.agg (pc1 r k zr).toArray), .q (.int .i64 er)] H11 ?ho10 ?he10
 case ho10 => exact bT 1 Ai95 As95 (ar trivial)
 intro _ w12 H12
 clear H11
 refine zF (l := [2, 3]) rfl ?_
 refine sG rfl (fun h => ex_storeT (vs := pc1 r k zr) h 4 rfl rfl rfl rfl As33 rfl (Nat.le_of_ble_eq_true rfl)) 4 [_, _, _, _, (_, pc1 r k zr), _, _, _] H12 o1_0 fun w13 H13 => ?_
 clear H12
 refine zG (d := 5) rfl rfl rfl rfl ?_
 simp only [Act.put, sa, sz, ss]
 refine zE (zA (wp_ret ?_))
 repeat (first | refine zJ ?_ | refine zI ?_)
 have hf0 := var_T H13.out.1 4 rfl Ai33 As33 rfl
 refine bodyPost_ret (v := .tuple #[.agg (pc1 r k zr).toArray, .int .i64 er]) (by simp [results, Tryz.results43, asAddr, Act.eval, hf0]) rfl ?_
 exact ⟨rfl, H13.out.2⟩
set_option maxHeartbeats 4000000 in
theorem Mul_1 (x y r k nn : Nat) (zb zr : Bool) (er : Int) (cs : ∀ gl gn w, Mm w [(0, dtab), (gl, pc1 x y zb), (gn, zC nn)] → Calls Tryz.prog 43 #[.slice (some ⟨gl, 0, none⟩) 1 1, .slice (some ⟨gn, 0, none⟩) 1 1] w (Rt w (.tuple #[.agg (pc1 r k zr).toArray, .int .i64 er]))) (w : World) (hm : Mm w [(0, dtab)]) :
  Calls Tryz.prog 25 #[.agg (pc1 x y zb).toArray, N nn] w (Rt w (.tuple #[.agg (pc1 r k zr).toArray, .int .i64 er])) := by
 have H0 : Hid (_ ∧ _) := ⟨hm, Below.refl w.heap.size w⟩
 clear hm
 have CS : Hid _ := cs
 clear cs
 go_enter Tryz.func25, Tryz.ntmps25
 refine wp_seq ?_
 refine zD 4 [.made (pc1 x y zb) 33, .made (zC nn) 24, .made (pc1 0 0 false) 33, .q (.int .i64 0)] (sB H0) ?ho1 ?he1
 case ho1 => exact am (zN rfl rfl) (am (ex_box6 rfl rfl) (am (ex_madeP1 rfl) (ar trivial)))
 intro J w1 l hM hl
 have H1 : Hid (Mm w1 ([(J 0, pc1 x y zb), (J 1, zC nn), (J 2, pc1 0 0 false)] ++ _) ∧ _) := wB H0 hM hl [0, 1, 2]
 have o1_0 := vB H0 hM hl 0
 have o1_1 := vB H0 hM hl 1
 have o1_2 := vB H0 hM hl 2
 clear hM hl l
 generalize J 0 = J1_0 at H1 o1_0 ⊢
 generalize J 1 = J1_1 at H1 o1_1 ⊢
 generalize J 2 = J1_2 at H1 o1_2 ⊢
 clear J
 refine rN (wp_seq ?_)
 refine zB 1 [.q (.agg (pc1 x y zb).toArray)] H1 ?ho2 ?he2
 case ho2 => exact bT 0 Ai33 As33 trivial
 intro _ w2 H2
 clear H1
 refine zF (l := [1, 2, 3, 4, 5, 6, 7, 8]) rfl ?_
 refine zG (d := 7) (v := .slice (some ⟨w2.heap.size, 0, none⟩) 1 1) (w' := w2.alloc (.cells (pc1 x y zb : List Value).toArray 33)) rfl rfl rfl (ex_bs89 rfl rfl) ?_
 simp only [Act.put, sa, sz, ss]
 have o_Js3 : Hid (w.heap.size ≤ w2.heap.size) := H2.out.2.size
 have H3 : Hid (Mm (w2.alloc (.cells (pc1 x y zb : List Value).toArray 33)) ((w2.heap.size, pc1 x y zb) :: [(J1_0, pc1 x y zb), (J1_1, zC nn), (J1_2, pc1 0 0 false), (0, dtab)]) ∧ Below w.heap.size w (w2.alloc (.cells (pc1 x y zb : List Value).toArray 33))) := ⟨H2.out.1.alloc _ 33 rfl, H2.out.2.alloc H2.out.2.size _⟩
 clear H2
 generalize hgw : w2.alloc (.cells (pc1 x y zb : List Value).toArray 33) = w3 at H3 ⊢
 clear hgw
 generalize w2.heap.size = Js3 at o_Js3 H3 ⊢
 refine zG (d := 8) (v := N nn) rfl rfl rfl (zU H3.out.1 2 rfl rfl rfl rfl) ?_
 simp only [Act.put, sa, sz, ss]
 refine zG (d := 9) (v := .slice (some ⟨w3.heap.size, 0, none⟩) 1 1) (w' := w3.alloc (.cells (zC nn : List Value).toArray 24)) rfl rfl rfl (ex_bs73 rfl rfl) ?_
 simp only [Act.put, sa, sz, ss]
 have o_Js4 : Hid (w.heap.size ≤ w3.heap.size) := H3.out.2.size
 have H4 : Hid (Mm (w3.alloc (.cells (zC nn : List Value).toArray 24)) ((w3.heap.size, zC nn) :: [(Js3, pc1 x y zb), (J1_0, pc1 x y zb), (J1_1, zC nn), (J1_2, pc1 0 0 false), (0, dtab)]) ∧ Below w.heap.size w (w3.alloc (.cells (zC nn : List Value).toArray 24))) := ⟨H3.out.1.alloc _ 24 rfl, H3.out.2.alloc H3.out.2.size _⟩
 clear H3
 generalize hgw : w3.alloc (.cells (zC nn : List Value).toArray 24) = w4 at H4 ⊢
 clear hgw
 generalize w3.heap.size = Js4 at o_Js4 H4 ⊢
 refine rest_enter (d := 10) (R := fun vv w' => vv = .tuple #[.agg (pc1 r k zr).toArray, .int .i64 er] ∧ Below w4.heap.size w4 w') rfl rfl rfl (exec_call (args := #[.slice (some ⟨Js3, 0, none⟩) 1 1, .slice (some ⟨Js4, 0, none⟩) 1 1]) rfl call43 rfl (mpn rfl)) (Calls.mono (CS.out _ _ w4 (H4.out.1.pick [5, 1, 0] rfl (by decide))) (fun e w2 hh => ⟨_, hh.1, rfl, hh.2⟩)) ?_
 rintro _ w5 ⟨rfl, hb⟩
 have H5 : Hid (_ ∧ _) := ⟨H4.out.1.below hb, H4.out.2.trans (hb.mono H4.out.2.size)⟩
 clear hb H4
 simp only [Act.put, sa, sz, ss]
 refine zG (d := 11) (v := .agg (pc1 r k zr).toArray) (w' := w5) rfl rfl rfl (by go_simp) ?_
 simp only [Act.put, sa, sz, ss]
 refine zG (d := 12) (v := .int .i64 er) (w' := w5) rfl rfl rfl (by go_simp) ?_
 simp only [Act.put, sa, sz, ss]
 refine sG rfl (fun h => ex_storeT (vs := pc1 r k zr) h 4 rfl rfl rfl rfl As33 rfl (Nat.le_of_ble_eq_true rfl)) 4 [_, _, _, _, (_, pc1 r k zr), _] H5 o1_2 fun w6 H6 => ?_
 clear H5
 refine zG (d := 5) rfl rfl rfl rfl ?_
 simp only [Act.put, sa, sz, ss]
 refine zE (zA (wp_ret ?_))
 repeat (first | refine zJ ?_ | refine zI ?_)
 have hf0 := var_T H6.out.1 4 rfl Ai33 As33 rfl
 refine bodyPost_ret (v := .tuple #[.agg (pc1 r k zr).toArray, .int .i64 er]) (by simp [results, Tryz.results25, asAddr, Act.eval, hf0]) rfl ?_
 exact ⟨rfl, H6.out.2⟩
end Rg
end Go.Proofs.YtahgdighnlekdaaGreatDoor
end
section
namespace Go.Proofs.YtahgdighnlekdaaGreatDoor
open Go.RowKit
namespace Rg
open NT
def dgt (v k : Nat) : Nat := v * 16 ^ k % 18446744073709551616 / 1152921504606846976
def wof (v k : Nat) : Int := ((v * 16 ^ k % 18446744073709551616 : Nat) : Int)
theorem dgt_lt (v k : Nat) : dgt v k < 16 := by
 unfold dgt
 have := Nat.mod_lt (v * 16 ^ k) (show 0 < 18446744073709551616 by decide)
 omega
theorem wof_0 {v : Nat} (h : v < 18446744073709551616) : wof v 0 = ((v : Nat) : Int) := by
 unfold wof
 rw [Nat.pow_zero, Nat.mul_one, Nat.mod_eq_of_lt h]
theorem wof_16 (v : Nat) : wof v 16 = 0 := by
 unfold wof
 rw [show (16 : Nat) ^ 16 = 18446744073709551616 by decide, Nat.mul_mod_left]
 rfl
theorem wof_d (v k : Nat) : wof v k / 2 ^ 60 = ((dgt v k : Nat) : Int) := by
 unfold wof dgt
 rw [show (2 : Int) ^ 60 = ((1152921504606846976 : Nat) : Int) by decide, ← Int.natCast_ediv]
theorem wof_w (v k : Nat) : IntKind.u64.wrap (wof v k * 2 ^ 4) = wof v (k + 1) := by
 unfold wof
 rw [IntKind.wrap_u64, Nat.pow_succ, ← Nat.mul_assoc, show (2 : Int) ^ 4 = ((16 : Nat) : Int) by decide, ← Int.natCast_mul, show (18446744073709551616 : Int) = ((18446744073709551616 : Nat) : Int) from rfl, ← Int.natCast_emod, Nat.mod_mul_mod]
theorem hi_next (v k : Nat) : v * 16 ^ (k + 1) / 18446744073709551616 = 16 * (v * 16 ^ k / 18446744073709551616) + dgt v k := by
 unfold dgt
 rw [Nat.pow_succ, ← Nat.mul_assoc]
 generalize v * 16 ^ k = X
 omega
theorem hi_word (nn j : Nat) : nn / 2 ^ (64 * (j + 1)) * 18446744073709551616 + wn nn j = nn / 2 ^ (64 * j) := by
 unfold wn
 rw [Nat.mul_add, Nat.pow_add, ← Nat.div_div_eq_div_mul]
 generalize nn / 2 ^ (64 * j) = X
 rw [show 2 ^ (64 * 1) = 18446744073709551616 by decide]
 omega
theorem hi_top {nn : Nat} (h : nn < big) : nn / 2 ^ (64 * (6 - 0)) = 0 := by
 obtain ⟨m, hm, hb⟩ := big_pow
 rw [show 6 - 0 = m by omega, ← hb]
 exact Nat.div_eq_of_lt h
def tab1 {I : Fp → Fp} (hI : Inv1 I) (P : Option (Fp × Fp)) : Nat → EC.Tri Fp
 | 0 => (K1 hI).lift none
 | 1 => (K1 hI).lift P
 | 2 => (K1 hI).twice ((K1 hI).lift P)
 | 3 => (K1 hI).tog ((K1 hI).twice ((K1 hI).lift P)) ((K1 hI).lift P)
 | 4 => (K1 hI).twice ((K1 hI).twice ((K1 hI).lift P))
 | 5 => (K1 hI).tog ((K1 hI).twice ((K1 hI).twice ((K1 hI).lift P))) ((K1 hI).lift P)
 | 6 => (K1 hI).twice ((K1 hI).tog ((K1 hI).twice ((K1 hI).lift P)) ((K1 hI).lift P))
 | 7 => (K1 hI).tog ((K1 hI).twice ((K1 hI).tog ((K1 hI).twice ((K1 hI).lift P)) ((K1 hI).lift P))) ((K1 hI).lift P)
 | 8 => (K1 hI).twice ((K1 hI).twice ((K1 hI).twice ((K1 hI).lift P)))
 | 9 => (K1 hI).tog ((K1 hI).twice ((K1 hI).twice ((K1 hI).twice ((K1 hI).lift P)))) ((K1 hI).lift P)
 | 10 => (K1 hI).twice ((K1 hI).tog ((K1 hI).twice ((K1 hI).twice ((K1 hI).lift P))) ((K1 hI).lift P))
 | 11 => (K1 hI).tog ((K1 hI).twice ((K1 hI).tog ((K1 hI).twice ((K1 hI).twice ((K1 hI).lift P))) ((K1 hI).lift P))) ((K1 hI).lift P)
 | 12 => (K1 hI).twice ((K1 hI).twice ((K1 hI).tog ((K1 hI).twice ((K1 hI).lift P)) ((K1 hI).lift P)))
 | 13 => (K1 hI).tog ((K1 hI).twice ((K1 hI).twice ((K1 hI).tog ((K1 hI).twice ((K1 hI).lift P)) ((K1 hI).lift P)))) ((K1 hI).lift P)
 | 14 => (K1 hI).twice ((K1 hI).tog ((K1 hI).twice ((K1 hI).tog ((K1 hI).twice ((K1 hI).lift P)) ((K1 hI).lift P))) ((K1 hI).lift P))
 | 15 => (K1 hI).tog ((K1 hI).twice ((K1 hI).tog ((K1 hI).twice ((K1 hI).tog ((K1 hI).twice ((K1 hI).lift P)) ((K1 hI).lift P))) ((K1 hI).lift P))) ((K1 hI).lift P)
 | _ => (K1 hI).lift none
def fn1 {I : Fp → Fp} (hI : Inv1 I) (P : Option (Fp × Fp)) (k : Nat) : Nat :=
 match k % 3 with
 | 0 => p0 (tab1 hI P (k / 3)).1
 | 1 => p0 (tab1 hI P (k / 3)).2.1
 | _ => p0 (tab1 hI P (k / 3)).2.2
theorem fn1_0 {I : Fp → Fp} (hI : Inv1 I) (P : Option (Fp × Fp)) (d : Nat) : fn1 hI P (3 * d) = p0 (tab1 hI P d).1 := by
 unfold fn1
 rw [show (3 * d) % 3 = 0 by omega, show (3 * d) / 3 = d by omega]
 rfl
theorem fn1_1 {I : Fp → Fp} (hI : Inv1 I) (P : Option (Fp × Fp)) (d : Nat) : fn1 hI P (3 * d + 1) = p0 (tab1 hI P d).2.1 := by
 unfold fn1
 rw [show (3 * d + 1) % 3 = 1 by omega, show (3 * d + 1) / 3 = d by omega]
 rfl
theorem fn1_2 {I : Fp → Fp} (hI : Inv1 I) (P : Option (Fp × Fp)) (d : Nat) : fn1 hI P (3 * d + 2) = p0 (tab1 hI P d).2.2 := by
 unfold fn1
 rw [show (3 * d + 2) % 3 = 2 by omega, show (3 * d + 2) / 3 = d by omega]
 rfl
theorem tabrep1 {I : Fp → Fp} (hI : Inv1 I) {P : Option (Fp × Fp)} (h : (K1 hI).on P) : ∀ j, j < 16 → (K1 hI).rep (tab1 hI P j) ((K1 hI).times P j) := by
 have o := fun k => (K1 hI).times_on h k
 have rp : (K1 hI).rep ((K1 hI).lift P) P := (K1 hI).rep_lift P
 have r1 : (K1 hI).rep ((K1 hI).lift P) ((K1 hI).times P 1) := by rw [(K1 hI).times_one h]; exact rp
 have two : ∀ k (A : EC.Tri Fp), (K1 hI).rep A ((K1 hI).times P k) → (K1 hI).rep ((K1 hI).twice A) ((K1 hI).times P (2 * k)) := fun k A hk => by
  rw [← (K1 hI).times_two h]
  exact (K1 hI).rep_twice hk (o k)
 have odd : ∀ k (A : EC.Tri Fp), (K1 hI).rep A ((K1 hI).times P k) → (K1 hI).rep ((K1 hI).tog A ((K1 hI).lift P)) ((K1 hI).times P (k + 1)) := fun k A hk => (K1 hI).rep_tog hk rp (o k) h
 have r2 : (K1 hI).rep (tab1 hI P 2) ((K1 hI).times P 2) := two 1 _ r1
 have r3 : (K1 hI).rep (tab1 hI P 3) ((K1 hI).times P 3) := odd 2 _ r2
 have r4 : (K1 hI).rep (tab1 hI P 4) ((K1 hI).times P 4) := two 2 _ r2
 have r5 : (K1 hI).rep (tab1 hI P 5) ((K1 hI).times P 5) := odd 4 _ r4
 have r6 : (K1 hI).rep (tab1 hI P 6) ((K1 hI).times P 6) := two 3 _ r3
 have r7 : (K1 hI).rep (tab1 hI P 7) ((K1 hI).times P 7) := odd 6 _ r6
 have r8 : (K1 hI).rep (tab1 hI P 8) ((K1 hI).times P 8) := two 4 _ r4
 have r9 : (K1 hI).rep (tab1 hI P 9) ((K1 hI).times P 9) := odd 8 _ r8
 have r10 : (K1 hI).rep (tab1 hI P 10) ((K1 hI).times P 10) := two 5 _ r5
 have r11 : (K1 hI).rep (tab1 hI P 11) ((K1 hI).times P 11) := odd 10 _ r10
 have r12 : (K1 hI).rep (tab1 hI P 12) ((K1 hI).times P 12) := two 6 _ r6
 have r13 : (K1 hI).rep (tab1 hI P 13) ((K1 hI).times P 13) := odd 12 _ r12
 have r14 : (K1 hI).rep (tab1 hI P 14) ((K1 hI).times P 14) := two 7 _ r7
 have r15 : (K1 hI).rep (tab1 hI P 15) ((K1 hI).times P 15) := odd 14 _ r14
 intro j hj
 match j, hj with
 | 0, _ => exact (K1 hI).rep_lift none
 | 1, _ => exact r1
 | 2, _ => exact r2
 | 3, _ => exact r3
 | 4, _ => exact r4
 | 5, _ => exact r5
 | 6, _ => exact r6
 | 7, _ => exact r7
 | 8, _ => exact r8
 | 9, _ => exact r9
 | 10, _ => exact r10
 | 11, _ => exact r11
 | 12, _ => exact r12
 | 13, _ => exact r13
 | 14, _ => exact r14
 | 15, _ => exact r15
 | _ + 16, h => exact absurd h (by omega)
theorem fnl1 {I : Fp → Fp} (hI : Inv1 I) (P : Option (Fp × Fp)) (d : Nat) : [fn1 hI P (3 * d), fn1 hI P (3 * d + 1), fn1 hI P (3 * d + 2)] = t1 (tab1 hI P d) := by rw [fn1_0, fn1_1, fn1_2]
theorem fl1_0 {I : Fp → Fp} (hI : Inv1 I) (P : Option (Fp × Fp)) : [fn1 hI P 0, fn1 hI P 1, fn1 hI P 2] = t1 (tab1 hI P 0) := fnl1 hI P 0
theorem fl1_1 {I : Fp → Fp} (hI : Inv1 I) (P : Option (Fp × Fp)) : [fn1 hI P 3, fn1 hI P 4, fn1 hI P 5] = t1 (tab1 hI P 1) := fnl1 hI P 1
theorem fl1_2 {I : Fp → Fp} (hI : Inv1 I) (P : Option (Fp × Fp)) : [fn1 hI P 6, fn1 hI P 7, fn1 hI P 8] = t1 (tab1 hI P 2) := fnl1 hI P 2
theorem fl1_3 {I : Fp → Fp} (hI : Inv1 I) (P : Option (Fp × Fp)) : [fn1 hI P 9, fn1 hI P 10, fn1 hI P 11] = t1 (tab1 hI P 3) := fnl1 hI P 3
theorem fl1_4 {I : Fp → Fp} (hI : Inv1 I) (P : Option (Fp × Fp)) : [fn1 hI P 12, fn1 hI P 13, fn1 hI P 14] = t1 (tab1 hI P 4) := fnl1 hI P 4
theorem fl1_5 {I : Fp → Fp} (hI : Inv1 I) (P : Option (Fp × Fp)) : [fn1 hI P 15, fn1 hI P 16, fn1 hI P 17] = t1 (tab1 hI P 5) := fnl1 hI P 5
theorem fl1_6 {I : Fp → Fp} (hI : Inv1 I) (P : Option (Fp × Fp)) : [fn1 hI P 18, fn1 hI P 19, fn1 hI P 20] = t1 (tab1 hI P 6) := fnl1 hI P 6
theorem fl1_7 {I : Fp → Fp} (hI : Inv1 I) (P : Option (Fp × Fp)) : [fn1 hI P 21, fn1 hI P 22, fn1 hI P 23] = t1 (tab1 hI P 7) := fnl1 hI P 7
theorem fl1_8 {I : Fp → Fp} (hI : Inv1 I) (P : Option (Fp × Fp)) : [fn1 hI P 24, fn1 hI P 25, fn1 hI P 26] = t1 (tab1 hI P 8) := fnl1 hI P 8
theorem fl1_9 {I : Fp → Fp} (hI : Inv1 I) (P : Option (Fp × Fp)) : [fn1 hI P 27, fn1 hI P 28, fn1 hI P 29] = t1 (tab1 hI P 9) := fnl1 hI P 9
theorem fl1_10 {I : Fp → Fp} (hI : Inv1 I) (P : Option (Fp × Fp)) : [fn1 hI P 30, fn1 hI P 31, fn1 hI P 32] = t1 (tab1 hI P 10) := fnl1 hI P 10
theorem fl1_11 {I : Fp → Fp} (hI : Inv1 I) (P : Option (Fp × Fp)) : [fn1 hI P 33, fn1 hI P 34, fn1 hI P 35] = t1 (tab1 hI P 11) := fnl1 hI P 11
theorem fl1_12 {I : Fp → Fp} (hI : Inv1 I) (P : Option (Fp × Fp)) : [fn1 hI P 36, fn1 hI P 37, fn1 hI P 38] = t1 (tab1 hI P 12) := fnl1 hI P 12
theorem fl1_13 {I : Fp → Fp} (hI : Inv1 I) (P : Option (Fp × Fp)) : [fn1 hI P 39, fn1 hI P 40, fn1 hI P 41] = t1 (tab1 hI P 13) := fnl1 hI P 13
theorem fl1_14 {I : Fp → Fp} (hI : Inv1 I) (P : Option (Fp × Fp)) : [fn1 hI P 42, fn1 hI P 43, fn1 hI P 44] = t1 (tab1 hI P 14) := fnl1 hI P 14
theorem fl1_15 {I : Fp → Fp} (hI : Inv1 I) (P : Option (Fp × Fp)) : [fn1 hI P 45, fn1 hI P 46, fn1 hI P 47] = t1 (tab1 hI P 15) := fnl1 hI P 15
theorem ts1_2 {I : Fp → Fp} (hI : Inv1 I) (P : Option (Fp × Fp)) : tab1 hI P 2 = (K1 hI).twice (tab1 hI P 1) := rfl
theorem ts1_3 {I : Fp → Fp} (hI : Inv1 I) (P : Option (Fp × Fp)) : tab1 hI P 3 = (K1 hI).tog (tab1 hI P 2) (tab1 hI P 1) := rfl
theorem ts1_4 {I : Fp → Fp} (hI : Inv1 I) (P : Option (Fp × Fp)) : tab1 hI P 4 = (K1 hI).twice (tab1 hI P 2) := rfl
theorem ts1_5 {I : Fp → Fp} (hI : Inv1 I) (P : Option (Fp × Fp)) : tab1 hI P 5 = (K1 hI).tog (tab1 hI P 4) (tab1 hI P 1) := rfl
theorem ts1_6 {I : Fp → Fp} (hI : Inv1 I) (P : Option (Fp × Fp)) : tab1 hI P 6 = (K1 hI).twice (tab1 hI P 3) := rfl
theorem ts1_7 {I : Fp → Fp} (hI : Inv1 I) (P : Option (Fp × Fp)) : tab1 hI P 7 = (K1 hI).tog (tab1 hI P 6) (tab1 hI P 1) := rfl
theorem ts1_8 {I : Fp → Fp} (hI : Inv1 I) (P : Option (Fp × Fp)) : tab1 hI P 8 = (K1 hI).twice (tab1 hI P 4) := rfl
theorem ts1_9 {I : Fp → Fp} (hI : Inv1 I) (P : Option (Fp × Fp)) : tab1 hI P 9 = (K1 hI).tog (tab1 hI P 8) (tab1 hI P 1) := rfl
theorem ts1_10 {I : Fp → Fp} (hI : Inv1 I) (P : Option (Fp × Fp)) : tab1 hI P 10 = (K1 hI).twice (tab1 hI P 5) := rfl
theorem ts1_11 {I : Fp → Fp} (hI : Inv1 I) (P : Option (Fp × Fp)) : tab1 hI P 11 = (K1 hI).tog (tab1 hI P 10) (tab1 hI P 1) := rfl
theorem ts1_12 {I : Fp → Fp} (hI : Inv1 I) (P : Option (Fp × Fp)) : tab1 hI P 12 = (K1 hI).twice (tab1 hI P 6) := rfl
theorem ts1_13 {I : Fp → Fp} (hI : Inv1 I) (P : Option (Fp × Fp)) : tab1 hI P 13 = (K1 hI).tog (tab1 hI P 12) (tab1 hI P 1) := rfl
theorem ts1_14 {I : Fp → Fp} (hI : Inv1 I) (P : Option (Fp × Fp)) : tab1 hI P 14 = (K1 hI).twice (tab1 hI P 7) := rfl
theorem ts1_15 {I : Fp → Fp} (hI : Inv1 I) (P : Option (Fp × Fp)) : tab1 hI P 15 = (K1 hI).tog (tab1 hI P 14) (tab1 hI P 1) := rfl
theorem tableE_1 {I : Fp → Fp} (hI : Inv1 I) {g : Nat} {tn : Value} (P : Option (Fp × Fp)) (w : World) (hm : Mm w [(g, zQ pB), (0, dtab)]) : Calls Tryz.prog 121 #[(GV1 g tn), enc1 P] w (Rt w (V (tb1 (fn1 hI P)))) :=
 tableOf_1 (u := (K1 hI).R.one) (b := (K1 hI).b) (tn := tn) (fd1 hI g) (fn1 hI P) (c1x P) (c1y P) (c1z P) (fun w hm => by rw [fl1_0 hI P]; exact zeroE_1 hI w hm) (fun w hm => by rw [fl1_1 hI P]; exact liftE_1 hI P w hm)
  (fun w hm => by rw [fl1_1 hI P, fl1_2 hI P, ts1_2]; exact twiceE_1 hI (tab1 hI P 1) w hm)
  (fun w hm => by rw [fl1_2 hI P, fl1_1 hI P, fl1_3 hI P, ts1_3]; exact togE_1 hI (tab1 hI P 2) (tab1 hI P 1) w hm)
  (fun w hm => by rw [fl1_2 hI P, fl1_4 hI P, ts1_4]; exact twiceE_1 hI (tab1 hI P 2) w hm)
  (fun w hm => by rw [fl1_4 hI P, fl1_1 hI P, fl1_5 hI P, ts1_5]; exact togE_1 hI (tab1 hI P 4) (tab1 hI P 1) w hm)
  (fun w hm => by rw [fl1_3 hI P, fl1_6 hI P, ts1_6]; exact twiceE_1 hI (tab1 hI P 3) w hm)
  (fun w hm => by rw [fl1_6 hI P, fl1_1 hI P, fl1_7 hI P, ts1_7]; exact togE_1 hI (tab1 hI P 6) (tab1 hI P 1) w hm)
  (fun w hm => by rw [fl1_4 hI P, fl1_8 hI P, ts1_8]; exact twiceE_1 hI (tab1 hI P 4) w hm)
  (fun w hm => by rw [fl1_8 hI P, fl1_1 hI P, fl1_9 hI P, ts1_9]; exact togE_1 hI (tab1 hI P 8) (tab1 hI P 1) w hm)
  (fun w hm => by rw [fl1_5 hI P, fl1_10 hI P, ts1_10]; exact twiceE_1 hI (tab1 hI P 5) w hm)
  (fun w hm => by rw [fl1_10 hI P, fl1_1 hI P, fl1_11 hI P, ts1_11]; exact togE_1 hI (tab1 hI P 10) (tab1 hI P 1) w hm)
  (fun w hm => by rw [fl1_6 hI P, fl1_12 hI P, ts1_12]; exact twiceE_1 hI (tab1 hI P 6) w hm)
  (fun w hm => by rw [fl1_12 hI P, fl1_1 hI P, fl1_13 hI P, ts1_13]; exact togE_1 hI (tab1 hI P 12) (tab1 hI P 1) w hm)
  (fun w hm => by rw [fl1_7 hI P, fl1_14 hI P, ts1_14]; exact twiceE_1 hI (tab1 hI P 7) w hm)
  (fun w hm => by rw [fl1_14 hI P, fl1_1 hI P, fl1_15 hI P, ts1_15]; exact togE_1 hI (tab1 hI P 14) (tab1 hI P 1) w hm) w hm
def rowA1 {I : Fp → Fp} (hI : Inv1 I) (P : Option (Fp × Fp)) (A : EC.Tri Fp) (v : Nat) : Nat → EC.Tri Fp
 | 0 => A
 | k + 1 => if dgt v k = 0 then (K1 hI).twice ((K1 hI).twice ((K1 hI).twice ((K1 hI).twice (rowA1 hI P A v k)))) else (K1 hI).tog ((K1 hI).twice ((K1 hI).twice ((K1 hI).twice ((K1 hI).twice (rowA1 hI P A v k))))) (tab1 hI P (dgt v k))
theorem rowrep1 {I : Fp → Fp} (hI : Inv1 I) {P : Option (Fp × Fp)} (h : (K1 hI).on P) {A : EC.Tri Fp} {m : Nat} (hA : (K1 hI).rep A ((K1 hI).times P m)) {v : Nat} (hv : v < 18446744073709551616) : ∀ k, (K1 hI).rep (rowA1 hI P A v k) ((K1 hI).times P (m * 16 ^ k + v * 16 ^ k / 18446744073709551616))
 | 0 => by
  rw [Nat.pow_zero, Nat.mul_one, Nat.mul_one, Nat.div_eq_of_lt hv, Nat.add_zero]
  exact hA
 | k + 1 => by
  have ih := (K1 hI).times_sixteen h _ (rowrep1 hI h hA hv k)
  have e : m * 16 ^ (k + 1) + v * 16 ^ (k + 1) / 18446744073709551616 = 16 * (m * 16 ^ k + v * 16 ^ k / 18446744073709551616) + dgt v k := by
   rw [hi_next, Nat.pow_succ]
   generalize v * 16 ^ k / 18446744073709551616 = Y
   rw [← Nat.mul_assoc]
   omega
  rw [e]
  show (K1 hI).rep (if dgt v k = 0 then _ else _) _
  split
  ·next hz =>
   rw [hz, Nat.add_zero]
   exact ih
  ·rw [← (K1 hI).times_step h]
   exact (K1 hI).rep_tog ih (tabrep1 hI h _ (dgt_lt v k)) ((K1 hI).times_on h _) ((K1 hI).times_on h _)
theorem rowE_1 {I : Fp → Fp} (hI : Inv1 I) {g : Nat} {tn : Value} (P : Option (Fp × Fp)) (A : EC.Tri Fp) {v : Nat} (hv : v < 18446744073709551616) (gt gr : Nat) (w : World) (hm : Mm w [(g, zQ pB), (0, dtab), (gt, cel (tb1 (fn1 hI P))), (gr, [Value.int .u64 ((v : Nat) : Int)])]) :
  Calls Tryz.prog 122 #[(GV1 g tn), V (t1 A), .slice (some ⟨gt, 0, none⟩) 1 1, .slice (some ⟨gr, 0, none⟩) 1 1] w fun e w' => e = .returned (V (t1 (rowA1 hI P A v 16))) ∧ Mm w' [(gr, [Value.int .u64 0])] ∧ Kp gr w w' := by
 rw [← wof_0 hv] at hm
 have h := byRow_1 (u := (K1 hI).R.one) (b := (K1 hI).b) (tn := tn) (fd1 hI g) (fn1 hI P) (K1 hI).twice (fun T d => (K1 hI).tog T (tab1 hI P d)) (rowA1 hI P A v) (wof v) (dgt v) gt gr
  (fun T w hm => twiceE_1 hI T w hm)
  (fun T d _ w hm => by
   rw [fn1_0, fn1_1, fn1_2]
   exact togE_1 hI T (tab1 hI P d) w hm)
  (wof_d v) (dgt_lt v) (wof_w v) (fun k hk => (if_pos hk).symm) (fun k hk => (if_neg (by omega)).symm) w hm
 rw [wof_16] at h
 exact h
def sumS1 {I : Fp → Fp} (hI : Inv1 I) (P : Option (Fp × Fp)) (nn : Nat) : Nat → EC.Tri Fp
 | 0 => (K1 hI).lift none
 | r + 1 => rowA1 hI P (sumS1 hI P nn r) (wn nn (5 - r)) 16
theorem sumrep1 {I : Fp → Fp} (hI : Inv1 I) {P : Option (Fp × Fp)} (h : (K1 hI).on P) {nn : Nat} (hn : nn < big) : ∀ r, r ≤ 6 → (K1 hI).rep (sumS1 hI P nn r) ((K1 hI).times P (nn / 2 ^ (64 * (6 - r))))
 | 0, _ => by
  rw [hi_top hn]
  exact (K1 hI).rep_lift none
 | r + 1, hr => by
  have h1 := rowrep1 hI h (sumrep1 hI h hn r (by omega)) (wn_lt nn (5 - r)) 16
  rw [show (16 : Nat) ^ 16 = 18446744073709551616 by decide, Nat.mul_div_cancel _ (by decide), show 6 - r = 5 - r + 1 by omega, hi_word] at h1
  rw [show 6 - (r + 1) = 5 - r by omega]
  exact h1
theorem someE_1 {I : Fp → Fp} (hI : Inv1 I) {g : Nat} {tn : Value} (P : Option (Fp × Fp)) {nn gp gn : Nat} (w : World) (hm : Mm w [(g, zQ pB), (0, dtab), (gp, cel [c1x P, c1y P] ++ [Value.bool (c1z P)]), (gn, zC nn)]) :
  Calls Tryz.prog 103 #[(GV1 g tn), .slice (some ⟨gp, 0, none⟩) 1 1, .slice (some ⟨gn, 0, none⟩) 1 1] w (Rt w (V (t1 (sumS1 hI P nn 6)))) :=
 some_1 (u := (K1 hI).R.one) (b := (K1 hI).b) (tn := tn) (fd1 hI g) (fn1 hI P) (sumS1 hI P nn) (c1x P) (c1y P) nn gp gn (c1z P) (fun w hm => zeroE_1 hI w hm) (fun w hm => tableE_1 hI P w hm)
  (fun r _ gt gr w hm => rowE_1 hI P (sumS1 hI P nn r) (wn_lt nn (5 - r)) gt gr w hm) w hm
theorem total1 {I : Fp → Fp} (hI : Inv1 I) {P : Option (Fp × Fp)} (h : (K1 hI).on P) {nn : Nat} (hn : nn < big) : (K1 hI).lower ((K1 hI).tog ((K1 hI).lift none) (sumS1 hI P nn 6)) = (K1 hI).times P nn := by
 have h6 := sumrep1 hI h hn 6 (Nat.le_refl 6)
 rw [Nat.sub_self, Nat.mul_zero, Nat.pow_zero, Nat.div_one] at h6
 have e := (K1 hI).rep_lower ((K1 hI).rep_tog ((K1 hI).rep_lift none) h6 trivial ((K1 hI).times_on h nn))
 rw [e, (K1 hI).zero_add ((K1 hI).times_on h nn)]
theorem sumE_1 {I : Fp → Fp} (hI : Inv1 I) {g : Nat} {tn : Value} {P : Option (Fp × Fp)} (h : (K1 hI).on P) {nn gp gn : Nat} (hn : nn < big) (w : World) (hm : Mm w [(g, zQ pB), (0, dtab), (gp, cel [c1x P, c1y P] ++ [Value.bool (c1z P)]), (gn, zC nn)]) :
  Calls Tryz.prog 64 #[(GV1 g tn), .slice (some ⟨gp, 0, none⟩) 1 1, .slice (some ⟨gn, 0, none⟩) 1 1] w (Rt w (.tuple #[enc1 ((K1 hI).times P nn), .int .i64 0])) :=
 sumY_1 (u := (K1 hI).R.one) (b := (K1 hI).b) (tn := tn) (fd1 hI g) ((K1 hI).lift none) (sumS1 hI P nn 6) ((K1 hI).tog ((K1 hI).lift none) (sumS1 hI P nn 6)) (c1x P) (c1y P) (c1x ((K1 hI).times P nn)) (c1y ((K1 hI).times P nn)) nn gp gn (c1z P) (c1z ((K1 hI).times P nn))
  (fun w hm => ckE_1 hI h w hm) (fun w hm => zeroE_1 hI w hm) (fun w hm => someE_1 hI P w hm) (fun w hm => togE_1 hI _ _ w hm) (fun w hm => by
   have e := lowerE_1 hI (tn := tn) ((K1 hI).tog ((K1 hI).lift none) (sumS1 hI P nn 6)) w hm
   rw [total1 hI h hn] at e
   exact e) w hm
theorem MulE_1 {I : Fp → Fp} (hI : Inv1 I) {P : Option (Fp × Fp)} (h : (K1 hI).on P) {nn : Nat} (hn : nn < big) (w : World) (hm : Mm w [(0, dtab)]) : Calls Tryz.prog 25 #[enc1 P, N nn] w (Rt w (.tuple #[enc1 ((K1 hI).times P nn), .int .i64 0])) :=
 Mul_1 (c1x P) (c1y P) (c1x ((K1 hI).times P nn)) (c1y ((K1 hI).times P nn)) nn (c1z P) (c1z ((K1 hI).times P nn)) 0 (fun gl gn w hm =>
  Sum_1 1 4 (c1x P) (c1y P) (c1x ((K1 hI).times P nn)) (c1y ((K1 hI).times P nn)) nn gl gn (c1z P) (c1z ((K1 hI).times P nn)) 0 firstE (fun g tn _ w hm => sumE_1 hI (g := g) (tn := tn) h hn w hm) w hm) w hm
end Rg
end Go.Proofs.YtahgdighnlekdaaGreatDoor
end
section
namespace Go.Proofs.YtahgdighnlekdaaGreatDoor
open Go.RowKit
namespace Rg
theorem ex_shl1 {ρ : Operand → Value} {o : Oper} {x y : Operand} {a : Int} {w : World} (ho : o.op = .binOp .shl 22 x y 157) (hx : ρ x = .int .u64 a) (hy : ρ y = .int .u64 1) :
  (execOp ρ o).run Tryz.prog w = .ok (.value (.int .u64 (IntKind.u64.wrap (a * 2 ^ 1)))) w := by
 simp only [execOp, ho, hx, hy]
 clear ho hx hy
 go_simp
theorem ex_shr63 {ρ : Operand → Value} {o : Oper} {x y : Operand} {a : Int} {w : World} (ho : o.op = .binOp .shr 22 x y 157) (hx : ρ x = .int .u64 a) (hy : ρ y = .int .u64 63) :
  (execOp ρ o).run Tryz.prog w = .ok (.value (.int .u64 (a / 2 ^ 63))) w := by
 simp only [execOp, ho, hx, hy]
 clear ho hx hy
 go_simp
set_option maxHeartbeats 8000000 in
theorem byWord_1 {α : Type} {en : α → Nat} {fa fs fm : α → α → α} {fi : α → α} {z u b : α} {g : Nat} {tn : Value} (_C : Fd1 g en fa fs fm fi z) (tw tg : EC.Tri α → EC.Tri α) (T0 : EC.Tri α) (A : Nat → EC.Tri α) (wo : Nat → Int) (dg : Nat → Nat)
  (cz : ∀ w, Mm w [(g, zQ pB), (0, dtab)] → Calls Tryz.prog 102 #[.agg (G1 g tn (en u) (en b)).toArray] w (Rt w (V [en ((A 0).1), en ((A 0).2.1), en ((A 0).2.2)])))
  (ctw : ∀ T w, Mm w [(g, zQ pB), (0, dtab)] → Calls Tryz.prog 109 #[.agg (G1 g tn (en u) (en b)).toArray, V [en T.1, en T.2.1, en T.2.2]] w (Rt w (V [en ((tw T).1), en ((tw T).2.1), en ((tw T).2.2)])))
  (ctg : ∀ T w, Mm w [(g, zQ pB), (0, dtab)] → Calls Tryz.prog 76 #[.agg (G1 g tn (en u) (en b)).toArray, V [en T.1, en T.2.1, en T.2.2], V [en T0.1, en T0.2.1, en T0.2.2]] w (Rt w (V [en ((tg T).1), en ((tg T).2.1), en ((tg T).2.2)])))
  (hd : ∀ k, wo k / 2 ^ 63 = ((dg k : Nat) : Int)) (hw : ∀ k, IntKind.u64.wrap (wo k * 2 ^ 1) = wo (k + 1))
  (ha0 : ∀ k, dg k ≠ 1 → tw (A k) = A (k + 1)) (ha1 : ∀ k, dg k = 1 → tg (tw (A k)) = A (k + 1)) (w : World) (hm : Mm w [(g, zQ pB), (0, dtab)]) :
  Calls Tryz.prog 80 #[.agg (G1 g tn (en u) (en b)).toArray, V [en T0.1, en T0.2.1, en T0.2.2], .int .u64 (wo 0)] w (Rt w (V [en ((A 64).1), en ((A 64).2.1), en ((A 64).2.2)])) := by
 have H0 : Hid (_ ∧ _) := ⟨hm, Below.refl w.heap.size w⟩
 clear hm
 have CZ : Hid _ := cz
 clear cz
 have CTW : Hid _ := ctw
 clear ctw
 have CTG : Hid _ := ctg
 clear ctg
 have HD : Hid _ := hd
 clear hd
 have HW : Hid _ := hw
 clear hw
 have HA0 : Hid _ := ha0
 clear ha0
 have HA1 : Hid _ := ha1
 clear ha1
 go_enter Tryz.func80, Tryz.ntmps80
 refine wp_seq ?_
 refine zD 3 [.made (G1 g tn (en u) (en b)) 102, .made (cel [en T0.1, en T0.2.1, en T0.2.2]) 137, .made (cel [0, 0, 0]) 137] (sB H0) ?ho1 ?he1
 case ho1 => exact am (zN rfl rfl) (am (ex_boxA rfl rfl) (am (ex_madeTN rfl) trivial))
 intro J w1 l hM hl
 have H1 : Hid (Mm w1 ([(J 0, G1 g tn (en u) (en b)), (J 1, cel [en T0.1, en T0.2.1, en T0.2.2]), (J 2, cel [0, 0, 0])] ++ _) ∧ _) := wB H0 hM hl [0, 1, 2]
 have o1_0 := vB H0 hM hl 0
 have o1_1 := vB H0 hM hl 1
 have o1_2 := vB H0 hM hl 2
 clear hM hl l
 generalize J 0 = J1_0 at H1 o1_0 ⊢
 generalize J 1 = J1_1 at H1 o1_1 ⊢
 generalize J 2 = J1_2 at H1 o1_2 ⊢
 clear J
 refine rN (wp_seq ?_)
 refine zD 4 [.q (.agg (G1 g tn (en u) (en b)).toArray), .call (V [en ((A 0).1), en ((A 0).2.1), en ((A 0).2.2)]), .made (cel [0, 0, 0]) 137, .laid 2 (cel [0, 0, 0]) (cel [en ((A 0).1), en ((A 0).2.1), en ((A 0).2.2)])] (sB H1) ?ho2 ?he2 (hL := ?hL2)
 case hL2 => exact ⟨⟨_, rfl⟩, trivial⟩
 case ho2 => exact bT 0 Ai102 As102 (ac (fun w' h => eC call102 (CZ.out w' (h.two 3 4 rfl rfl (by decide)))) (am (ex_madeTN rfl) (ak (fun J => ⟨rfl, rfl, rfl, fun w' h => ex_laidA h rfl As137 rfl rfl rfl⟩) trivial)))
 intro J w2 l hM hl
 have H2 : Hid (Mm w2 ([(J 2, cel [en ((A 0).1), en ((A 0).2.1), en ((A 0).2.2)])] ++ _) ∧ _) := wB H1 hM hl [2]
 have o2_2 := vB H1 hM hl 2
 clear hM hl l H1
 generalize J 2 = J2_2 at H2 o2_2 ⊢
 clear J
 refine rN (wp_seq (wp_seq ?_))
 refine zB 1 [.q (.int .i64 0)] H2 ?ho3 ?he3
 case ho3 => exact ar trivial
 intro _ w3 H3
 clear H2
 refine rN (wp_block ?_)
 refine loop_ghost (α := Nat) (fun k a' w' => ∃ s0 : Nat → Value, a' = ⟨#[.agg (G1 g tn (en u) (en b)).toArray, V [en T0.1, en T0.2.1, en T0.2.2], .int .u64 (wo k), PT J1_0 0, PT J1_1 0, undef, PT J1_2 0, PT J2_2 0, .agg (G1 g tn (en u) (en b)).toArray, V [en ((A 0).1), en ((A 0).2.1), en ((A 0).2.2)], .int .i64 ((k : Nat) : Int), s0 11, s0 12, s0 13, s0 14, s0 15, s0 16, s0 17, s0 18, s0 19, s0 20, s0 21, s0 22, s0 23, s0 24, undef], []⟩ ∧ (Mm w' [(J2_2, cel [en ((A k).1), en ((A k).2.1), en ((A k).2.2)]), (J1_0, G1 g tn (en u) (en b)), (J1_1, cel [en T0.1, en T0.2.1, en T0.2.2]), (J1_2, cel [0, 0, 0]), (g, zQ pB), (0, dtab)] ∧ Below w.heap.size w w') ∧ k ≤ 64) (fun k => 64 - k) 0 ?st0 ?rd0
 case st0 => exact ⟨(slotfn [ud, ud, ud, ud, ud, ud, ud, ud, ud, ud, ud, ud, ud, ud, ud, ud, ud, ud, ud, ud, ud, ud, ud, ud, ud]), rfl, ⟨H3.out.1, H3.out.2⟩, by omega⟩
 intro k a' w4 hI
 obtain ⟨s0, rfl, hMB, hk0⟩ := hI
 have H4 : Hid (_ ∧ _) := hMB
 clear hMB H3
 by_cases hlt0 : k < 64
 ·have hrd : True := trivial
  clear hrd
  by_cases hdz : dg k = 1
  ·have hrd : True := trivial
   clear hrd
   have hlt : k < 64 := by omega
   refine wp_seq ?_
   refine zB 1 [.q (.bool true)] H4 ?ho4 ?he4
   case ho4 => exact ak (by refine fun J => ⟨rfl, fun w' h => ?_⟩; clear h; go_simp <;> omega) trivial
   intro _ w5 H5
   clear H4
   refine rN (wp_seq ?_)
   refine wp_cond_true rfl (wp_skip ?_)
   refine zA (wp_seq ?_)
   refine wp_block (wp_seq ?_)
   refine zB 3 [.q (.agg (G1 g tn (en u) (en b)).toArray), .q (V [en ((A k).1), en ((A k).2.1), en ((A k).2.2)]), .call (V [en ((tw (A k)).1), en ((tw (A k)).2.1), en ((tw (A k)).2.2)])] H5 ?ho5 ?he5
   case ho5 => exact bT 1 Ai102 As102 (bA 0 3 0 Ai137 As137 (ac (fun w' h => eC call109 (CTW.out (A k) w' (h.two 4 5 rfl rfl (by decide)))) trivial))
   intro _ w6 H6
   clear H5
   refine zF (l := [3]) rfl ?_
   refine sF 0 [en ((tw (A k)).1), en ((tw (A k)).2.1), en ((tw (A k)).2.2)] [_, _, _, _, _, _] H6 o2_2 As137 fun w7 H7 => ?_
   clear H6
   refine zE (zA ?_)
   refine wp_seq (wp_seq ?_)
   refine zB 3 [.q (.int .u64 (wo k)), .q (.int .u64 ((dg k : Nat) : Int)), .q (.bool true)] H7 ?ho6 ?he6
   case ho6 => exact ar (ak (fun J => ⟨rfl, fun w' _ => by rw [← HD.out k]; exact ex_shr63 rfl rfl rfl⟩) (ak (by refine fun J => ⟨rfl, fun w' h => ?_⟩; clear h; go_simp <;> omega) trivial))
   intro _ w8 H8
   clear H7
   refine rN (wp_cond_true rfl ?_)
   refine zB 4 [.q (.agg (G1 g tn (en u) (en b)).toArray), .q (V [en ((tw (A k)).1), en ((tw (A k)).2.1), en ((tw (A k)).2.2)]), .q (V [en T0.1, en T0.2.1, en T0.2.2]), .call (V [en ((tg (tw (A k))).1), en ((tg (tw (A k))).2.1), en ((tg (tw (A k))).2.2)])] H8 ?ho7 ?he7
   case ho7 => exact bT 1 Ai102 As102 (bA 0 3 0 Ai137 As137 (bA 0 3 2 Ai137 As137 (ac (fun w' h => eC call76 (CTG.out (tw (A k)) w' (h.two 4 5 rfl rfl (by decide)))) trivial)))
   intro _ w9 H9
   clear H8
   refine zF (l := [4]) rfl ?_
   refine sF 0 [en ((tg (tw (A k))).1), en ((tg (tw (A k))).2.1), en ((tg (tw (A k))).2.2)] [_, _, _, _, _, _] H9 o2_2 As137 fun w10 H10 => ?_
   clear H9
   refine zE (zA ?_)
   refine zB 2 [.q (.int .u64 (wo k)), .q (.int .u64 (wo (k + 1)))] H10 ?ho8 ?he8
   case ho8 => exact ar (ak (fun J => ⟨rfl, fun w' _ => by rw [← HW.out k]; exact ex_shl1 rfl rfl rfl⟩) trivial)
   intro _ w11 H11
   clear H10
   refine zF (l := [2]) rfl ?_
   refine zG (d := 2) rfl rfl rfl rfl ?_
   simp only [Act.put, sa, sz, ss]
   refine zE (zK (zA ?_))
   refine zB 1 [.q (.int .i64 ((k + 1 : Nat) : Int))] H11 ?ho9 ?he9
   case ho9 => exact ak (by refine fun J => ⟨rfl, fun w' h => ?_⟩; clear h; go_simp; rw [IntKind.wrap_i64]; omega) trivial
   intro _ w12 H12
   clear H11
   refine zF (l := [1]) rfl ?_
   refine zG (d := 10) rfl rfl rfl rfl ?_
   simp only [Act.put, sa, sz, ss]
   refine zE (zA ?_)
   exact ⟨k + 1, ⟨(slotfn [ud, ud, ud, ud, ud, ud, ud, ud, ud, ud, ud, .bool true, .agg (G1 g tn (en u) (en b)).toArray, V [en ((A k).1), en ((A k).2.1), en ((A k).2.2)], V [en ((tw (A k)).1), en ((tw (A k)).2.1), en ((tw (A k)).2.2)], .int .u64 (wo k), .int .u64 ((dg k : Nat) : Int), .bool true, .agg (G1 g tn (en u) (en b)).toArray, V [en ((tw (A k)).1), en ((tw (A k)).2.1), en ((tw (A k)).2.2)], V [en T0.1, en T0.2.1, en T0.2.2], V [en ((tg (tw (A k))).1), en ((tg (tw (A k))).2.1), en ((tg (tw (A k))).2.2)], .int .u64 (wo k), .int .u64 (wo (k + 1)), .int .i64 ((k + 1 : Nat) : Int)]), rfl, ⟨(H12.out.1).atk (by rw [HA1.out k hdz]), H12.out.2⟩, by omega⟩, by omega⟩
  ·have hrd : True := trivial
   clear hrd
   have hlt : k < 64 := by omega
   refine wp_seq ?_
   refine zB 1 [.q (.bool true)] H4 ?ho10 ?he10
   case ho10 => exact ak (by refine fun J => ⟨rfl, fun w' h => ?_⟩; clear h; go_simp <;> omega) trivial
   intro _ w13 H13
   clear H4
   refine rN (wp_seq ?_)
   refine wp_cond_true rfl (wp_skip ?_)
   refine zA (wp_seq ?_)
   refine wp_block (wp_seq ?_)
   refine zB 3 [.q (.agg (G1 g tn (en u) (en b)).toArray), .q (V [en ((A k).1), en ((A k).2.1), en ((A k).2.2)]), .call (V [en ((tw (A k)).1), en ((tw (A k)).2.1), en ((tw (A k)).2.2)])] H13 ?ho11 ?he11
   case ho11 => exact bT 1 Ai102 As102 (bA 0 3 0 Ai137 As137 (ac (fun w' h => eC call109 (CTW.out (A k) w' (h.two 4 5 rfl rfl (by decide)))) trivial))
   intro _ w14 H14
   clear H13
   refine zF (l := [3]) rfl ?_
   refine sF 0 [en ((tw (A k)).1), en ((tw (A k)).2.1), en ((tw (A k)).2.2)] [_, _, _, _, _, _] H14 o2_2 As137 fun w15 H15 => ?_
   clear H14
   refine zE (zA ?_)
   refine wp_seq (wp_seq ?_)
   refine zB 3 [.q (.int .u64 (wo k)), .q (.int .u64 ((dg k : Nat) : Int)), .q (.bool false)] H15 ?ho12 ?he12
   case ho12 => exact ar (ak (fun J => ⟨rfl, fun w' _ => by rw [← HD.out k]; exact ex_shr63 rfl rfl rfl⟩) (ak (by refine fun J => ⟨rfl, fun w' h => ?_⟩; clear h; go_simp <;> omega) trivial))
   intro _ w16 H16
   clear H15
   refine rN (wp_cond_false rfl ?_)
   refine wp_skip (zA ?_)
   refine zB 2 [.q (.int .u64 (wo k)), .q (.int .u64 (wo (k + 1)))] H16 ?ho13 ?he13
   case ho13 => exact ar (ak (fun J => ⟨rfl, fun w' _ => by rw [← HW.out k]; exact ex_shl1 rfl rfl rfl⟩) trivial)
   intro _ w17 H17
   clear H16
   refine zF (l := [2]) rfl ?_
   refine zG (d := 2) rfl rfl rfl rfl ?_
   simp only [Act.put, sa, sz, ss]
   refine zE (zK (zA ?_))
   refine zB 1 [.q (.int .i64 ((k + 1 : Nat) : Int))] H17 ?ho14 ?he14
   case ho14 => exact ak (by refine fun J => ⟨rfl, fun w' h => ?_⟩; clear h; go_simp; rw [IntKind.wrap_i64]; omega) trivial
   intro _ w18 H18
   clear H17
   refine zF (l := [1]) rfl ?_
   refine zG (d := 10) rfl rfl rfl rfl ?_
   simp only [Act.put, sa, sz, ss]
   refine zE (zA ?_)
   exact ⟨k + 1, ⟨(slotfn [ud, ud, ud, ud, ud, ud, ud, ud, ud, ud, ud, .bool true, .agg (G1 g tn (en u) (en b)).toArray, V [en ((A k).1), en ((A k).2.1), en ((A k).2.2)], V [en ((tw (A k)).1), en ((tw (A k)).2.1), en ((tw (A k)).2.2)], .int .u64 (wo k), .int .u64 ((dg k : Nat) : Int), .bool false, s0 18, s0 19, s0 20, s0 21, .int .u64 (wo k), .int .u64 (wo (k + 1)), .int .i64 ((k + 1 : Nat) : Int)]), rfl, ⟨(H18.out.1).atk (by rw [HA0.out k hdz]), H18.out.2⟩, by omega⟩, by omega⟩
 have hk64 : k = 64 := by omega
 subst hk64
 refine wp_seq ?_
 refine zB 1 [.q (.bool false)] H4 ?ho15 ?he15
 case ho15 => exact ak (by refine fun J => ⟨rfl, fun w' h => ?_⟩; clear h; go_simp <;> omega) trivial
 intro _ w19 H19
 clear H4
 refine rN (wp_seq (wp_cond_false rfl ?_))
 refine wp_exit ?_
 repeat refine then_exit ?_
 refine block_exit ?_
 refine zA (wp_seq ?_)
 refine zB 1 [.q (V [en ((A 64).1), en ((A 64).2.1), en ((A 64).2.2)])] H19 ?ho16 ?he16
 case ho16 => exact bA 0 3 0 Ai137 As137 trivial
 intro _ w20 H20
 clear H19
 refine zF (l := [1]) rfl ?_
 refine sF 3 [en ((A 64).1), en ((A 64).2.1), en ((A 64).2.2)] [_, _, _, _, _, _] H20 o1_2 As137 fun w21 H21 => ?_
 clear H20
 refine zE (zA (wp_ret ?_))
 repeat (first | refine zJ ?_ | refine zI ?_)
 have hf0 := cel_var (k := 3) H21.out.1 3 rfl Ai137 As137 rfl
 refine bodyPost_ret (v := V [en ((A 64).1), en ((A 64).2.1), en ((A 64).2.2)]) (by simp [results, Tryz.results80, asAddr, hf0]) rfl ?_
 exact ⟨rfl, H21.out.2⟩
set_option maxHeartbeats 2000000 in
theorem turn_1 {α : Type} {en : α → Nat} {fa fs fm : α → α → α} {fi : α → α} {z : α} {g : Nat} (C : Fd1 g en fa fs fm fi z) (x t3 : α) (y gx gy : Nat) (w : World) (hm : Mm w [(g, zQ pB), (0, dtab), (gx, [PT g 0]), (gy, zC (en t3))]) :
  Calls Tryz.prog 73 #[N (en x), N y, PT gx 0, PT gy 0] w (Rt w (.tuple #[N (en (fm x t3)), N y])) := by
 have H0 : Hid (_ ∧ _) := ⟨hm, Below.refl w.heap.size w⟩
 clear hm
 go_enter Tryz.func73, Tryz.ntmps73
 refine wp_seq ?_
 refine zD 4 [.made (zC (en x)) 24, .made (zC y) 24, .made zero6 24, .made zero6 24] (sB H0) ?ho1 ?he1
 case ho1 => exact am (ex_box6 rfl rfl) (am (ex_box6 rfl rfl) (am (zH rfl) (am (zH rfl) trivial)))
 intro J w1 l hM hl
 have H1 : Hid (Mm w1 ([(J 0, zC (en x)), (J 1, zC y), (J 2, zero6), (J 3, zero6)] ++ _) ∧ _) := wB H0 hM hl [0, 1, 2, 3]
 have o1_0 := vB H0 hM hl 0
 have o1_1 := vB H0 hM hl 1
 have o1_2 := vB H0 hM hl 2
 have o1_3 := vB H0 hM hl 3
 clear hM hl l
 generalize J 0 = J1_0 at H1 o1_0 ⊢
 generalize J 1 = J1_1 at H1 o1_1 ⊢
 generalize J 2 = J1_2 at H1 o1_2 ⊢
 generalize J 3 = J1_3 at H1 o1_3 ⊢
 clear J
 refine rN (wp_seq ?_)
 refine walk_put2 (by kernel_rfl) 5 [4] [.q (PT g 0), .q (N (en x)), .q (N (en t3)), .call (N (en (fm x t3))), .q (N y)] _ ?pre2 ?F2 _ ?hpre2 (fun J => ?hF2) (by kernel_rfl) rfl trivial (sB H1) ?ho2 ?hla2 ?he2
 case hpre2 => simp only [tk, tz]; rfl
 case hF2 => simp only [fill, Kind.val, Act.put, sa, sz, ss]; rfl
 case ho2 =>
  refine bC 6 Ai51 ?_
  refine bN 0 ?_
  refine bN 7 ?_
  refine ak (fun J => ⟨rfl, fun w' h => eC call71 (C.cm _ _ w' (h.two 4 5 rfl rfl (by decide)))⟩) ?_
  refine bN 1 ?_
  exact trivial
 case hla2 => exact rfl
 intro J w2 l hM hl
 have H2 := keepB H1 hM.below
 clear hM hl l H1 J
 have H3 : Hid (Mm (w2.setCells J1_2 0 (zC (en (fm x t3)))) [(J1_0, zC (en x)), (J1_1, zC y), (J1_2, zC (en (fm x t3))), (J1_3, zero6), (g, zQ pB), (0, dtab), (gx, [PT g 0]), (gy, zC (en t3))] ∧ Below w.heap.size w (w2.setCells J1_2 0 (zC (en (fm x t3))))) := ⟨H2.out.1.put 2 (off := 0) (vs := zC (en (fm x t3))) rfl (Nat.le_of_ble_eq_true rfl), below_setCells _ o1_2.out _ _ _ H2.out.2⟩
 refine ⟨_, zM H2.out.1 2 rfl rfl rfl rfl (Nat.le_of_ble_eq_true rfl), ⟨⟨_, _, rfl, rfl, rfl, zU H3.out.1 1 rfl rfl rfl rfl⟩, trivial⟩, ?_⟩
 clear H2
 generalize hgw : World.setCells _ _ _ _ = w3 at H3 ⊢
 clear hgw
 refine zF (l := [6]) rfl ?_
 refine sG rfl (fun h => zM h 3 rfl rfl rfl rfl (Nat.le_of_ble_eq_true rfl)) 3 [_, _, _, (_, zC y), _, _, _, _] H3 o1_3 fun w4 H4 => ?_
 clear H3
 refine zE (zA (wp_ret ?_))
 repeat (first | refine zJ ?_ | refine zI ?_)
 have c0 := H4.out.1.get 2 rfl 0 rfl
 have c1 := H4.out.1.get 2 rfl 1 rfl
 have c2 := H4.out.1.get 2 rfl 2 rfl
 have c3 := H4.out.1.get 2 rfl 3 rfl
 have c4 := H4.out.1.get 2 rfl 4 rfl
 have c5 := H4.out.1.get 2 rfl 5 rfl
 have c1_0 := H4.out.1.get 3 rfl 0 rfl
 have c1_1 := H4.out.1.get 3 rfl 1 rfl
 have c1_2 := H4.out.1.get 3 rfl 2 rfl
 have c1_3 := H4.out.1.get 3 rfl 3 rfl
 have c1_4 := H4.out.1.get 3 rfl 4 rfl
 have c1_5 := H4.out.1.get 3 rfl 5 rfl
 refine bodyPost_ret (v := .tuple #[N (en (fm x t3)), N y]) (by simp [results, Tryz.results73, go_sem, *]) rfl ?_
 exact ⟨rfl, H4.out.2⟩
theorem inZ_1 {α : Type} {en : α → Nat} {fa fs fm : α → α → α} {fi : α → α} {z u b : α} {g : Nat} (_C : Fd1 g en fa fs fm fi z) (t3 : α) (gx gy : Nat) (x y : Nat) (be : Bool) (ck : ∀ w, Mm w [(g, zQ pB), (0, dtab)] → Calls Tryz.prog 74 #[.agg (G1 g (.func (.func 73) #[] #[PT gx 0, PT gy 0]) (en u) (en b)).toArray, .agg (pc1 x y true).toArray] w (Rt w (.bool be))) (w : World) (hm : Mm w [(g, zQ pB), (0, dtab), (gx, [PT g 0]), (gy, zC (en t3))]) :
  Calls Tryz.prog 51 #[.agg (G1 g (.func (.func 73) #[] #[PT gx 0, PT gy 0]) (en u) (en b)).toArray, .agg (pc1 x y true).toArray] w (Rt w (.bool be)) := by
 have H0 : Hid (_ ∧ _) := ⟨hm, Below.refl w.heap.size w⟩
 clear hm
 have CK : Hid _ := ck
 clear ck
 go_enter Tryz.func51, Tryz.ntmps51
 refine wp_seq ?_
 refine zD 3 [.made (G1 g (.func (.func 73) #[] #[PT gx 0, PT gy 0]) (en u) (en b)) 102, .made (pc1 x y true) 95, .q (.bool false)] (sB H0) ?ho1 ?he1
 case ho1 => exact am (zN rfl rfl) (am (zN rfl rfl) (ar trivial))
 intro J w1 l hM hl
 have H1 : Hid (Mm w1 ([(J 0, G1 g (.func (.func 73) #[] #[PT gx 0, PT gy 0]) (en u) (en b)), (J 1, pc1 x y true)] ++ _) ∧ _) := wB H0 hM hl [0, 1]
 have o1_0 := vB H0 hM hl 0
 have o1_1 := vB H0 hM hl 1
 clear hM hl l
 generalize J 0 = J1_0 at H1 o1_0 ⊢
 generalize J 1 = J1_1 at H1 o1_1 ⊢
 clear J
 refine rN (wp_seq (wp_seq ?_))
 refine zB 8 [.q (PT J1_1 12), .q (.bool true), .q (.bool true), .gone, .gone, .gone, .gone, .q (.bool true)] H1 ?ho2 ?he2
 case ho2 => exact ag (bC 1 Ai4 (ar (ak (fun J => rfl) (ak (fun J => rfl) (ak (fun J => rfl) (ak (fun J => rfl) (ag trivial)))))))
 intro _ w2 H2
 clear H1
 refine rN (wp_cond_true rfl (wp_seq ?_))
 refine zB 4 [.q (.agg (G1 g (.func (.func 73) #[] #[PT gx 0, PT gy 0]) (en u) (en b)).toArray), .q (.agg (pc1 x y true).toArray), .call (.bool be), .q (.bool be)] H2 ?ho3 ?he3
 case ho3 => exact bT 0 Ai102 As102 (bT 1 Ai95 As95 (ac (fun w' h => eC call74 (CK.out w' (h.two 2 3 rfl rfl (by decide)))) (ar trivial)))
 intro _ w3 H3
 clear H2
 refine rN (wp_ret ?_)
 repeat (first | refine zJ ?_ | refine zI ?_)
 refine bodyPost_ret (v := .bool be) (by simp [results, Tryz.results51, go_sem, *]) rfl ?_
 exact ⟨rfl, H3.out.2⟩
theorem inN_1 {α : Type} {en : α → Nat} {fa fs fm : α → α → α} {fi : α → α} {z u b : α} {g : Nat} (_C : Fd1 g en fa fs fm fi z) (t3 : α) (gx gy : Nat) (x y : Nat) (ck : ∀ w, Mm w [(g, zQ pB), (0, dtab)] → Calls Tryz.prog 74 #[.agg (G1 g (.func (.func 73) #[] #[PT gx 0, PT gy 0]) (en u) (en b)).toArray, .agg (pc1 x y false).toArray] w (Rt w (.bool false))) (w : World) (hm : Mm w [(g, zQ pB), (0, dtab), (gx, [PT g 0]), (gy, zC (en t3))]) :
  Calls Tryz.prog 51 #[.agg (G1 g (.func (.func 73) #[] #[PT gx 0, PT gy 0]) (en u) (en b)).toArray, .agg (pc1 x y false).toArray] w (Rt w (.bool false)) := by
 have H0 : Hid (_ ∧ _) := ⟨hm, Below.refl w.heap.size w⟩
 clear hm
 have CK : Hid _ := ck
 clear ck
 go_enter Tryz.func51, Tryz.ntmps51
 refine wp_seq ?_
 refine zD 3 [.made (G1 g (.func (.func 73) #[] #[PT gx 0, PT gy 0]) (en u) (en b)) 102, .made (pc1 x y false) 95, .q (.bool false)] (sB H0) ?ho1 ?he1
 case ho1 => exact am (zN rfl rfl) (am (zN rfl rfl) (ar trivial))
 intro J w1 l hM hl
 have H1 : Hid (Mm w1 ([(J 0, G1 g (.func (.func 73) #[] #[PT gx 0, PT gy 0]) (en u) (en b)), (J 1, pc1 x y false)] ++ _) ∧ _) := wB H0 hM hl [0, 1]
 have o1_0 := vB H0 hM hl 0
 have o1_1 := vB H0 hM hl 1
 clear hM hl l
 generalize J 0 = J1_0 at H1 o1_0 ⊢
 generalize J 1 = J1_1 at H1 o1_1 ⊢
 clear J
 refine rN (wp_seq (wp_seq ?_))
 refine zB 8 [.q (PT J1_1 12), .q (.bool false), .q (.bool false), .q (.agg (G1 g (.func (.func 73) #[] #[PT gx 0, PT gy 0]) (en u) (en b)).toArray), .q (.agg (pc1 x y false).toArray), .call (.bool false), .q (.bool true), .q (.bool true)] H1 ?ho2 ?he2
 case ho2 => exact ag (bC 1 Ai4 (ar (bT 0 Ai102 As102 (bT 1 Ai95 As95 (ac (fun w' h => eC call74 (CK.out w' (h.two 2 3 rfl rfl (by decide)))) (ag (ag trivial)))))))
 intro _ w2 H2
 clear H1
 refine rN (wp_cond_true rfl (wp_seq ?_))
 refine zB 4 [.q (.agg (G1 g (.func (.func 73) #[] #[PT gx 0, PT gy 0]) (en u) (en b)).toArray), .q (.agg (pc1 x y false).toArray), .call (.bool false), .q (.bool false)] H2 ?ho3 ?he3
 case ho3 => exact bT 0 Ai102 As102 (bT 1 Ai95 As95 (ac (fun w' h => eC call74 (CK.out w' (h.two 2 3 rfl rfl (by decide)))) (ar trivial)))
 intro _ w3 H3
 clear H2
 refine rN (wp_ret ?_)
 repeat (first | refine zJ ?_ | refine zI ?_)
 refine bodyPost_ret (v := .bool false) (by simp [results, Tryz.results51, go_sem, *]) rfl ?_
 exact ⟨rfl, H3.out.2⟩
set_option maxHeartbeats 4000000 in
theorem inF_1 {α : Type} {en : α → Nat} {fa fs fm : α → α → α} {fi : α → α} {z u b : α} {g : Nat} (C : Fd1 g en fa fs fm fi z) (t3 : α) (gx gy : Nat) (S0 S1 S2 : EC.Tri α) (x y tx ty : α) (ck : ∀ w, Mm w [(g, zQ pB), (0, dtab)] → Calls Tryz.prog 74 #[.agg (G1 g (.func (.func 73) #[] #[PT gx 0, PT gy 0]) (en u) (en b)).toArray, .agg (pc1 (en x) (en y) false).toArray] w (Rt w (.bool true))) (cl : ∀ w, Mm w [(g, zQ pB), (0, dtab)] → Calls Tryz.prog 77 #[.agg (G1 g (.func (.func 73) #[] #[PT gx 0, PT gy 0]) (en u) (en b)).toArray, .agg (pc1 (en x) (en y) false).toArray] w (Rt w (V [en S0.1, en S0.2.1, en S0.2.2]))) (cw0 : ∀ w, Mm w [(g, zQ pB), (0, dtab)] → Calls Tryz.prog 80 #[.agg (G1 g (.func (.func 73) #[] #[PT gx 0, PT gy 0]) (en u) (en b)).toArray, V [en S0.1, en S0.2.1, en S0.2.2], .int .u64 15132376222941642752] w (Rt w (V [en S1.1, en S1.2.1, en S1.2.2]))) (cw1 : ∀ w, Mm w [(g, zQ pB), (0, dtab)] → Calls Tryz.prog 80 #[.agg (G1 g (.func (.func 73) #[] #[PT gx 0, PT gy 0]) (en u) (en b)).toArray, V [en S1.1, en S1.2.1, en S1.2.2], .int .u64 15132376222941642752] w (Rt w (V [en S2.1, en S2.2.1, en S2.2.2]))) (ct : ∀ w, Mm w [(g, zQ pB), (0, dtab), (gx, [PT g 0]), (gy, zC (en t3))] → Calls Tryz.prog 73 #[N (en x), N (en y), PT gx 0, PT gy 0] w (Rt w (.tuple #[N (en tx), N (en ty)]))) (ea : ∀ w, (Op.equalIn 10000 24 (N (en S2.1)) (N (en (fm tx S2.2.2)))).run Tryz.prog w = .ok false w) (w : World) (hm : Mm w [(g, zQ pB), (0, dtab), (gx, [PT g 0]), (gy, zC (en t3))]) :
  Calls Tryz.prog 51 #[.agg (G1 g (.func (.func 73) #[] #[PT gx 0, PT gy 0]) (en u) (en b)).toArray, .agg (pc1 (en x) (en y) false).toArray] w (Rt w (.bool false)) := by
 have H0 : Hid (_ ∧ _) := ⟨hm, Below.refl w.heap.size w⟩
 clear hm
 have CK : Hid _ := ck
 clear ck
 have CL : Hid _ := cl
 clear cl
 have CW0 : Hid _ := cw0
 clear cw0
 have CW1 : Hid _ := cw1
 clear cw1
 have CT : Hid _ := ct
 clear ct
 have EA : Hid _ := ea
 clear ea
 go_enter Tryz.func51, Tryz.ntmps51
 refine wp_seq ?_
 refine zD 3 [.made (G1 g (.func (.func 73) #[] #[PT gx 0, PT gy 0]) (en u) (en b)) 102, .made (pc1 (en x) (en y) false) 95, .q (.bool false)] (sB H0) ?ho1 ?he1
 case ho1 => exact am (zN rfl rfl) (am (zN rfl rfl) (ar trivial))
 intro J w1 l hM hl
 have H1 : Hid (Mm w1 ([(J 0, G1 g (.func (.func 73) #[] #[PT gx 0, PT gy 0]) (en u) (en b)), (J 1, pc1 (en x) (en y) false)] ++ _) ∧ _) := wB H0 hM hl [0, 1]
 have o1_0 := vB H0 hM hl 0
 have o1_1 := vB H0 hM hl 1
 clear hM hl l
 generalize J 0 = J1_0 at H1 o1_0 ⊢
 generalize J 1 = J1_1 at H1 o1_1 ⊢
 clear J
 refine rN (wp_seq (wp_seq ?_))
 refine zB 8 [.q (PT J1_1 12), .q (.bool false), .q (.bool false), .q (.agg (G1 g (.func (.func 73) #[] #[PT gx 0, PT gy 0]) (en u) (en b)).toArray), .q (.agg (pc1 (en x) (en y) false).toArray), .call (.bool true), .q (.bool false), .q (.bool false)] H1 ?ho2 ?he2
 case ho2 => exact ag (bC 1 Ai4 (ar (bT 0 Ai102 As102 (bT 1 Ai95 As95 (ac (fun w' h => eC call74 (CK.out w' (h.two 2 3 rfl rfl (by decide)))) (ag (ag trivial)))))))
 intro _ w2 H2
 clear H1
 refine rN (wp_cond_false rfl ?_)
 refine wp_skip (zA (wp_seq ?_))
 refine zD 5 [.q (.agg (G1 g (.func (.func 73) #[] #[PT gx 0, PT gy 0]) (en u) (en b)).toArray), .q (.agg (pc1 (en x) (en y) false).toArray), .call (V [en S0.1, en S0.2.1, en S0.2.2]), .made (cel [0, 0, 0]) 137, .laid 3 (cel [0, 0, 0]) (cel [en S0.1, en S0.2.1, en S0.2.2])] (sB H2) ?ho3 ?he3 (hL := ?hL3)
 case hL3 => exact ⟨⟨_, rfl⟩, trivial⟩
 case ho3 => exact bT 0 Ai102 As102 (bT 1 Ai95 As95 (ac (fun w' h => eC call77 (CL.out w' (h.two 2 3 rfl rfl (by decide)))) (am (ex_madeTN rfl) (ak (fun J => ⟨rfl, rfl, rfl, fun w' h => ex_laidA h rfl As137 rfl rfl rfl⟩) trivial))))
 intro J w3 l hM hl
 have H3 : Hid (Mm w3 ([(J 3, cel [en S0.1, en S0.2.1, en S0.2.2])] ++ _) ∧ _) := wB H2 hM hl [3]
 have o3_3 := vB H2 hM hl 3
 clear hM hl l H2
 generalize J 3 = J3_3 at H3 o3_3 ⊢
 clear J
 refine rN (wp_seq (wp_seq ?_))
 refine zB 3 [.q (PT J1_0 18), .q (.int .i64 2), .q (.int .i64 0)] H3 ?ho4 ?he4
 case ho4 => exact ag (bC 1 Tryz.isAgg3 (ar trivial))
 intro _ w4 H4
 clear H3
 refine rN (wp_block ?_)
 refine wp_loop_rounds 3 ?_
 refine zR (n := 2) ?_
 refine wp_seq ?_
 refine zB 1 [.q (.bool true)] H4 ?ho5 ?he5
 case ho5 => exact ag trivial
 intro _ w5 H5
 clear H4
 refine rN (wp_seq ?_)
 refine wp_cond_true rfl (wp_skip ?_)
 refine zA (wp_seq (wp_block ?_))
 refine zB 3 [.q (.agg (G1 g (.func (.func 73) #[] #[PT gx 0, PT gy 0]) (en u) (en b)).toArray), .q (V [en S0.1, en S0.2.1, en S0.2.2]), .call (V [en S1.1, en S1.2.1, en S1.2.2])] H5 ?ho6 ?he6
 case ho6 => exact bT 1 Ai102 As102 (bA 0 3 0 Ai137 As137 (ac (fun w' h => eC call80 (CW0.out w' (h.two 3 4 rfl rfl (by decide)))) trivial))
 intro _ w6 H6
 clear H5
 refine zF (l := [3]) rfl ?_
 refine sF 0 [en S1.1, en S1.2.1, en S1.2.2] [_, _, _, _, _, _, _] H6 o3_3 As137 fun w7 H7 => ?_
 clear H6
 refine zE (zK (zA ?_))
 refine zB 1 [.q (.int .i64 1)] H7 ?ho7 ?he7
 case ho7 => exact av trivial
 intro _ w8 H8
 clear H7
 refine zF (l := [1]) rfl ?_
 refine zG (d := 24) rfl rfl rfl rfl ?_
 simp only [Act.put, sa, sz, ss]
 refine zE (zA ?_)
 refine zR (n := 1) ?_
 refine wp_seq ?_
 refine zB 1 [.q (.bool true)] H8 ?ho8 ?he8
 case ho8 => exact ag trivial
 intro _ w9 H9
 clear H8
 refine rN (wp_seq ?_)
 refine wp_cond_true rfl (wp_skip ?_)
 refine zA (wp_seq (wp_block ?_))
 refine zB 3 [.q (.agg (G1 g (.func (.func 73) #[] #[PT gx 0, PT gy 0]) (en u) (en b)).toArray), .q (V [en S1.1, en S1.2.1, en S1.2.2]), .call (V [en S2.1, en S2.2.1, en S2.2.2])] H9 ?ho9 ?he9
 case ho9 => exact bT 1 Ai102 As102 (bA 0 3 0 Ai137 As137 (ac (fun w' h => eC call80 (CW1.out w' (h.two 3 4 rfl rfl (by decide)))) trivial))
 intro _ w10 H10
 clear H9
 refine zF (l := [3]) rfl ?_
 refine sF 0 [en S2.1, en S2.2.1, en S2.2.2] [_, _, _, _, _, _, _] H10 o3_3 As137 fun w11 H11 => ?_
 clear H10
 refine zE (zK (zA ?_))
 refine zB 1 [.q (.int .i64 2)] H11 ?ho10 ?he10
 case ho10 => exact av trivial
 intro _ w12 H12
 clear H11
 refine zF (l := [1]) rfl ?_
 refine zG (d := 24) rfl rfl rfl rfl ?_
 simp only [Act.put, sa, sz, ss]
 refine zE (zA ?_)
 refine zR (n := 0) ?_
 refine wp_seq ?_
 refine zB 1 [.q (.bool false)] H12 ?ho11 ?he11
 case ho11 => exact ag trivial
 intro _ w13 H13
 clear H12
 refine rN (wp_seq (wp_cond_false rfl ?_))
 refine wp_exit ?_
 repeat refine then_exit ?_
 refine block_exit ?_
 refine zA (wp_seq ?_)
 refine zD 14 [.q (PT J1_0 17), .q (.func (.func 73) #[] #[PT gx 0, PT gy 0]), .q (PT J1_1 0), .q (N (en x)), .q (PT J1_1 6), .q (N (en y)), .call (.tuple #[N (en tx), N (en ty)]), .q (.tuple #[N (en tx), N (en ty)]), .q (N (en tx)), .q (N (en ty)), .made zero6 24, .made zero6 24, .laid 10 zero6 (zC (en tx)), .laid 11 zero6 (zC (en ty))] (sB H13) ?ho12 ?he12 (hL := ?hL12)
 case hL12 => exact ⟨⟨_, rfl⟩, ⟨_, rfl⟩, trivial⟩
 case ho12 => exact ag (bC 1 Tryz.isAgg100 (ag (bN 2 (ag (bN 2 (ac (fun w' h => ⟨73, #[N (en x), N (en y), PT gx 0, PT gy 0], zO rfl call73 rfl (mpn rfl) rfl, CT.out w' (h.pick [3, 4, 5, 6] rfl (by decide))⟩) (ar (ag (ag (am (zH rfl) (am (zH rfl) (ak (fun J => ⟨rfl, rfl, rfl, fun w' h => zL h rfl rfl rfl⟩) (ak (fun J => ⟨rfl, rfl, rfl, fun w' h => zL h rfl rfl rfl⟩) trivial)))))))))))))
 intro J w14 l hM hl
 have H14 : Hid (Mm w14 ([(J 10, zC (en tx)), (J 11, zC (en ty))] ++ _) ∧ _) := wB H13 hM hl [10, 11]
 have o12_10 := vB H13 hM hl 10
 have o12_11 := vB H13 hM hl 11
 clear hM hl l H13
 generalize J 10 = J12_10 at H14 o12_10 ⊢
 generalize J 11 = J12_11 at H14 o12_11 ⊢
 clear J
 refine rN (wp_seq ?_)
 refine zP 25 [.q (PT J3_3 0), .q (N (en S2.1)), .q (PT J1_0 0), .q (PT J1_0 2), .q (.func (.func 71) #[PT g 0] #[]), .q (N (en tx)), .q (PT J3_3 12), .q (N (en S2.2.2)), .call (N (en (fm tx S2.2.2))), .q (.bool false), .q (.bool false), .gone, .gone, .gone, .gone, .gone, .gone, .gone, .gone, .gone, .gone, .gone, .gone, .q (.bool false), .q (.bool false)] H14 ?ho13 ?he13 (hL := ?hL13)
 case hL13 => exact trivial
 case ho13 => exact ag (aq (fun w' h => ex_loadN (i := 0) h 2 rfl rfl rfl rfl) (ag (ag (bC 3 Ai55 (bN 0 (ag (aq (fun w' h => ex_loadN (i := 2) h 2 rfl rfl rfl rfl) (ac (fun w' h => ⟨71, #[PT g 0, N (en tx), N (en S2.2.2)], zO rfl call71 rfl (mpn rfl) rfl, C.cm _ _ w' (h.two 5 6 rfl rfl (by decide))⟩) (ak (fun J => ⟨rfl, fun w' _ => exec_eq6 EA.out rfl rfl rfl⟩) (ar (ak (fun J => rfl) (ak (fun J => rfl) (ak (fun J => rfl) (ak (fun J => rfl) (ak (fun J => rfl) (ak (fun J => rfl) (ak (fun J => rfl) (ak (fun J => rfl) (ak (fun J => rfl) (ak (fun J => rfl) (ak (fun J => rfl) (ak (fun J => rfl) (ag (ar trivial))))))))))))))))))))))))
 intro _ w15 H15
 clear H14
 refine rN (wp_ret ?_)
 repeat (first | refine zJ ?_ | refine zI ?_)
 refine bodyPost_ret (v := .bool false) (by simp [results, Tryz.results51, go_sem, *]) rfl ?_
 exact ⟨rfl, H15.out.2⟩
set_option maxHeartbeats 4000000 in
theorem inT_1 {α : Type} {en : α → Nat} {fa fs fm : α → α → α} {fi : α → α} {z u b : α} {g : Nat} (C : Fd1 g en fa fs fm fi z) (t3 : α) (gx gy : Nat) (S0 S1 S2 : EC.Tri α) (x y tx ty : α) (bb : Bool) (ck : ∀ w, Mm w [(g, zQ pB), (0, dtab)] → Calls Tryz.prog 74 #[.agg (G1 g (.func (.func 73) #[] #[PT gx 0, PT gy 0]) (en u) (en b)).toArray, .agg (pc1 (en x) (en y) false).toArray] w (Rt w (.bool true))) (cl : ∀ w, Mm w [(g, zQ pB), (0, dtab)] → Calls Tryz.prog 77 #[.agg (G1 g (.func (.func 73) #[] #[PT gx 0, PT gy 0]) (en u) (en b)).toArray, .agg (pc1 (en x) (en y) false).toArray] w (Rt w (V [en S0.1, en S0.2.1, en S0.2.2]))) (cw0 : ∀ w, Mm w [(g, zQ pB), (0, dtab)] → Calls Tryz.prog 80 #[.agg (G1 g (.func (.func 73) #[] #[PT gx 0, PT gy 0]) (en u) (en b)).toArray, V [en S0.1, en S0.2.1, en S0.2.2], .int .u64 15132376222941642752] w (Rt w (V [en S1.1, en S1.2.1, en S1.2.2]))) (cw1 : ∀ w, Mm w [(g, zQ pB), (0, dtab)] → Calls Tryz.prog 80 #[.agg (G1 g (.func (.func 73) #[] #[PT gx 0, PT gy 0]) (en u) (en b)).toArray, V [en S1.1, en S1.2.1, en S1.2.2], .int .u64 15132376222941642752] w (Rt w (V [en S2.1, en S2.2.1, en S2.2.2]))) (ct : ∀ w, Mm w [(g, zQ pB), (0, dtab), (gx, [PT g 0]), (gy, zC (en t3))] → Calls Tryz.prog 73 #[N (en x), N (en y), PT gx 0, PT gy 0] w (Rt w (.tuple #[N (en tx), N (en ty)]))) (ea : ∀ w, (Op.equalIn 10000 24 (N (en S2.1)) (N (en (fm tx S2.2.2)))).run Tryz.prog w = .ok true w) (eb : ∀ w, (Op.equalIn 10000 24 (N (en S2.2.1)) (N (en (fm (fs z ty) S2.2.2)))).run Tryz.prog w = .ok bb w) (w : World) (hm : Mm w [(g, zQ pB), (0, dtab), (gx, [PT g 0]), (gy, zC (en t3))]) :
  Calls Tryz.prog 51 #[.agg (G1 g (.func (.func 73) #[] #[PT gx 0, PT gy 0]) (en u) (en b)).toArray, .agg (pc1 (en x) (en y) false).toArray] w (Rt w (.bool bb)) := by
 have H0 : Hid (_ ∧ _) := ⟨hm, Below.refl w.heap.size w⟩
 clear hm
 have CK : Hid _ := ck
 clear ck
 have CL : Hid _ := cl
 clear cl
 have CW0 : Hid _ := cw0
 clear cw0
 have CW1 : Hid _ := cw1
 clear cw1
 have CT : Hid _ := ct
 clear ct
 have EA : Hid _ := ea
 clear ea
 have EB : Hid _ := eb
 clear eb
 go_enter Tryz.func51, Tryz.ntmps51
 refine wp_seq ?_
 refine zD 3 [.made (G1 g (.func (.func 73) #[] #[PT gx 0, PT gy 0]) (en u) (en b)) 102, .made (pc1 (en x) (en y) false) 95, .q (.bool false)] (sB H0) ?ho1 ?he1
 case ho1 => exact am (zN rfl rfl) (am (zN rfl rfl) (ar trivial))
 intro J w1 l hM hl
 have H1 : Hid (Mm w1 ([(J 0, G1 g (.func (.func 73) #[] #[PT gx 0, PT gy 0]) (en u) (en b)), (J 1, pc1 (en x) (en y) false)] ++ _) ∧ _) := wB H0 hM hl [0, 1]
 have o1_0 := vB H0 hM hl 0
 have o1_1 := vB H0 hM hl 1
 clear hM hl l
 generalize J 0 = J1_0 at H1 o1_0 ⊢
 generalize J 1 = J1_1 at H1 o1_1 ⊢
 clear J
 refine rN (wp_seq (wp_seq ?_))
 refine zB 8 [.q (PT J1_1 12), .q (.bool false), .q (.bool false), .q (.agg (G1 g (.func (.func 73) #[] #[PT gx 0, PT gy 0]) (en u) (en b)).toArray), .q (.agg (pc1 (en x) (en y) false).toArray), .call (.bool true), .q (.bool false), .q (.bool false)] H1 ?ho2 ?he2
 case ho2 => exact ag (bC 1 Ai4 (ar (bT 0 Ai102 As102 (bT 1 Ai95 As95 (ac (fun w' h => eC call74 (CK.out w' (h.two 2 3 rfl rfl (by decide)))) (ag (ag trivial)))))))
 intro _ w2 H2
 clear H1
 refine rN (wp_cond_false rfl ?_)
 refine wp_skip (zA (wp_seq ?_))
 refine zD 5 [.q (.agg (G1 g (.func (.func 73) #[] #[PT gx 0, PT gy 0]) (en u) (en b)).toArray), .q (.agg (pc1 (en x) (en y) false).toArray), .call (V [en S0.1, en S0.2.1, en S0.2.2]), .made (cel [0, 0, 0]) 137, .laid 3 (cel [0, 0, 0]) (cel [en S0.1, en S0.2.1, en S0.2.2])] (sB H2) ?ho3 ?he3 (hL := ?hL3)
 case hL3 => exact ⟨⟨_, rfl⟩, trivial⟩
 case ho3 => exact bT 0 Ai102 As102 (bT 1 Ai95 As95 (ac (fun w' h => eC call77 (CL.out w' (h.two 2 3 rfl rfl (by decide)))) (am (ex_madeTN rfl) (ak (fun J => ⟨rfl, rfl, rfl, fun w' h => ex_laidA h rfl As137 rfl rfl rfl⟩) trivial))))
 intro J w3 l hM hl
 have H3 : Hid (Mm w3 ([(J 3, cel [en S0.1, en S0.2.1, en S0.2.2])] ++ _) ∧ _) := wB H2 hM hl [3]
 have o3_3 := vB H2 hM hl 3
 clear hM hl l H2
 generalize J 3 = J3_3 at H3 o3_3 ⊢
 clear J
 refine rN (wp_seq (wp_seq ?_))
 refine zB 3 [.q (PT J1_0 18), .q (.int .i64 2), .q (.int .i64 0)] H3 ?ho4 ?he4
 case ho4 => exact ag (bC 1 Tryz.isAgg3 (ar trivial))
 intro _ w4 H4
 clear H3
 refine rN (wp_block ?_)
 refine wp_loop_rounds 3 ?_
 refine zR (n := 2) ?_
 refine wp_seq ?_
 refine zB 1 [.q (.bool true)] H4 ?ho5 ?he5
 case ho5 => exact ag trivial
 intro _ w5 H5
 clear H4
 refine rN (wp_seq ?_)
 refine wp_cond_true rfl (wp_skip ?_)
 refine zA (wp_seq (wp_block ?_))
 refine zB 3 [.q (.agg (G1 g (.func (.func 73) #[] #[PT gx 0, PT gy 0]) (en u) (en b)).toArray), .q (V [en S0.1, en S0.2.1, en S0.2.2]), .call (V [en S1.1, en S1.2.1, en S1.2.2])] H5 ?ho6 ?he6
 case ho6 => exact bT 1 Ai102 As102 (bA 0 3 0 Ai137 As137 (ac (fun w' h => eC call80 (CW0.out w' (h.two 3 4 rfl rfl (by decide)))) trivial))
 intro _ w6 H6
 clear H5
 refine zF (l := [3]) rfl ?_
 refine sF 0 [en S1.1, en S1.2.1, en S1.2.2] [_, _, _, _, _, _, _] H6 o3_3 As137 fun w7 H7 => ?_
 clear H6
 refine zE (zK (zA ?_))
 refine zB 1 [.q (.int .i64 1)] H7 ?ho7 ?he7
 case ho7 => exact av trivial
 intro _ w8 H8
 clear H7
 refine zF (l := [1]) rfl ?_
 refine zG (d := 24) rfl rfl rfl rfl ?_
 simp only [Act.put, sa, sz, ss]
 refine zE (zA ?_)
 refine zR (n := 1) ?_
 refine wp_seq ?_
 refine zB 1 [.q (.bool true)] H8 ?ho8 ?he8
 case ho8 => exact ag trivial
 intro _ w9 H9
 clear H8
 refine rN (wp_seq ?_)
 refine wp_cond_true rfl (wp_skip ?_)
 refine zA (wp_seq (wp_block ?_))
 refine zB 3 [.q (.agg (G1 g (.func (.func 73) #[] #[PT gx 0, PT gy 0]) (en u) (en b)).toArray), .q (V [en S1.1, en S1.2.1, en S1.2.2]), .call (V [en S2.1, en S2.2.1, en S2.2.2])] H9 ?ho9 ?he9
 case ho9 => exact bT 1 Ai102 As102 (bA 0 3 0 Ai137 As137 (ac (fun w' h => eC call80 (CW1.out w' (h.two 3 4 rfl rfl (by decide)))) trivial))
 intro _ w10 H10
 clear H9
 refine zF (l := [3]) rfl ?_
 refine sF 0 [en S2.1, en S2.2.1, en S2.2.2] [_, _, _, _, _, _, _] H10 o3_3 As137 fun w11 H11 => ?_
 clear H10
 refine zE (zK (zA ?_))
 refine zB 1 [.q (.int .i64 2)] H11 ?ho10 ?he10
 case ho10 => exact av trivial
 intro _ w12 H12
 clear H11
 refine zF (l := [1]) rfl ?_
 refine zG (d := 24) rfl rfl rfl rfl ?_
 simp only [Act.put, sa, sz, ss]
 refine zE (zA ?_)
 refine zR (n := 0) ?_
 refine wp_seq ?_
 refine zB 1 [.q (.bool false)] H12 ?ho11 ?he11
 case ho11 => exact ag trivial
 intro _ w13 H13
 clear H12
 refine rN (wp_seq (wp_cond_false rfl ?_))
 refine wp_exit ?_
 repeat refine then_exit ?_
 refine block_exit ?_
 refine zA (wp_seq ?_)
 refine zD 14 [.q (PT J1_0 17), .q (.func (.func 73) #[] #[PT gx 0, PT gy 0]), .q (PT J1_1 0), .q (N (en x)), .q (PT J1_1 6), .q (N (en y)), .call (.tuple #[N (en tx), N (en ty)]), .q (.tuple #[N (en tx), N (en ty)]), .q (N (en tx)), .q (N (en ty)), .made zero6 24, .made zero6 24, .laid 10 zero6 (zC (en tx)), .laid 11 zero6 (zC (en ty))] (sB H13) ?ho12 ?he12 (hL := ?hL12)
 case hL12 => exact ⟨⟨_, rfl⟩, ⟨_, rfl⟩, trivial⟩
 case ho12 => exact ag (bC 1 Tryz.isAgg100 (ag (bN 2 (ag (bN 2 (ac (fun w' h => ⟨73, #[N (en x), N (en y), PT gx 0, PT gy 0], zO rfl call73 rfl (mpn rfl) rfl, CT.out w' (h.pick [3, 4, 5, 6] rfl (by decide))⟩) (ar (ag (ag (am (zH rfl) (am (zH rfl) (ak (fun J => ⟨rfl, rfl, rfl, fun w' h => zL h rfl rfl rfl⟩) (ak (fun J => ⟨rfl, rfl, rfl, fun w' h => zL h rfl rfl rfl⟩) trivial)))))))))))))
 intro J w14 l hM hl
 have H14 : Hid (Mm w14 ([(J 10, zC (en tx)), (J 11, zC (en ty))] ++ _) ∧ _) := wB H13 hM hl [10, 11]
 have o12_10 := vB H13 hM hl 10
 have o12_11 := vB H13 hM hl 11
 clear hM hl l H13
 generalize J 10 = J12_10 at H14 o12_10 ⊢
 generalize J 11 = J12_11 at H14 o12_11 ⊢
 clear J
 refine rN (wp_seq ?_)
 refine zP 25 [.q (PT J3_3 0), .q (N (en S2.1)), .q (PT J1_0 0), .q (PT J1_0 2), .q (.func (.func 71) #[PT g 0] #[]), .q (N (en tx)), .q (PT J3_3 12), .q (N (en S2.2.2)), .call (N (en (fm tx S2.2.2))), .q (.bool true), .q (.bool true), .q (PT J3_3 6), .q (N (en S2.2.1)), .q (PT J1_0 0), .q (PT J1_0 2), .q (.func (.func 71) #[PT g 0] #[]), .q (.agg (G1 g (.func (.func 73) #[] #[PT gx 0, PT gy 0]) (en u) (en b)).toArray), .q (N (en ty)), .call (N (en (fs z ty))), .q (PT J3_3 12), .q (N (en S2.2.2)), .call (N (en (fm (fs z ty) S2.2.2))), .q (.bool bb), .q (.bool bb), .q (.bool bb)] H14 ?ho13 ?he13 (hL := ?hL13)
 case hL13 => exact trivial
 case ho13 => exact ag (aq (fun w' h => ex_loadN (i := 0) h 2 rfl rfl rfl rfl) (ag (ag (bC 3 Ai55 (bN 0 (ag (aq (fun w' h => ex_loadN (i := 2) h 2 rfl rfl rfl rfl) (ac (fun w' h => ⟨71, #[PT g 0, N (en tx), N (en S2.2.2)], zO rfl call71 rfl (mpn rfl) rfl, C.cm _ _ w' (h.two 5 6 rfl rfl (by decide))⟩) (ak (fun J => ⟨rfl, fun w' _ => exec_eq6 EA.out rfl rfl rfl⟩) (ar (ag (aq (fun w' h => ex_loadN (i := 1) h 2 rfl rfl rfl rfl) (ag (ag (bC 3 Ai55 (bT 3 Ai102 As102 (bN 1 (ac (fun w' h => eC call81 (minus_1 C _ w' (h.two 5 6 rfl rfl (by decide)))) (ag (aq (fun w' h => ex_loadN (i := 2) h 2 rfl rfl rfl rfl) (ac (fun w' h => ⟨71, #[PT g 0, N (en (fs z ty)), N (en S2.2.2)], zO rfl call71 rfl (mpn rfl) rfl, C.cm _ _ w' (h.two 5 6 rfl rfl (by decide))⟩) (ak (fun J => ⟨rfl, fun w' _ => exec_eq6 EB.out rfl rfl rfl⟩) (ag (ar trivial))))))))))))))))))))))))
 intro _ w15 H15
 clear H14
 refine rN (wp_ret ?_)
 repeat (first | refine zJ ?_ | refine zI ?_)
 refine bodyPost_ret (v := .bool bb) (by simp [results, Tryz.results51, go_sem, *]) rfl ?_
 exact ⟨rfl, H15.out.2⟩
end Rg
end Go.Proofs.YtahgdighnlekdaaGreatDoor
end
section
namespace Go.Proofs.YtahgdighnlekdaaGreatDoor
open Go.RowKit
namespace Rg
def chained0 (full : Array Oper) (p : Nat) : Bool :=
 eachOp full (fun i o => o.after.all fun e => !Region.binds .any e || decide (e.on < i)) &&
 eachOp full (fun i o => decide (i < p) || (List.range i).all fun j => waits o j)
theorem waitsQ_of {full : Array Oper} {f : Nat} {o : Oper} {j : Nat} (h : waits o j = true) : waitsQ full f o j = true := by
 cases f with
 | zero => exact h
 | succ f => unfold waitsQ; rw [h]; rfl
section
variable {P : Program} {ops : Array Oper} {a₀ : Act} {Q : Exit → Act → World → Prop}
theorem quiet_step {full : Array Oper} {ks : List Kind} {n p : Nat} (hO : Orderly ops ks n) (hn : n = a₀.tmps.size) (hfull : ∀ i, i < p → full[i]? = ops[i]?) (hgd : ∀ {i : Nat} {o : Oper} {g : Nat} {b : Bool}, ops[i]? = some o → o.guard = some (g, b) → g < p)
  {K : Act → World → Prop} {l : Array Bool} {J : Nat → Nat} {a : Act} {w : World} (hA : Agree ops ks a₀ l J a) {i : Nat} {o : Oper} {v : Value} (hip : i < p) (ho : ops[i]? = some o) (hk : ks[i]? = some (.q v))
  (hedge : ∀ e ∈ o.after, Region.binds .any e = true → l.getD e.on false = true) (hok : Region.wanted o (yielded ops (fill J 0 ops.toList ks a₀).tmps) = true ∧ (execOp (fill J 0 ops.toList ks a₀).eval o).run P w = .ok (.value v) w)
  (hnext : Agree ops ks a₀ (l.setIfInBounds i true) J (a.put o.dst v) → K (a.put o.dst v) w) : wpOp P full Q i K a w := by
 obtain ⟨he, hw0⟩ := hA.sees hO ho hedge
 have hy : ∀ ts, Region.wanted o (yielded full ts) = Region.wanted o (yielded ops ts) := fun ts => by
  unfold Region.wanted
  cases hg : o.guard with
  | none => rfl
  | some gw =>
   obtain ⟨g, want⟩ := gw
   have : yielded full ts g = yielded ops ts g := by unfold yielded; rw [hfull g (hgd ho hg)]
   simp only [this]
 refine wpOp_step (by rw [hfull i hip]; exact ho) (fun K' hK => ?_)
 rw [hy, hw0, if_pos hok.1]
 unfold Oper.wp
 rw [he, hok.2]
 exact hK _ _ (hnext (hA.step hO hn ho hk (fun _ _ _ _ => rfl)))
theorem enter_step {full : Array Oper} {ks : List Kind} {n p : Nat} (hO : Orderly ops ks n) (hfull : ∀ i, i < p → full[i]? = ops[i]?) (hgd : ∀ {i : Nat} {o : Oper} {g : Nat} {b : Bool}, ops[i]? = some o → o.guard = some (g, b) → g < p)
  {K : Act → World → Prop} {l : Array Bool} {J : Nat → Nat} {a : Act} {w : World} (hA : Agree ops ks a₀ l J a) {i : Nat} {o : Oper} (hip : i < p) (ho : ops[i]? = some o)
  (hedge : ∀ e ∈ o.after, Region.binds .any e = true → l.getD e.on false = true) {f : FuncId} {args : Array Value} {R : Value → World → Prop} (hw : Region.wanted o (yielded ops (fill J 0 ops.toList ks a₀).tmps) = true) (hx : (execOp (fill J 0 ops.toList ks a₀).eval o).run P w = .ok (.enter f args) w)
  (hc : Calls P f args w (fun e w' => ∃ v, e = .returned v ∧ R v w')) (hnext : ∀ v w', R v w' → K (a.put o.dst v) w') : wpOp P full Q i K a w := by
 obtain ⟨he, hw0⟩ := hA.sees hO ho hedge
 have hy : ∀ ts, Region.wanted o (yielded full ts) = Region.wanted o (yielded ops ts) := fun ts => by
  unfold Region.wanted
  cases hg : o.guard with
  | none => rfl
  | some gw =>
   obtain ⟨g, want⟩ := gw
   have : yielded full ts g = yielded ops ts g := by unfold yielded; rw [hfull g (hgd ho hg)]
   simp only [this]
 refine wpOp_step (by rw [hfull i hip]; exact ho) (fun K' hK => ?_)
 rw [hy, hw0, if_pos hw]
 unfold Oper.wp
 rw [he, hx]
 refine Calls.mono hc ?_
 rintro e w' ⟨v, rfl, hr⟩
 exact hK _ _ (hnext v w' hr)
/-- Others than the first one do not hang on what it will answer. -/
theorem Agree.other {n : Nat} {v v' : Value} {qs : List Kind} (hO : Orderly ops (.call v :: qs) n) (hO' : Orderly ops (.call v' :: qs) n) (hn : n = a₀.tmps.size) {l : Array Bool} {J : Nat → Nat} {a : Act} (h : Agree ops (.call v :: qs) a₀ l J a) (h0 : l.getD 0 false = false) : Agree ops (.call v' :: qs) a₀ l J a := by
 refine ⟨h.defers, h.size, fun d hd => ?_⟩
 rw [h.slots d hd]
 by_cases hw : ∃ (j : Nat) (oj : Oper), ops[j]? = some oj ∧ oj.dst = some d
 ·obtain ⟨j, oj, hj, hdj⟩ := hw
  have hl := hd j oj hj hdj
  cases j with
  | zero => rw [h0] at hl; cases hl
  | succ j =>
   obtain ⟨kj, hkj⟩ := kind_at hO hj
   have hkj' : (Kind.call v' :: qs)[j + 1]? = some kj := by simpa using hkj
   rw [fill_one hO hn J hj hkj hdj, fill_one hO' hn J hj hkj' hdj]
 ·have hno : ∀ o' ∈ ops.toList, o'.dst ≠ some d := fun o' ho' hd' => by
   obtain ⟨j, hj, ej⟩ := List.getElem_of_mem ho'
   exact hw ⟨j, o', by rw [← Array.getElem?_toList, List.getElem?_eq_getElem hj, ej], hd'⟩
  rw [fill_other J d 0 _ _ _ hno, fill_other J d 0 _ _ _ hno]
theorem low_ready {full : Array Oper} {p x : Nat} (hwt : ∀ {i : Nat} {o : Oper}, full[i]? = some o → p ≤ i → ∀ j, j < i → waits o j = true) {l : Array Bool} (hx : x < p) (hxf : l.getD x false = false) : ∀ i ∈ Region.ready .any full l, i < p := fun i hi => by
 obtain ⟨_, o, ho, hedge⟩ := mem_ready.1 hi
 rcases Nat.lt_or_ge i p with h' | h'
 ·exact h'
 ·have := waits_spec (hwt ho h' x (by omega)) hedge
  rw [hxf] at this
  cases this
theorem some_ready {full : Array Oper} {x : Nat} (hup : ∀ {i : Nat} {o : Oper}, full[i]? = some o → ∀ e ∈ o.after, Region.binds .any e = true → e.on < i) {l : Array Bool} (hsz : l.size = full.size) (hx : x < full.size) (hxf : l.getD x false = false) : Region.ready .any full l ≠ [] := fun hr => by
 have : ∀ i, i < full.size → l.getD i false = true := by
  intro i
  induction i using Nat.strongRecOn with
  | _ i ih2 =>
   intro hi
   have hi' : i < l.size := by omega
   cases hl : l.getD i true with
   | true => simpa [hi'] using hl
   | false =>
    exfalso
    have : i ∈ Region.ready .any full l := mem_ready.2 ⟨hl, full[i], Array.getElem?_eq_getElem hi, fun e he hb => by
     have h1 := hup (Array.getElem?_eq_getElem hi) e he hb
     exact ih2 e.on h1 (by omega)⟩
    rw [hr] at this
    cases this
 rw [this x hx] at hxf
 cases hxf
theorem rest_count {full : Array Oper} {p : Nat} {l : Array Bool} (hs : l.size = full.size) (hl : ∀ i, p ≤ i → i < full.size → l.getD i true = false) : full.size - p ≤ l.toList.count false := by
 have h3 : ∀ (m : Nat) (l : Array Bool), l.size = full.size → m ≤ full.size - p → (∀ i, full.size - m ≤ i → i < full.size → l.getD i true = false) → m ≤ l.toList.count false := by
  intro m
  induction m with
  | zero => intro l _ _ _; omega
  | succ m ih =>
   intro l hs hm hl
   have h4 := count_set (hl (full.size - (m + 1)) (Nat.le_refl _) (by omega))
   have h5 := ih (l.setIfInBounds (full.size - (m + 1)) true) (by simp [hs]) (by omega) (fun i hi1 hi2 => by rw [getD_set_ne true (by omega)]; exact hl i (by omega) hi2)
   omega
 exact h3 (full.size - p) l hs (Nat.le_refl _) (fun i hi1 hi2 => hl i (by omega) hi2)
/-- Behind the call: the other ones, in no order, then the rest. -/
theorem open_after {full : Array Oper} {ks : List Kind} {n p : Nat} (hO : Orderly ops ks n) (hn : n = a₀.tmps.size) (hp : ops.size = p) (hpf : p ≤ full.size) (hfull : ∀ i, i < p → full[i]? = ops[i]?) (hgd : ∀ {i : Nat} {o : Oper} {g : Nat} {b : Bool}, ops[i]? = some o → o.guard = some (g, b) → g < p)
  (hup : ∀ {i : Nat} {o : Oper}, full[i]? = some o → ∀ e ∈ o.after, Region.binds .any e = true → e.on < i)
  (hwt : ∀ {i : Nat} {o : Oper}, full[i]? = some o → p ≤ i → ∀ j, j < i → waits o j = true) {J : Nat → Nat} {w : World}
  (hqs : ∀ {i : Nat} {o : Oper}, 0 < i → ops[i]? = some o → ∃ v, ks[i]? = some (.q v) ∧ Region.wanted o (yielded ops (fill J 0 ops.toList ks a₀).tmps) = true ∧ (execOp (fill J 0 ops.toList ks a₀).eval o).run P w = .ok (.value v) w)
  (hend : wpOps P full Q (List.range' p (full.size - p)) (fill J 0 ops.toList ks a₀) w) :
  ∀ (fuel : Nat) (l : Array Bool) (a : Act), l.size = full.size → l.toList.count false ≤ fuel → l.getD 0 false = true → (∀ i, p ≤ i → i < full.size → l.getD i true = false) → Agree ops ks a₀ l J a → wpAny P .any full Q fuel l a w := by
 intro fuel
 induction fuel with
 | zero =>
  intro l a hsz hc h0 hu hA
  have hall : ∀ i, i < p → l.getD i false = true := fun i hi => by
   cases hb : l.getD i true with
   | false => have := count_set hb; omega
   | true =>
    have hi' : i < l.size := by omega
    simpa [hi'] using hb
  have := rest_count hsz hu
  rw [whole_of hp hA hall]
  exact rest_any p hup (fun ho hp j hj => waitsQ_of (hwt ho hp j hj)) (full.size - p) 0 p l _ w (by omega) (Nat.le_refl _) hsz (by omega) hall hu hend
 | succ fuel ih =>
  intro l a hsz hc h0 hu hA
  have hct := rest_count hsz hu
  by_cases hall : ∀ i, i < p → l.getD i false = true
  ·rw [whole_of hp hA hall]
   exact rest_any p hup (fun ho hp j hj => waitsQ_of (hwt ho hp j hj)) (full.size - p) (fuel + 1) p l _ w (by omega) (Nat.le_refl _) hsz (by omega) hall hu hend
  ·have hex : ∃ x, x < p ∧ l.getD x false = false := by
    apply Classical.byContradiction
    intro hno
    apply hall
    intro i hi
    cases hb : l.getD i false with
    | true => rfl
    | false => exact absurd ⟨i, hi, hb⟩ hno
   obtain ⟨x, hx, hxf⟩ := hex
   refine ⟨fun hr => absurd hr (some_ready hup hsz (by omega) hxf), fun i hi => ?_⟩
   have hip := low_ready hwt hx hxf i hi
   obtain ⟨hun, o, ho, hedge⟩ := mem_ready.1 hi
   have ho' : ops[i]? = some o := by rw [← hfull i hip]; exact ho
   have hc' := count_set hun
   have hi0 : 0 < i := by
    rcases Nat.eq_zero_or_pos i with h | h
    ·subst h
     rw [(getD_same hun).1] at h0
     cases h0
    ·exact h
   obtain ⟨v, hk, hok⟩ := hqs hi0 ho'
   exact quiet_step hO hn hfull hgd hA hip ho' hk hedge hok (fun hA' => ih _ _ (by simp [hsz]) (by omega) (by rw [getD_set_ne false (by omega)]; exact h0) (fun j hj hj2 => by rw [getD_set_ne true (by omega)]; exact hu j hj hj2) hA')
/-- **The law**: the first operation is a call; what it answers, and leaves, is known behind it alone. -/
theorem region_open {full : Array Oper} {id : Nat} {a : Act} {w : World} (hm : P.follows .mixedOrders = true) (p : Nat) (qs : List Kind) (pre : List Oper) (F : Value → Act) (R : Value → World → Prop) (hpre : full.toList.take p = pre)
  (hF : ∀ v J, fill J 0 pre (.call v :: qs) a = F v) (hor : ∀ v, (orderly pre.toArray (.call v :: qs) a.tmps.size && guarded pre.toArray p && chained0 full p && decide (p ≤ full.size) && decide (0 < p)) = true)
  {o0 : Oper} (ho0 : pre[0]? = some o0) (hw0 : Region.wanted o0 (yielded pre.toArray (F undef).tmps) = true)
  (hx0 : ∀ w', Below w.heap.size w w' → ∃ f args, (execOp (F undef).eval o0).run P w' = .ok (.enter f args) w' ∧ Calls P f args w' (fun e w'' => ∃ v, e = .returned v ∧ Below w'.heap.size w' w'' ∧ R v w''))
  (hqs : ∀ v w', Below w.heap.size w w' → ∀ {i : Nat} {o : Oper}, 0 < i → pre[i]? = some o → ∃ u, (Kind.call v :: qs)[i]? = some (.q u) ∧ Region.wanted o (yielded pre.toArray (F v).tmps) = true ∧ (execOp (F v).eval o).run P w' = .ok (.value u) w')
  (hend : ∀ v w', Below w.heap.size w w' → R v w' → wpOps P full Q (List.range' p (full.size - p)) (F v) w') :
  (Code.region id full true).wp P Q a w := by
 subst hpre
 rw [← take_arr] at hor hw0 hqs
 have hor0 := hor undef
 simp only [Bool.and_eq_true, decide_eq_true_eq] at hor0
 obtain ⟨⟨⟨⟨_, h2⟩, h3⟩, h4⟩, hp0⟩ := hor0
 have hOr : ∀ v, Orderly (full.extract 0 p) (.call v :: qs) a.tmps.size := fun v => by
  have h := hor v
  simp only [Bool.and_eq_true, decide_eq_true_eq] at h
  exact Orderly.of h.1.1.1.1
 unfold chained0 at h3
 simp only [Bool.and_eq_true] at h3
 obtain ⟨h5, h6⟩ := h3
 have hup : ∀ {i : Nat} {o : Oper}, full[i]? = some o → ∀ e ∈ o.after, Region.binds .any e = true → e.on < i := fun ho e he hb => by
  have := Array.all_eq_true_iff_forall_mem.1 (zS h5 ho) e he
  simpa [hb] using this
 have hwt : ∀ {i : Nat} {o : Oper}, full[i]? = some o → p ≤ i → ∀ j, j < i → waits o j = true := fun ho hi j hj => by
  have := zS h6 ho
  simp only [Bool.or_eq_true, decide_eq_true_eq] at this
  rcases this with h7 | h7
  ·omega
  ·exact List.all_eq_true.1 h7 j (List.mem_range.2 hj)
 have hgd : ∀ {i : Nat} {o : Oper} {g : Nat} {b : Bool}, (full.extract 0 p)[i]? = some o → o.guard = some (g, b) → g < p := fun ho hg => guarded_spec h2 ho hg
 have hpl : (full.extract 0 p).toList = full.toList.take p := by rw [take_arr]
 have hFe : ∀ v J, fill J 0 (full.extract 0 p).toList (.call v :: qs) a = F v := fun v J => by rw [hpl]; exact hF v J
 have at_ : ∀ {i : Nat} {o : Oper}, (full.extract 0 p)[i]? = some o → (full.toList.take p)[i]? = some o := fun {i o} h => by rw [← hpl, Array.getElem?_toList]; exact h
 have hsz : (full.extract 0 p).size = p := by simp; omega
 have main : ∀ (fuel : Nat) (l : Array Bool) (a' : Act) (w' : World), l.size = full.size → l.toList.count false ≤ fuel → l.getD 0 true = false → (∀ i, p ≤ i → i < full.size → l.getD i true = false) → Agree (full.extract 0 p) (.call undef :: qs) a l (fun _ => 0) a' → Below w.heap.size w w' → wpAny P .any full Q fuel l a' w' := by
  intro fuel
  induction fuel with
  | zero =>
   intro l a' w' hs hc h0 _ _ _
   have := count_set h0
   omega
  | succ fuel ih =>
   intro l a' w' hs hc h0 hu hA hB
   have hf0 : l.getD 0 false = false := (getD_same h0).1
   refine ⟨fun hr => absurd hr (some_ready hup hs (by omega) hf0), fun i hi => ?_⟩
   have hip := low_ready hwt hp0 hf0 i hi
   obtain ⟨hun, o, ho, hedge⟩ := mem_ready.1 hi
   have ho' : (full.extract 0 p)[i]? = some o := by rw [← first_full hip]; exact ho
   have hc' := count_set hun
   rcases Nat.eq_zero_or_pos i with hi0 | hi0
   ·subst hi0
    have e0 : o = o0 := by
     have := (at_ ho').symm.trans ho0
     injection this
    subst e0
    obtain ⟨f, args, hx, hcl⟩ := hx0 w' hB
    refine enter_step (hOr undef) (fun i hi => first_full hi) hgd hA hip ho' hedge (by rw [hFe]; exact hw0) (by rw [hFe]; exact hx) hcl (fun v w2 hR => ?_)
    have hB2 : Below w.heap.size w w2 := hB.trans (hR.1.mono hB.size)
    have hA2 := (hA.other (hOr undef) (hOr v) rfl hf0).step (hOr v) rfl ho' (k := .call v) rfl (J' := fun _ => 0) (fun _ _ _ _ => rfl)
    refine open_after (hOr v) rfl hsz h4 (fun i hi => first_full hi) hgd hup hwt (J := fun _ => 0) (fun {j oj} hj hoj => ?_) ?_ fuel _ _ (by simp [hs]) (by omega) ((getD_same hun).2) (fun j hj hj2 => by rw [getD_set_ne true (by omega)]; exact hu j hj hj2) hA2
    ·rw [hFe]
     exact hqs v w2 hB2 hj (at_ hoj)
    ·rw [hFe]
     exact hend v w2 hB2 hR.2
   ·obtain ⟨u, hk, hok⟩ := hqs undef w' hB hi0 (at_ ho')
    exact quiet_step (hOr undef) rfl (fun i hi => first_full hi) hgd hA hip ho' hk hedge (by rw [hFe]; exact hok) (fun hA' => ih _ _ w' (by simp [hs]) (by omega) (by rw [getD_set_ne true (by omega)]; exact h0) (fun j hj hj2 => by rw [getD_set_ne true (by omega)]; exact hu j hj hj2) hA' hB)
 exact wp_region_any hm (main full.size _ a w.drew (by simp) (by simp) (none_listed' (by omega)) (fun i _ hi => none_listed' hi) (start_agree _ _) (Below.refl _ _).drew)
end
end Rg
end Go.Proofs.YtahgdighnlekdaaGreatDoor
end
section
namespace Go.Proofs.YtahgdighnlekdaaGreatDoor
open Go.RowKit
namespace Rg
theorem Mm.join {w w' : World} {L N' : List (Nat × List Value)} (h : Mm w L) (hb : Below w.heap.size w w') (hM : Mm w' N') (hN : ∀ q ∈ N', w.heap.size ≤ q.1) : Mm w' (N' ++ L) := by
 have h' := h.below hb
 refine ⟨fun p hp => ?_, List.pairwise_append.2 ⟨hM.nd, h'.nd, fun a ha b hb2 => ?_⟩⟩
 ·rcases List.mem_append.1 hp with q | q
  ·exact hM.blk p q
  ·exact h'.blk p q
 ·have h1 := hN a ha
  have h2 := (h.blk b hb2).1
  omega
set_option maxHeartbeats 2000000 in
theorem In_1 (one four qtr x y : Nat) (zb bz : Bool) (cf : ∀ w, Calls Tryz.prog 47 #[] w fun e w' => Below w.heap.size w w' ∧ ∃ g x y, e = .returned (.agg (G1 g (.func (.func 73) #[] #[PT x 0, PT y 0]) one four).toArray) ∧ (∀ q ∈ [(g, zQ pB), (x, [PT g 0]), (y, zC qtr)], w.heap.size ≤ q.1) ∧ Mm w' [(g, zQ pB), (x, [PT g 0]), (y, zC qtr)]) (ci : ∀ g bx cy w, Mm w [(g, zQ pB), (0, dtab), (bx, [PT g 0]), (cy, zC qtr)] → Calls Tryz.prog 51 #[.agg (G1 g (.func (.func 73) #[] #[PT bx 0, PT cy 0]) one four).toArray, .agg (pc1 x y zb).toArray] w (Rt w (.bool bz))) (w : World) (hm : Mm w [(0, dtab)]) :
  Calls Tryz.prog 29 #[.agg (pc1 x y zb).toArray] w (Rt w (.bool bz)) := by
 have H0 : Hid (_ ∧ _) := ⟨hm, Below.refl w.heap.size w⟩
 clear hm
 have CF : Hid _ := cf
 clear cf
 have CI : Hid _ := ci
 clear ci
 go_enter Tryz.func29, Tryz.ntmps29
 refine wp_seq ?_
 refine zD 2 [.made (pc1 x y zb) 33, .q (.bool false)] (sB H0) ?ho1 ?he1
 case ho1 => exact am (zN rfl rfl) (ar trivial)
 intro J w1 l hM hl
 have H1 : Hid (Mm w1 ([(J 0, pc1 x y zb)] ++ _) ∧ _) := wB H0 hM hl [0]
 have o1_0 := vB H0 hM hl 0
 clear hM hl l
 generalize J 0 = J1_0 at H1 o1_0 ⊢
 clear J
 refine rN (wp_seq ?_)
 refine region_open (o0 := ?oz2) (by kernel_rfl) 2 [.q (.agg (pc1 x y zb).toArray)] ?pre2 ?F2 (fun v w' => ∃ (g x y : Nat), v = .agg (G1 g (.func (.func 73) #[] #[PT x 0, PT y 0]) one four).toArray ∧ (∀ q ∈ [(g, zQ pB), (x, [PT g 0]), (y, zC qtr)], w1.heap.size ≤ q.1) ∧ Mm w' [(g, zQ pB), (x, [PT g 0]), (y, zC qtr)]) ?hpre2 (fun v J => ?hF2) (fun v => ?hor2) ?hz2 ?hw2 ?hx2 ?hq2 ?he2
 case hpre2 => simp only [tk, tz]; rfl
 case hF2 => simp only [fill, Kind.val, Act.put, sa, sz, ss]; rfl
 case hor2 => kernel_rfl
 case hz2 => exact rfl
 case hw2 => exact rfl
 case hx2 =>
  intro w' hb
  refine eC call47 (Calls.mono (CF.out w') (fun e w2 hh => ?_))
  obtain ⟨hB, g, x, y, he, hg, hM⟩ := hh
  exact ⟨_, he, hB, g, x, y, rfl, fun q hq => Nat.le_trans hb.size (hg q hq), hM⟩
 case hq2 =>
  intro v w' hb i o hi ho
  rcases i with _ | i
  ·first | omega | (obtain rfl := Option.some.inj ho; exact ⟨_, rfl, rfl, by omega⟩)
  rcases i with _ | i
  ·obtain rfl := Option.some.inj ho
   exact ⟨_, rfl, rfl, ex_loadT (H1.out.1.below hb) 0 rfl rfl rfl Ai33 As33 rfl rfl⟩
  ·exact absurd ho (by simp)
 intro _ w2 hb hR
 obtain ⟨J2_g, J2_x, J2_y, rfl, hN, hM⟩ := hR
 have H2 : Hid (Mm w2 [(J2_g, zQ pB), (J2_x, [PT J2_g 0]), (J2_y, zC qtr), (J1_0, pc1 x y zb), (0, dtab)] ∧ Below w.heap.size w w2) := ⟨H1.out.1.join hb hM hN, H1.out.2.trans (hb.mono H1.out.2.size)⟩
 clear hb hM hN H1
 refine zF (l := [2, 3]) rfl ?_
 refine rest_enter (d := 5) (R := fun vv w' => vv = .bool bz ∧ Below w2.heap.size w2 w') rfl rfl rfl (exec_call (args := #[.agg (G1 J2_g (.func (.func 73) #[] #[PT J2_x 0, PT J2_y 0]) one four).toArray, .agg (pc1 x y zb).toArray]) rfl call51 rfl (mpn rfl)) (Calls.mono (CI.out J2_g J2_x J2_y w2 (H2.out.1.pick [0, 4, 1, 2] rfl (by decide))) (fun e w2 hh => ⟨_, hh.1, rfl, hh.2⟩)) ?_
 rintro _ w3 ⟨rfl, hb⟩
 have H3 : Hid (_ ∧ _) := ⟨H2.out.1.below hb, H2.out.2.trans (hb.mono H2.out.2.size)⟩
 clear hb H2
 simp only [Act.put, sa, sz, ss]
 refine zG (d := 2) rfl rfl rfl rfl ?_
 simp only [Act.put, sa, sz, ss]
 refine zE (zA (wp_ret ?_))
 repeat (first | refine zJ ?_ | refine zI ?_)
 refine bodyPost_ret (v := .bool bz) (by simp [results, Tryz.results29, go_sem, *]) rfl ?_
 exact ⟨rfl, H3.out.2⟩
end Rg
end Go.Proofs.YtahgdighnlekdaaGreatDoor
end
section
namespace Go.Proofs.YtahgdighnlekdaaGreatDoor
namespace EC
/-- The bits of a word, from the highest; what stands ahead of them. -/
def wbit (s k : Nat) : Nat := s * 2 ^ k % 18446744073709551616 / 9223372036854775808
section
variable {α : Type} (C : Crv α)
end
section
variable {α : Type} [DecidableEq α] (C : Crv α)
def Crv.bw (s : Nat) (T : Tri α) : Nat → Tri α
 | 0 => C.lift none
 | k + 1 => if wbit s k = 1 then C.tog (C.twice (Crv.bw s T k)) T else C.twice (Crv.bw s T k)
/-- Whether a point is of the group, as the program tells it: n words in a row multiply it, and it is held against the turned one. -/
def Crv.ws (s : Nat) (T : Tri α) : Nat → Tri α
 | 0 => T
 | n + 1 => C.bw s (Crv.ws s T n) 64
end
end EC
end Go.Proofs.YtahgdighnlekdaaGreatDoor
end
section
namespace Go.Proofs.YtahgdighnlekdaaGreatDoor
open Go.RowKit
namespace Rg
/-- The number by whose words points are multiplied. -/
def sdP : Nat := 15132376222941642752
def wofS (k : Nat) : Int := ((sdP * 2 ^ k % 18446744073709551616 : Nat) : Int)
theorem wofS_0 : wofS 0 = 15132376222941642752 := rfl
theorem wofS_d (k : Nat) : wofS k / 2 ^ 63 = ((EC.wbit sdP k : Nat) : Int) := by
 unfold wofS EC.wbit
 rw [show (2 : Int) ^ 63 = ((9223372036854775808 : Nat) : Int) by decide, ← Int.natCast_ediv]
theorem wofS_w (k : Nat) : IntKind.u64.wrap (wofS k * 2 ^ 1) = wofS (k + 1) := by
 unfold wofS
 rw [IntKind.wrap_u64, Nat.pow_succ, ← Nat.mul_assoc, show (2 : Int) ^ 1 = ((2 : Nat) : Int) by decide, ← Int.natCast_mul, show (18446744073709551616 : Int) = ((18446744073709551616 : Nat) : Int) from rfl, ← Int.natCast_emod, Nat.mod_mul_mod]
def t3p : Fp := ⟨tr, by decide +kernel⟩
theorem byWordE_1 {I : Fp → Fp} (hI : Inv1 I) {g : Nat} {tn : Value} (T : EC.Tri Fp) (w : World) (hm : Mm w [(g, zQ pB), (0, dtab)]) : Calls Tryz.prog 80 #[(GV1 g tn), V (t1 T), .int .u64 15132376222941642752] w (Rt w (V (t1 ((K1 hI).bw sdP T 64)))) := by
 have h := byWord_1 (u := (K1 hI).R.one) (b := (K1 hI).b) (tn := tn) (fd1 hI g) (K1 hI).twice (fun A => (K1 hI).tog A T) T (fun k => (K1 hI).bw sdP T k) wofS (EC.wbit sdP) (fun w hm => zeroE_1 hI w hm) (fun A w hm => twiceE_1 hI A w hm) (fun A w hm => togE_1 hI A T w hm) wofS_d wofS_w (fun k hk => ?_) (fun k hk => ?_) w hm
 ·rw [wofS_0] at h
  exact h
 ·show (K1 hI).twice ((K1 hI).bw sdP T k) = (K1 hI).bw sdP T (k + 1)
  rw [EC.Crv.bw, if_neg hk]
 ·show (K1 hI).tog ((K1 hI).twice ((K1 hI).bw sdP T k)) T = (K1 hI).bw sdP T (k + 1)
  rw [EC.Crv.bw, if_pos hk]
/-- Whether a point of the curve is of the group, as the program tells it. -/
def tst1 {I : Fp → Fp} (hI : Inv1 I) (x y : Fp) (S : EC.Tri Fp) : Bool := decide (S.1 = (K1 hI).R.mul ((K1 hI).R.mul x t3p) S.2.2) && decide (S.2.1 = (K1 hI).R.mul (EC.osub (EC.rops (K1 hI).R) (K1 hI).R.zero (y)) S.2.2)
def in1 {I : Fp → Fp} (hI : Inv1 I) : Option (Fp × Fp) → Bool
 | none => true
 | some (x, y) => tst1 hI x y ((K1 hI).ws sdP ((K1 hI).lift (some (x, y))) 2)
def inB1 {I : Fp → Fp} (hI : Inv1 I) (x y : Nat) (z : Bool) : Bool := match rd1 x y z with | none => false | some P => in1 hI P
set_option maxHeartbeats 2000000 in
theorem insE_1 {I : Fp → Fp} (hI : Inv1 I) {g : Nat} {gx gy : Nat} {x y : Fp} (hP : (K1 hI).on (some (x, y))) (w : World) (hm : Mm w [(g, zQ pB), (0, dtab), (gx, [PT g 0]), (gy, zC tr)]) : Calls Tryz.prog 51 #[(GV1 g (.func (.func 73) #[] #[PT gx 0, PT gy 0])), enc1 (some (x, y))] w (Rt w (.bool (in1 hI (some (x, y))))) := by
 show Calls Tryz.prog 51 #[(GV1 g (.func (.func 73) #[] #[PT gx 0, PT gy 0])), enc1 (some (x, y))] w (Rt w (.bool (tst1 hI x y ((K1 hI).bw sdP ((K1 hI).bw sdP ((K1 hI).lift (some (x, y))) 64) 64))))
 by_cases h1 : ((K1 hI).bw sdP ((K1 hI).bw sdP ((K1 hI).lift (some (x, y))) 64) 64).1 = (K1 hI).R.mul ((K1 hI).R.mul x t3p) ((K1 hI).bw sdP ((K1 hI).bw sdP ((K1 hI).lift (some (x, y))) 64) 64).2.2
 ·have e : tst1 hI x y ((K1 hI).bw sdP ((K1 hI).bw sdP ((K1 hI).lift (some (x, y))) 64) 64) = decide (((K1 hI).bw sdP ((K1 hI).bw sdP ((K1 hI).lift (some (x, y))) 64) 64).2.1 = (K1 hI).R.mul (EC.osub (EC.rops (K1 hI).R) (K1 hI).R.zero (y)) ((K1 hI).bw sdP ((K1 hI).bw sdP ((K1 hI).lift (some (x, y))) 64) 64).2.2) := by
   unfold tst1
   rw [decide_eq_true h1, Bool.true_and]
  rw [e]
  exact inT_1 (u := (K1 hI).R.one) (b := (K1 hI).b) (fd1 hI g) t3p gx gy ((K1 hI).lift (some (x, y))) ((K1 hI).bw sdP ((K1 hI).lift (some (x, y))) 64) ((K1 hI).bw sdP ((K1 hI).bw sdP ((K1 hI).lift (some (x, y))) 64) 64) x y ((K1 hI).R.mul x t3p) (y) _ (fun w hm => ckE_1 hI hP w hm) (fun w hm => liftE_1 hI (some (x, y)) w hm) (fun w hm => byWordE_1 hI ((K1 hI).lift (some (x, y))) w hm) (fun w hm => byWordE_1 hI ((K1 hI).bw sdP ((K1 hI).lift (some (x, y))) 64) w hm) (fun w hm => turn_1 (fd1 hI g) x t3p (p0 y) gx gy w hm) (eqe_1 _ _ (decide_eq_true h1)) (eqe_1 _ _ rfl) w hm
 ·have e : tst1 hI x y ((K1 hI).bw sdP ((K1 hI).bw sdP ((K1 hI).lift (some (x, y))) 64) 64) = false := by
   unfold tst1
   rw [decide_eq_false h1, Bool.false_and]
  rw [e]
  exact inF_1 (u := (K1 hI).R.one) (b := (K1 hI).b) (fd1 hI g) t3p gx gy ((K1 hI).lift (some (x, y))) ((K1 hI).bw sdP ((K1 hI).lift (some (x, y))) 64) ((K1 hI).bw sdP ((K1 hI).bw sdP ((K1 hI).lift (some (x, y))) 64) 64) x y ((K1 hI).R.mul x t3p) (y) (fun w hm => ckE_1 hI hP w hm) (fun w hm => liftE_1 hI (some (x, y)) w hm) (fun w hm => byWordE_1 hI ((K1 hI).lift (some (x, y))) w hm) (fun w hm => byWordE_1 hI ((K1 hI).bw sdP ((K1 hI).lift (some (x, y))) 64) w hm) (fun w hm => turn_1 (fd1 hI g) x t3p (p0 y) gx gy w hm) (eqe_1 _ _ (decide_eq_false h1)) w hm
theorem inE_1 {I : Fp → Fp} (hI : Inv1 I) {g : Nat} {gx gy : Nat} (x y : Nat) (z : Bool) (hx : x < big) (hy : y < big) (w : World) (hm : Mm w [(g, zQ pB), (0, dtab), (gx, [PT g 0]), (gy, zC tr)]) : Calls Tryz.prog 51 #[(GV1 g (.func (.func 73) #[] #[PT gx 0, PT gy 0])), pv1 x y z] w (Rt w (.bool (inB1 hI x y z))) := by
 have hc := fun w hm => checkE_1 hI (g := g) (tn := .func (.func 73) #[] #[PT gx 0, PT gy 0]) x y z hx hy w hm
 cases hr : rd1 x y z with
 | none =>
  have e : inB1 hI x y z = false := by unfold inB1; rw [hr]
  rw [hr] at hc
  rw [e]
  cases z with
  | true => exact inZ_1 (u := (K1 hI).R.one) (b := (K1 hI).b) (fd1 hI g) t3p gx gy x y false hc w hm
  | false => exact inN_1 (u := (K1 hI).R.one) (b := (K1 hI).b) (fd1 hI g) t3p gx gy x y hc w hm
 | some P =>
  obtain ⟨he, ho⟩ := rd1_enc hI hr
  have e : inB1 hI x y z = in1 hI P := by unfold inB1; rw [hr]
  rw [hr] at hc
  rw [e]
  rcases P with _ | ⟨x, y⟩
  ·have hz : z = true := by
    unfold rd1 at hr
    cases z with
    | true => rfl
    | false =>
     rw [if_neg (by decide)] at hr
     split at hr
     ·split at hr
      ·cases hr
      ·cases hr
     ·cases hr
   subst hz
   exact inZ_1 (u := (K1 hI).R.one) (b := (K1 hI).b) (fd1 hI g) t3p gx gy x y true hc w hm
  ·rw [he]
   exact insE_1 hI ho w hm
theorem first3E (w : World) : Calls Tryz.prog 47 #[] w fun e w' => Below w.heap.size w w' ∧ ∃ g x y, e = .returned (.agg (G1 g (.func (.func 73) #[] #[PT x 0, PT y 0]) 1 4).toArray) ∧ (∀ q ∈ [(g, zQ pB), (x, [PT g 0]), (y, zC tr)], w.heap.size ≤ q.1) ∧ Mm w' [(g, zQ pB), (x, [PT g 0]), (y, zC tr)] := first3_gen pB 1 4 tr numb_tr (fun w => of_any 1 (by decide) w) (fun w => of_any 4 (by decide) w) base_pB (fun w => new_ok pB_ok w) w
theorem In1E {I : Fp → Fp} (hI : Inv1 I) (x y : Nat) (z : Bool) (hx : x < big) (hy : y < big) (w : World) (hm : Mm w [(0, dtab)]) : Calls Tryz.prog 29 #[pv1 x y z] w (Rt w (.bool (inB1 hI x y z))) :=
 In_1 1 4 tr x y z (inB1 hI x y z) first3E (fun g bx cy w hm => inE_1 hI (g := g) (gx := bx) (gy := cy) x y z hx hy w hm) w hm
end Rg
end Go.Proofs.YtahgdighnlekdaaGreatDoor
end
section
namespace Go.Proofs.YtahgdighnlekdaaGreatDoor
namespace EC
section
variable {α : Type} (R : Rng α)
def pl2 (l : α) : α := R.mul l l
def pl3 (l : α) : α := R.mul l (R.mul l l)
end
section
variable {α : Type} (C : Crv α)
end
/-- A map of the field. -/
structure Hm {α : Type} (R : Rng α) (h : α → α) : Prop where
 add : ∀ a b, h (R.add a b) = R.add (h a) (h b)
 mul : ∀ a b, h (R.mul a b) = R.mul (h a) (h b)
 neg : ∀ a, h (R.neg a) = R.neg (h a)
 one : h R.one = R.one
 zero : h R.zero = R.zero
 inj : ∀ a, h a = R.zero → a = R.zero
section
variable {α : Type} (C : Crv α) (h : α → α) (l : α)
def Crv.mp : Option (α × α) → Option (α × α)
 | none => none
 | some (x, y) => some (C.R.mul (pl2 C.R l) (h x), C.R.mul (pl3 C.R l) (h y))
variable {h l}
open Ex in
theorem Crv.neg_neg (P : Option (α × α)) : C.neg (C.neg P) = P := by
 rcases P with _ | ⟨x, y⟩
 ·rfl
 ·show some (x, C.R.neg (C.R.neg y)) = some (x, y)
  rw [C.R.neg_neg]
end
section
variable {α : Type} [DecidableEq α] (C : Crv α) {h : α → α} {l : α}
end
/-! What a group says. -/
section
variable {α : Type} [DecidableEq α] (C : Crv α)
end
end EC
end Go.Proofs.YtahgdighnlekdaaGreatDoor
end
section
namespace Go.Proofs.YtahgdighnlekdaaGreatDoor
open Go.RowKit
namespace Rg
end Rg
end Go.Proofs.YtahgdighnlekdaaGreatDoor
end
section
namespace Go.Proofs.YtahgdighnlekdaaGreatDoor
open Go.RowKit
namespace Rg
open NT
theorem gx_lt : gx < pB := by decide +kernel
theorem gy_lt : gy < pB := by decide +kernel
/-- The generators. -/
def Q1 : Option (Fp × Fp) := some (⟨gx, gx_lt⟩, ⟨gy, gy_lt⟩)
theorem on_Q1 {I : Fp → Fp} (hI : Inv1 I) : (K1 hI).on Q1 := by
 refine Subtype.ext ?_
 show gy * gy % pB = (gx * (gx * gx % pB) % pB + 4) % pB
 decide +kernel
theorem GenE_1 (w : World) : Calls Tryz.prog 21 #[] w (Rt w (enc1 Q1)) := gen1_gen gx gy numb_gx numb_gy w
end Rg
end Go.Proofs.YtahgdighnlekdaaGreatDoor
end
section
namespace Go.Proofs.YtahgdighnlekdaaGreatDoor
open Go.RowKit
namespace Rg
open NT
/-! The generators, by the kernel. -/
theorem in1_Q1 {I : Fp → Fp} (hI : Inv1 I) : in1 hI Q1 = true := by kernel_rfl
end Rg
end Go.Proofs.YtahgdighnlekdaaGreatDoor
end
section
namespace Go.Proofs.YtahgdighnlekdaaGreatDoor
open Go.RowKit
namespace Rg
set_option maxRecDepth 100000
set_option maxHeartbeats 4000000 in
theorem known_gen (n1 px py x y u v : Nat)
  (c0 : ∀ w, Mm w [(0, dtab)] → Calls Tryz.prog 14 #[] w (Rt w (.bool true)))
  (c1 : ∀ w, Calls Tryz.prog 4 #[.int .i64 1, N 0] w (Rt w (.tuple #[N 0, .int .i64 0])))
  (c2 : ∀ w, Calls Tryz.prog 6 #[.int .u64 65521] w (Rt w (N n1)))
  (c3 : ∀ w, Calls Tryz.prog 5 #[.int .i64 1, N n1, N 0] w (Rt w (.tuple #[N 0, .int .i64 2])))
  (c4 : ∀ w, Calls Tryz.prog 7 #[.int .i64 3] w (Rt w (.tuple #[N 0, .int .i64 2])))
  (c5 : ∀ w, Mm w [(0, dtab)] → Calls Tryz.prog 8 #[.int .i64 0, N 0] w (Rt w (.tuple #[N 0, .int .i64 6])))
  (c6 : ∀ w, Calls Tryz.prog 9 #[.int .i64 0] w (Rt w (.tuple #[.agg ([Value.int .i64 0] ++ (cel [px, py] ++ [Value.bool false, Value.int .u64 0, Value.int .u64 0, Value.bool false])).toArray, .int .i64 0])))
  (c7 : ∀ w, Mm w [(0, dtab)] → Calls Tryz.prog 10 #[.agg ([Value.int .i64 0] ++ (cel [px, py] ++ [Value.bool false, Value.int .u64 0, Value.int .u64 0, Value.bool false])).toArray, N 0] w (Rt w (.tuple #[.agg ([Value.int .i64 0] ++ (cel [0, 0] ++ [Value.bool true, Value.int .u64 0, Value.int .u64 0, Value.bool false])).toArray, .int .i64 0])))
  (c8 : ∀ w, Calls Tryz.prog 9 #[.int .i64 1] w (Rt w (.tuple #[.agg ([Value.int .i64 1] ++ (cel [0, 0] ++ [Value.bool false, Value.int .u64 (x : Int), Value.int .u64 (y : Int), Value.bool false])).toArray, .int .i64 0])))
  (c9 : ∀ w, Calls Tryz.prog 9 #[.int .i64 2] w (Rt w (.tuple #[.agg ([Value.int .i64 2] ++ (cel [0, 0] ++ [Value.bool false, Value.int .u64 (u : Int), Value.int .u64 (v : Int), Value.bool false])).toArray, .int .i64 0])))
  (c10 : ∀ w, Calls Tryz.prog 11 #[.agg ([Value.int .i64 1] ++ (cel [0, 0] ++ [Value.bool false, Value.int .u64 (x : Int), Value.int .u64 (y : Int), Value.bool false])).toArray, .agg ([Value.int .i64 2] ++ (cel [0, 0] ++ [Value.bool false, Value.int .u64 (u : Int), Value.int .u64 (v : Int), Value.bool false])).toArray] w (Rt w (.tuple #[.agg ([Value.int .i64 0] ++ (cel [0, 0] ++ [Value.bool false, Value.int .u64 0, Value.int .u64 0, Value.bool false])).toArray, .int .i64 2])))
  (c11 : ∀ w, Mm w [(0, dtab)] → Calls Tryz.prog 12 #[.agg ([Value.int .i64 0] ++ (cel [0, 0] ++ [Value.bool false, Value.int .u64 0, Value.int .u64 0, Value.bool false])).toArray] w (Rt w (.bool false)))
  (c12 : ∀ w, Calls Tryz.prog 13 #[.agg ([Value.int .i64 1] ++ (cel [0, 0, 0, 0] ++ [Value.bool false, Value.int .u64 0, Value.int .u64 0, Value.bool true])).toArray] w (Rt w (.bool true)))
  (c13 : ∀ w, Calls Tryz.prog 12 #[.agg ([Value.int .i64 3] ++ (cel [0, 0] ++ [Value.bool false, Value.int .u64 0, Value.int .u64 0, Value.bool false])).toArray] w (Rt w (.bool false))) (w : World) (hm : Mm w [(0, dtab)]) :
  Calls Tryz.prog 3 #[] w (Rt w (.bool true)) := by
 have H0 : Hid (_ ∧ _) := ⟨hm, Below.refl w.heap.size w⟩
 clear hm
 have C0 : Hid _ := c0
 have C1 : Hid _ := c1
 have C2 : Hid _ := c2
 have C3 : Hid _ := c3
 have C4 : Hid _ := c4
 have C5 : Hid _ := c5
 have C6 : Hid _ := c6
 have C7 : Hid _ := c7
 have C8 : Hid _ := c8
 have C9 : Hid _ := c9
 have C10 : Hid _ := c10
 have C11 : Hid _ := c11
 have C12 : Hid _ := c12
 have C13 : Hid _ := c13
 clear c0 c1 c2 c3 c4 c5 c6 c7 c8 c9 c10 c11 c12 c13
 go_enter Tryz.func3, Tryz.ntmps3
 refine wp_seq ?_
 refine zB 1 [.q (.bool false)] H0 ?ho1 ?he1
 case ho1 => exact ar trivial
 intro _ w1 H1
 refine rN (wp_seq ?_)
 refine zD 8 [.q (N 0), .call (.tuple #[N 0, .int .i64 0]), .q (.tuple #[N 0, .int .i64 0]), .q (N 0), .q (.int .i64 0), .made zero6 24, .laid 5 zero6 (zC 0), .q (.int .i64 0)] (sB H1) ?ho2 ?he2 (hL := ?hL2)
 case hL2 => exact ⟨⟨_, rfl⟩, trivial⟩
 case ho2 => exact ak (by refine fun J => ⟨rfl, fun w' h => ?_⟩; clear h; exact ex_zero6 rfl) (ac (fun w' h => eC call4 (C1.out w')) (ar (ag (ag (am (zH rfl) (ak (fun J => ⟨rfl, rfl, len_zero, fun w' h => zL (v := 0) h rfl rfl rfl⟩) (ar trivial)))))))
 intro J w2 l hM hl
 have H2 : Hid (Mm w2 ([(J 5, zC 0)] ++ _) ∧ _) := wB H1 hM hl [5]
 have o2_5 := vB H1 hM hl 5
 clear hM hl l H1
 generalize J 5 = J2_5 at H2 o2_5 ⊢
 clear J
 refine rN (wp_seq ?_)
 refine zD 9 [.call (N n1), .q (N 0), .call (.tuple #[N 0, .int .i64 2]), .q (.tuple #[N 0, .int .i64 2]), .q (N 0), .q (.int .i64 2), .made zero6 24, .laid 6 zero6 (zC 0), .q (.int .i64 2)] (sB H2) ?ho3 ?he3 (hL := ?hL3)
 case hL3 => exact ⟨⟨_, rfl⟩, trivial⟩
 case ho3 => exact ac (fun w' h => eC call6 (C2.out w')) (ak (by refine fun J => ⟨rfl, fun w' h => ?_⟩; clear h; exact ex_zero6 rfl) (ac (fun w' h => eC call5 (C3.out w')) (ar (ag (ag (am (zH rfl) (ak (fun J => ⟨rfl, rfl, len_zero, fun w' h => zL (v := 0) h rfl rfl rfl⟩) (ar trivial))))))))
 intro J w3 l hM hl
 have H3 : Hid (Mm w3 ([(J 6, zC 0)] ++ _) ∧ _) := wB H2 hM hl [6]
 have o3_6 := vB H2 hM hl 6
 clear hM hl l H2
 generalize J 6 = J3_6 at H3 o3_6 ⊢
 clear J
 refine rN (wp_seq ?_)
 refine zD 7 [.call (.tuple #[N 0, .int .i64 2]), .q (.tuple #[N 0, .int .i64 2]), .q (N 0), .q (.int .i64 2), .made zero6 24, .laid 4 zero6 (zC 0), .q (.int .i64 2)] (sB H3) ?ho4 ?he4 (hL := ?hL4)
 case hL4 => exact ⟨⟨_, rfl⟩, trivial⟩
 case ho4 => exact ac (fun w' h => eC call7 (C4.out w')) (ar (ag (ag (am (zH rfl) (ak (fun J => ⟨rfl, rfl, len_zero, fun w' h => zL (v := 0) h rfl rfl rfl⟩) (ar trivial))))))
 intro J w4 l hM hl
 have H4 : Hid (Mm w4 ([(J 4, zC 0)] ++ _) ∧ _) := wB H3 hM hl [4]
 have o4_4 := vB H3 hM hl 4
 clear hM hl l H3
 generalize J 4 = J4_4 at H4 o4_4 ⊢
 clear J
 refine rN (wp_seq ?_)
 refine zD 8 [.q (N 0), .call (.tuple #[N 0, .int .i64 6]), .q (.tuple #[N 0, .int .i64 6]), .q (N 0), .q (.int .i64 6), .made zero6 24, .laid 5 zero6 (zC 0), .q (.int .i64 6)] (sB H4) ?ho5 ?he5 (hL := ?hL5)
 case hL5 => exact ⟨⟨_, rfl⟩, trivial⟩
 case ho5 => exact ak (by refine fun J => ⟨rfl, fun w' h => ?_⟩; clear h; exact ex_zero6 rfl) (ac (fun w' h => eC call8 (C5.out w' (h.one 3 rfl))) (ar (ag (ag (am (zH rfl) (ak (fun J => ⟨rfl, rfl, len_zero, fun w' h => zL (v := 0) h rfl rfl rfl⟩) (ar trivial)))))))
 intro J w5 l hM hl
 have H5 : Hid (Mm w5 ([(J 5, zC 0)] ++ _) ∧ _) := wB H4 hM hl [5]
 have o5_5 := vB H4 hM hl 5
 clear hM hl l H4
 generalize J 5 = J5_5 at H5 o5_5 ⊢
 clear J
 refine rN (wp_seq ?_)
 refine zD 7 [.call (.tuple #[.agg ([Value.int .i64 0] ++ (cel [px, py] ++ [Value.bool false, Value.int .u64 0, Value.int .u64 0, Value.bool false])).toArray, .int .i64 0]), .q (.tuple #[.agg ([Value.int .i64 0] ++ (cel [px, py] ++ [Value.bool false, Value.int .u64 0, Value.int .u64 0, Value.bool false])).toArray, .int .i64 0]), .q (.agg ([Value.int .i64 0] ++ (cel [px, py] ++ [Value.bool false, Value.int .u64 0, Value.int .u64 0, Value.bool false])).toArray), .q (.int .i64 0), .made ([Value.int .i64 0] ++ (cel [0, 0] ++ [Value.bool false, Value.int .u64 0, Value.int .u64 0, Value.bool false])) 37, .laid 4 ([Value.int .i64 0] ++ (cel [0, 0] ++ [Value.bool false, Value.int .u64 0, Value.int .u64 0, Value.bool false])) ([Value.int .i64 0] ++ (cel [px, py] ++ [Value.bool false, Value.int .u64 0, Value.int .u64 0, Value.bool false])), .q (.int .i64 0)] (sB H5) ?ho6 ?he6 (hL := ?hL6)
 case hL6 => exact ⟨⟨_, rfl⟩, trivial⟩
 case ho6 => exact ac (fun w' h => eC call9 (C6.out w')) (ar (ag (ag (am (ex_made37 rfl) (ak (fun J => ⟨rfl, rfl, rfl, fun w' h => ex_laidT h rfl rfl As37 rfl rfl rfl⟩) (ar trivial))))))
 intro J w6 l hM hl
 have H6 : Hid (Mm w6 ([(J 4, [Value.int .i64 0] ++ (cel [px, py] ++ [Value.bool false, Value.int .u64 0, Value.int .u64 0, Value.bool false]))] ++ _) ∧ _) := wB H5 hM hl [4]
 have o6_4 := vB H5 hM hl 4
 clear hM hl l H5
 generalize J 4 = J6_4 at H6 o6_4 ⊢
 clear J
 refine rN (wp_seq ?_)
 refine zD 9 [.q (.agg ([Value.int .i64 0] ++ (cel [px, py] ++ [Value.bool false, Value.int .u64 0, Value.int .u64 0, Value.bool false])).toArray), .q (N 0), .call (.tuple #[.agg ([Value.int .i64 0] ++ (cel [0, 0] ++ [Value.bool true, Value.int .u64 0, Value.int .u64 0, Value.bool false])).toArray, .int .i64 0]), .q (.tuple #[.agg ([Value.int .i64 0] ++ (cel [0, 0] ++ [Value.bool true, Value.int .u64 0, Value.int .u64 0, Value.bool false])).toArray, .int .i64 0]), .q (.agg ([Value.int .i64 0] ++ (cel [0, 0] ++ [Value.bool true, Value.int .u64 0, Value.int .u64 0, Value.bool false])).toArray), .q (.int .i64 0), .made ([Value.int .i64 0] ++ (cel [0, 0] ++ [Value.bool false, Value.int .u64 0, Value.int .u64 0, Value.bool false])) 37, .laid 6 ([Value.int .i64 0] ++ (cel [0, 0] ++ [Value.bool false, Value.int .u64 0, Value.int .u64 0, Value.bool false])) ([Value.int .i64 0] ++ (cel [0, 0] ++ [Value.bool true, Value.int .u64 0, Value.int .u64 0, Value.bool false])), .q (.int .i64 0)] (sB H6) ?ho7 ?he7 (hL := ?hL7)
 case hL7 => exact ⟨⟨_, rfl⟩, trivial⟩
 case ho7 => exact bT 0 Ai37 As37 (ak (by refine fun J => ⟨rfl, fun w' h => ?_⟩; clear h; exact ex_zero6 rfl) (ac (fun w' h => eC call10 (C7.out w' (h.one 5 rfl))) (ar (ag (ag (am (ex_made37 rfl) (ak (fun J => ⟨rfl, rfl, rfl, fun w' h => ex_laidT h rfl rfl As37 rfl rfl rfl⟩) (ar trivial))))))))
 intro J w7 l hM hl
 have H7 : Hid (Mm w7 ([(J 6, [Value.int .i64 0] ++ (cel [0, 0] ++ [Value.bool true, Value.int .u64 0, Value.int .u64 0, Value.bool false]))] ++ _) ∧ _) := wB H6 hM hl [6]
 have o7_6 := vB H6 hM hl 6
 clear hM hl l H6
 generalize J 6 = J7_6 at H7 o7_6 ⊢
 clear J
 refine rN (wp_seq ?_)
 refine zD 7 [.call (.tuple #[.agg ([Value.int .i64 1] ++ (cel [0, 0] ++ [Value.bool false, Value.int .u64 (x : Int), Value.int .u64 (y : Int), Value.bool false])).toArray, .int .i64 0]), .q (.tuple #[.agg ([Value.int .i64 1] ++ (cel [0, 0] ++ [Value.bool false, Value.int .u64 (x : Int), Value.int .u64 (y : Int), Value.bool false])).toArray, .int .i64 0]), .q (.agg ([Value.int .i64 1] ++ (cel [0, 0] ++ [Value.bool false, Value.int .u64 (x : Int), Value.int .u64 (y : Int), Value.bool false])).toArray), .q (.int .i64 0), .made ([Value.int .i64 0] ++ (cel [0, 0] ++ [Value.bool false, Value.int .u64 0, Value.int .u64 0, Value.bool false])) 37, .laid 4 ([Value.int .i64 0] ++ (cel [0, 0] ++ [Value.bool false, Value.int .u64 0, Value.int .u64 0, Value.bool false])) ([Value.int .i64 1] ++ (cel [0, 0] ++ [Value.bool false, Value.int .u64 (x : Int), Value.int .u64 (y : Int), Value.bool false])), .q (.int .i64 0)] (sB H7) ?ho8 ?he8 (hL := ?hL8)
 case hL8 => exact ⟨⟨_, rfl⟩, trivial⟩
 case ho8 => exact ac (fun w' h => eC call9 (C8.out w')) (ar (ag (ag (am (ex_made37 rfl) (ak (fun J => ⟨rfl, rfl, rfl, fun w' h => ex_laidT h rfl rfl As37 rfl rfl rfl⟩) (ar trivial))))))
 intro J w8 l hM hl
 have H8 : Hid (Mm w8 ([(J 4, [Value.int .i64 1] ++ (cel [0, 0] ++ [Value.bool false, Value.int .u64 (x : Int), Value.int .u64 (y : Int), Value.bool false]))] ++ _) ∧ _) := wB H7 hM hl [4]
 have o8_4 := vB H7 hM hl 4
 clear hM hl l H7
 generalize J 4 = J8_4 at H8 o8_4 ⊢
 clear J
 refine rN (wp_seq ?_)
 refine zD 7 [.call (.tuple #[.agg ([Value.int .i64 2] ++ (cel [0, 0] ++ [Value.bool false, Value.int .u64 (u : Int), Value.int .u64 (v : Int), Value.bool false])).toArray, .int .i64 0]), .q (.tuple #[.agg ([Value.int .i64 2] ++ (cel [0, 0] ++ [Value.bool false, Value.int .u64 (u : Int), Value.int .u64 (v : Int), Value.bool false])).toArray, .int .i64 0]), .q (.agg ([Value.int .i64 2] ++ (cel [0, 0] ++ [Value.bool false, Value.int .u64 (u : Int), Value.int .u64 (v : Int), Value.bool false])).toArray), .q (.int .i64 0), .made ([Value.int .i64 0] ++ (cel [0, 0] ++ [Value.bool false, Value.int .u64 0, Value.int .u64 0, Value.bool false])) 37, .laid 4 ([Value.int .i64 0] ++ (cel [0, 0] ++ [Value.bool false, Value.int .u64 0, Value.int .u64 0, Value.bool false])) ([Value.int .i64 2] ++ (cel [0, 0] ++ [Value.bool false, Value.int .u64 (u : Int), Value.int .u64 (v : Int), Value.bool false])), .q (.int .i64 0)] (sB H8) ?ho9 ?he9 (hL := ?hL9)
 case hL9 => exact ⟨⟨_, rfl⟩, trivial⟩
 case ho9 => exact ac (fun w' h => eC call9 (C9.out w')) (ar (ag (ag (am (ex_made37 rfl) (ak (fun J => ⟨rfl, rfl, rfl, fun w' h => ex_laidT h rfl rfl As37 rfl rfl rfl⟩) (ar trivial))))))
 intro J w9 l hM hl
 have H9 : Hid (Mm w9 ([(J 4, [Value.int .i64 2] ++ (cel [0, 0] ++ [Value.bool false, Value.int .u64 (u : Int), Value.int .u64 (v : Int), Value.bool false]))] ++ _) ∧ _) := wB H8 hM hl [4]
 have o9_4 := vB H8 hM hl 4
 clear hM hl l H8
 generalize J 4 = J9_4 at H9 o9_4 ⊢
 clear J
 refine rN (wp_seq ?_)
 refine zD 9 [.q (.agg ([Value.int .i64 1] ++ (cel [0, 0] ++ [Value.bool false, Value.int .u64 (x : Int), Value.int .u64 (y : Int), Value.bool false])).toArray), .q (.agg ([Value.int .i64 2] ++ (cel [0, 0] ++ [Value.bool false, Value.int .u64 (u : Int), Value.int .u64 (v : Int), Value.bool false])).toArray), .call (.tuple #[.agg ([Value.int .i64 0] ++ (cel [0, 0] ++ [Value.bool false, Value.int .u64 0, Value.int .u64 0, Value.bool false])).toArray, .int .i64 2]), .q (.tuple #[.agg ([Value.int .i64 0] ++ (cel [0, 0] ++ [Value.bool false, Value.int .u64 0, Value.int .u64 0, Value.bool false])).toArray, .int .i64 2]), .q (.agg ([Value.int .i64 0] ++ (cel [0, 0] ++ [Value.bool false, Value.int .u64 0, Value.int .u64 0, Value.bool false])).toArray), .q (.int .i64 2), .made ([Value.int .i64 0] ++ (cel [0, 0] ++ [Value.bool false, Value.int .u64 0, Value.int .u64 0, Value.bool false])) 37, .laid 6 ([Value.int .i64 0] ++ (cel [0, 0] ++ [Value.bool false, Value.int .u64 0, Value.int .u64 0, Value.bool false])) ([Value.int .i64 0] ++ (cel [0, 0] ++ [Value.bool false, Value.int .u64 0, Value.int .u64 0, Value.bool false])), .q (.int .i64 2)] (sB H9) ?ho10 ?he10 (hL := ?hL10)
 case hL10 => exact ⟨⟨_, rfl⟩, trivial⟩
 case ho10 => exact bT 1 Ai37 As37 (bT 0 Ai37 As37 (ac (fun w' h => eC call11 (C10.out w')) (ar (ag (ag (am (ex_made37 rfl) (ak (fun J => ⟨rfl, rfl, rfl, fun w' h => ex_laidT h rfl rfl As37 rfl rfl rfl⟩) (ar trivial))))))))
 intro J w10 l hM hl
 have H10 : Hid (Mm w10 ([(J 6, [Value.int .i64 0] ++ (cel [0, 0] ++ [Value.bool false, Value.int .u64 0, Value.int .u64 0, Value.bool false]))] ++ _) ∧ _) := wB H9 hM hl [6]
 have o10_6 := vB H9 hM hl 6
 clear hM hl l H9
 generalize J 6 = J10_6 at H10 o10_6 ⊢
 clear J
 refine rN (wp_seq ?_)
 refine zB 14 [.q (.agg ([Value.int .i64 0] ++ (cel [0, 0] ++ [Value.bool false, Value.int .u64 0, Value.int .u64 0, Value.bool false])).toArray), .call (.bool false), .q (.bool true), .q (.bool true), .q (.agg ([Value.int .u64 0, Value.int .u64 0, Value.bool true]).toArray), .q (.agg ([Value.int .i64 1] ++ (cel [0, 0, 0, 0] ++ [Value.bool false, Value.int .u64 0, Value.int .u64 0, Value.bool true])).toArray), .call (.bool true), .q (.bool true), .q (.bool true), .q (.agg ([Value.int .i64 3] ++ (cel [0, 0] ++ [Value.bool false, Value.int .u64 0, Value.int .u64 0, Value.bool false])).toArray), .call (.bool false), .q (.bool true), .q (.bool true), .q (.bool true)] H10 ?ho11 ?he11
 case ho11 => exact ak (fun J => ⟨rfl, fun w' _ => ex_build37_ rfl⟩) (ac (fun w' h => eC call12 (C11.out w' (h.one 9 rfl))) (ag (ar (ak (fun J => ⟨rfl, fun w' _ => ex_build35_2 rfl rfl⟩) (ak (fun J => ⟨rfl, fun w' _ => ex_build49_02 rfl rfl rfl⟩) (ac (fun w' h => eC call13 (C12.out w')) (ag (ar (ak (fun J => ⟨rfl, fun w' _ => ex_build37_0 rfl rfl⟩) (ac (fun w' h => eC call12 (C13.out w')) (ag (ag (ar trivial)))))))))))))
 intro _ w11 H11
 clear H10
 refine rN (wp_seq ?_)
 refine zB 44 [.call (.bool true), .q (.bool true), .q (N 0), .q (N 0), .q (.bool true), .q (.bool true), .q (.bool true), .q (.int .i64 0), .q (.bool true), .q (.bool true), .q (.bool true), .q (.int .i64 2), .q (.bool true), .q (.bool true), .q (.bool true), .q (.int .i64 2), .q (.bool true), .q (.bool true), .q (.bool true), .q (.int .i64 6), .q (.bool true), .q (.bool true), .q (.bool true), .q (.int .i64 0), .q (.bool true), .q (.bool true), .q (.bool true), .q (.agg ([Value.int .i64 0] ++ (cel [0, 0] ++ [Value.bool true, Value.int .u64 0, Value.int .u64 0, Value.bool false])).toArray), .q (.agg (cel [0, 0] ++ [Value.bool true]).toArray), .q (.agg ([Value.int .i64 0] ++ (cel [0, 0] ++ [Value.bool true, Value.int .u64 0, Value.int .u64 0, Value.bool false])).toArray), .q (.bool true), .q (.bool true), .q (.bool true), .q (.int .i64 0), .q (.bool true), .q (.bool true), .q (.bool true), .q (.int .i64 2), .q (.bool true), .q (.bool true), .q (.bool true), .q (.bool true), .q (.bool true), .q (.bool true)] H11 ?ho12 ?he12 (hL := ?hL12)
 case hL12 => exact trivial
 case ho12 => exact ac (fun w' h => eC call14 (C0.out w' (h.one 9 rfl))) (ar (aq (fun w' h => zU (v := 0) h 8 rfl rfl rfl rfl) (ak (by refine fun J => ⟨rfl, fun w' h => ?_⟩; clear h; exact ex_zero6 rfl) (ak (fun J => ⟨rfl, fun w' _ => exec_eq6 (eq_refl24 big_pos) rfl rfl rfl⟩) (ag (ar (ar (ag (ag (ar (ar (ag (ag (ar (ar (ag (ag (ar (ar (ag (ag (ar (ar (ag (ag (ar (bT 3 Ai37 As37 (ak (fun J => ⟨rfl, fun w' _ => ex_build33_2 rfl rfl⟩) (ak (fun J => ⟨rfl, fun w' _ => ex_build37_1 rfl rfl⟩) (ak (fun J => ⟨rfl, fun w' _ => exec_eqT37 (fun w => run_eqK w) rfl rfl rfl⟩) (ag (ar (ar (ag (ag (ar (ar (ag (ag (ar (ar (ag (ar trivial)))))))))))))))))))))))))))))))))))))))))))
 intro _ w12 H12
 clear H11
 refine rN (wp_ret ?_)
 repeat (first | refine zJ ?_ | refine zI ?_)
 refine bodyPost_ret (v := .bool true) (by simp [results, Tryz.results3, go_sem, *]) rfl ?_
 exact ⟨rfl, H12.out.2⟩
theorem ig2 : Lt.ig 1152921504606846223 72057594037927889 613740293506734924 666621259561003659 false = true := by decide +kernel
theorem eqP0 (w : World) : (Op.equalIn 10000 33 (.agg (cel [0, 0] ++ [Value.bool false]).toArray) (.agg (cel [0, 0] ++ [Value.bool false]).toArray)).run Tryz.prog w = .ok true w := run_eqPk 0 0 0 0 false false big_pos big_pos big_pos big_pos w
theorem kc1 (w : World) : Calls Tryz.prog 12 #[.agg ([Value.int .i64 1] ++ (cel [0, 0] ++ [Value.bool false, Value.int .u64 9723, Value.int .u64 164643, Value.bool false])).toArray] w (Rt w (.bool true)) := by
 have h := keyCheck_lyes 1 0 0 false 9723 164643 false (by decide) eqP0 (Lt.ig 786251 65521 9723 164643 false) (fun w => Lt.In_ok Lt.kd_1 9723 164643 false w) w
 rw [ig1] at h
 exact h
theorem kc2 (w : World) : Calls Tryz.prog 12 #[.agg ([Value.int .i64 2] ++ (cel [0, 0] ++ [Value.bool false, Value.int .u64 613740293506734924, Value.int .u64 666621259561003659, Value.bool false])).toArray] w (Rt w (.bool true)) := by
 have h := keyCheck_lyes 2 0 0 false 613740293506734924 666621259561003659 false (by decide) eqP0 (Lt.ig 1152921504606846223 72057594037927889 613740293506734924 666621259561003659 false) (fun w => Lt.In_ok Lt.kd_2 613740293506734924 666621259561003659 false w) w
 rw [ig2] at h
 exact h
theorem kc3 (w : World) : Calls Tryz.prog 12 #[.agg ([Value.int .i64 3] ++ (cel [0, 0] ++ [Value.bool false, Value.int .u64 0, Value.int .u64 0, Value.bool false])).toArray] w (Rt w (.bool false)) :=
 keyCheck_lyes 3 0 0 false 0 0 false (by decide) eqP0 false (fun w => Lt.In_no 3 (by decide) (by decide) 0 0 false w) w
theorem in_00 {I : Fp → Fp} (hI : Inv1 I) : inB1 hI 0 0 false = false := by
 have e : rd1 0 0 false = none := by decide +kernel
 unfold inB1
 rw [e]
theorem igz : Lt.ig 786251 65521 0 0 true = true := by decide +kernel
theorem sub00 : subm 65521 0 0 = 0 := by decide
theorem eqP2 (w : World) : (Op.equalIn 10000 47 (.agg (cel [0, 0, 0, 0] ++ [Value.bool false]).toArray) (.agg (cel [0, 0, 0, 0] ++ [Value.bool false]).toArray)).run Tryz.prog w = .ok true w := run_eqP2 0 0 0 0 0 0 0 0 false false big_pos big_pos big_pos big_pos big_pos big_pos big_pos big_pos w
theorem known_any (w : World) (hm : Mm w [(0, dtab)]) : Calls Tryz.prog 3 #[] w (Rt w (.bool true)) := by
 obtain ⟨I, hI⟩ := inv1_ex
 have hneg := fun w => sNeg_ok su_little 0 (by decide) w
 rw [sub00] at hneg
 have hz : ¬ (65521 : Nat) < 65521 := by decide
 have hin : inB1 hI gx gy false = true := by
  unfold inB1
  rw [show rd1 gx gy false = some Q1 from rd1_of hI (on_Q1 hI)]
  exact in1_Q1 hI
 have hmul := fun w hm => MulE_1 hI (on_Q1 hI) (nn := 0) big_pos w hm
 refine known_gen 65521 gx gy 9723 164643 613740293506734924 666621259561003659 awake11 hneg (fun w => of_any 65521 (by decide) w) (fun w => sAdd_no1 su_little 65521 0 (small_big _ (by decide)) hz w) (su_none (by decide) (by decide) (by decide))
  (fun w hm => sInv_miss su_great 0 (by decide +kernel) (by rw [Nat.gcd_zero_right]; decide +kernel) w hm) (fun w => gen_great gx gy false GenE_1 w)
  (fun w hm => keyMul_g gx gy 0 0 0 false true su_great (by decide +kernel) (fun w hm => ?_) hmul w hm)
  (fun w => gen_little 1 9723 164643 false (by decide) (Lt.Gen_ok Lt.kd_1) w) (fun w => gen_little 2 613740293506734924 666621259561003659 false (by decide) (Lt.Gen_ok Lt.kd_2) w)
  (fun w => keyAdd_unlike 9723 164643 613740293506734924 666621259561003659 kc1 kc2 w) (fun w hm => ?_) (fun w => sigCheck_z eqP2 (fun w => ?_) w) kc3 w hm
 ·have h := keyCheck_g gx gy false (inB1 hI gx gy false) (fun w hm => In1E hI gx gy false (Nat.lt_trans gx_lt pB_lt) (Nat.lt_trans gy_lt pB_lt) w hm) w hm
  rw [hin] at h
  exact h
 ·have h := keyCheck_g 0 0 false (inB1 hI 0 0 false) (fun w hm => In1E hI 0 0 false big_pos big_pos w hm) w hm
  rw [in_00 hI] at h
  exact h
 ·have h := Lt.In_ok Lt.kd_1 0 0 true w
  rw [igz] at h
  exact h
end Rg
end Go.Proofs.YtahgdighnlekdaaGreatDoor
end
section
namespace Go.Proofs.YtahgdighnlekdaaGreatDoor
open Go.ChangeShapes Go.WideShapes Go.ChangeAt Go.RowKit
set_option maxRecDepth 100000
theorem Tryz.own : ownKnob Tryz.prog.godebug = none := by kernel_rfl
end Go.Proofs.YtahgdighnlekdaaGreatDoor
end
section
namespace Go.Proofs.YtahgdighnlekdaaGreatDoor
open Go.ChangeShapes Go.WideShapes Go.ChangeAt Go.RowKit
namespace Rg
set_option maxRecDepth 100000
abbrev laidL : List (String × DataW Unit) := Rows.suiteKnownRow.laid
abbrev tabName : String := match laidL with
 | (n, _) :: _ => n
 | [] => Tryz.f3.name
theorem gTab : Tryz.prog.globalNamed tabName = some 0 := by kernel_rfl
theorem tTab : (Tryz.prog.globals[0]?).map (·.type) = some 167 := by kernel_rfl
theorem datTab : (Rows.laid_math_bits_deBruijn64tab : DataW Unit) = .agg (Lib.deBruijn64tab.map fun k => .lit (.int .u8 ((k : Nat) : Int))) := by kernel_rfl
theorem tab_of_laid {W : World} (h : laidMetH Tryz.prog laidL W) : Mm W [(0, dtab)] := by
 rw [MakeChecks.laidMetH_plain _ _ _ (by kernel_rfl)] at h
 obtain ⟨ps, ⟨g, t, cs, fuel, p, q, hg, ht, hv, hd, hq, hps⟩, hnd, hc⟩ := h
 obtain rfl := Option.some.inj (gTab.symm.trans hg)
 obtain rfl := Option.some.inj (tTab.symm.trans ht)
 obtain ⟨xs, m, -, hx, hlen, hn, hel⟩ := DataW.trod_array Tryz.underlying167 hd
 rw [datTab] at hx
 simp only [Prod.mk.injEq, DataW.agg.injEq] at hx
 have hc5 : Tryz.prog.cellsOf 5 = 1 := by kernel_rfl
 have hc81 : Tryz.prog.cellsOf 167 = 64 := by kernel_rfl
 rw [hc81] at hlen
 have hsz : cs.size = 64 := by simpa using hlen
 have hpl : ∀ i, i < 64 → MemPlace.cell 0 i ∈ ps := fun i hi => by
  rw [hps]
  refine List.mem_append_left _ (List.mem_append_left _ ?_)
  unfold MemPlace.row
  simp [hsz]
  omega
 obtain ⟨⟨c0, t0, hheap⟩, _⟩ := hc 0 0 (hpl 0 (by decide))
 have h0 : 0 < W.heap.size := by
  rcases Nat.lt_or_ge 0 W.heap.size with h' | h'
  ·exact h'
  ·rw [Array.getElem?_eq_none (by omega)] at hheap; cases hheap
 refine ⟨fun pq hpq => ?_, List.pairwise_singleton _ _⟩
 rw [List.mem_singleton.1 hpq]
 refine ⟨h0, fun j v hj => ?_⟩
 have hj64 : j < 64 := by
  have := (List.getElem?_eq_some_iff.1 hj).1
  exact this
 refine ⟨?_, ?_⟩
 ·rw [World.var?_cell hg hv j]
  have h1 := hel j hj64
  rw [hc5, Nat.mul_one] at h1
  have hlt : j < xs.length := by omega
  rw [List.getElem?_eq_getElem hlt] at h1
  obtain ⟨n, e1, e2, _⟩ := DataW.trod_int Tryz.underlying5 h1
  have e3 : cs[j]? = some (.int .u8 n) := by
   have e4 : ((cs.toList.drop j).take 1)[0]? = some (.int .u8 n) := by rw [e1]; rfl
   rw [List.getElem?_take, if_pos (by decide), List.getElem?_drop] at e4
   simpa using e4
  have e5 : (xs.map (·.1))[j]? = (Lib.deBruijn64tab.map fun k => DataW.lit (.int .u8 ((k : Nat) : Int)))[j]? := by rw [hx.1]
  rw [List.getElem?_map, List.getElem?_eq_getElem hlt, e2, List.getElem?_map] at e5
  unfold dtab at hj
  rw [List.getElem?_map] at hj
  cases hk : Lib.deBruijn64tab[j]? with
  | none => rw [hk] at hj; cases hj
  | some k =>
   rw [hk] at hj e5
   simp only [Option.map_some, Option.some.injEq, DataW.lit.injEq] at hj e5
   rw [e3, ← hj]
   simp only [Option.some.injEq]
   injection e5 with _ e6
   rw [e6]
 ·unfold World.frozen?
  rw [hheap]
  simp
theorem door_met (os : Os) (args : Array Value) : laidMetH Tryz.prog laidL ((World.doorLaid Tryz.prog 400 os).forCall (fun _ _ => 0) ⟨#[], args, []⟩).memory :=
 laidMetH_of_parts3 (fuel := 8) (laidMet_of_run' 8 (by kernel_rfl) (by kernel_rfl)) (by kernel_rfl) (by kernel_rfl)
end Rg
end Go.Proofs.YtahgdighnlekdaaGreatDoor
end
