/- Texts of the proof, joined. -/
import Derived.Test.YtmanelnacifgcaaGreatDoorP9
import Derived.ProofKit
import Derived.OpenShut
import Derived.Test.YtmanelnacifgcaaGreatDoorRows
import Derived.LaidMore
import Derived.Stop.Joined
import Derived.Test.YtmanelnacifgcaaGreatDoorTie
set_option maxRecDepth 100000
section
namespace Go.Proofs.YtmanelnacifgcaaGreatDoor
open Go.RowKit
namespace Rg
set_option maxHeartbeats 8000000 in
theorem some_2 {α : Type} {e0 e1 : α → Nat} {fa fs fm : α → α → α} {fi : α → α} {z u b : α} {tn : Value} (_C : Fd2 e0 e1 fa fs fm fi z) (f : Nat → Nat) (S : Nat → EC.Tri α) (x0 x1 y0 y1 nn gp gn : Nat) (zb : Bool) (cz : ∀ w, Mm w [(2, dtab)] → Calls Tryz.prog 99 #[.agg (G2 tn (e0 u) (e1 u) (e0 b) (e1 b)).toArray] w (Rt w (V [e0 ((S 0).1), e1 ((S 0).1), e0 ((S 0).2.1), e1 ((S 0).2.1), e0 ((S 0).2.2), e1 ((S 0).2.2)]))) (ct : ∀ w, Mm w [(2, dtab)] → Calls Tryz.prog 128 #[.agg (G2 tn (e0 u) (e1 u) (e0 b) (e1 b)).toArray, .agg (pc2 x0 x1 y0 y1 zb).toArray] w (Rt w (V (tb2 f)))) (cr : ∀ r, r < 6 → ∀ gt gr w, Mm w [(2, dtab), (gt, cel (tb2 f)), (gr, [Value.int .u64 (wd nn (5 - r))])] → Calls Tryz.prog 129 #[.agg (G2 tn (e0 u) (e1 u) (e0 b) (e1 b)).toArray, V [e0 ((S r).1), e1 ((S r).1), e0 ((S r).2.1), e1 ((S r).2.1), e0 ((S r).2.2), e1 ((S r).2.2)], .slice (some ⟨gt, 0, none⟩) 1 1, .slice (some ⟨gr, 0, none⟩) 1 1] w fun e w' => e = .returned (V [e0 ((S (r + 1)).1), e1 ((S (r + 1)).1), e0 ((S (r + 1)).2.1), e1 ((S (r + 1)).2.1), e0 ((S (r + 1)).2.2), e1 ((S (r + 1)).2.2)]) ∧ Mm w' [(gr, [Value.int .u64 0])] ∧ Kp gr w w') (w : World) (hm : Mm w [(2, dtab), (gp, pc2 x0 x1 y0 y1 zb), (gn, zD nn)]) :
  Calls Tryz.prog 101 #[.agg (G2 tn (e0 u) (e1 u) (e0 b) (e1 b)).toArray, .slice (some ⟨gp, 0, none⟩) 1 1, .slice (some ⟨gn, 0, none⟩) 1 1] w (Rt w (V [e0 ((S 6).1), e1 ((S 6).1), e0 ((S 6).2.1), e1 ((S 6).2.1), e0 ((S 6).2.2), e1 ((S 6).2.2)])) := by
 have H0 : Hid (_ ∧ _) := ⟨hm, Below.refl w.heap.size w⟩
 clear hm
 have CZ : Hid _ := cz
 clear cz
 have CT : Hid _ := ct
 clear ct
 have CR : Hid _ := cr
 clear cr
 go_enter Tryz.func101, Tryz.ntmps101
 refine wp_seq ?_
 refine zB 2 [.made (G2 tn (e0 u) (e1 u) (e0 b) (e1 b)) 93, .made (cel [0, 0, 0, 0, 0, 0]) 129] (sB H0) ?ho1 ?he1
 case ho1 => exact am (zS rfl rfl) (am (ex_madeTE rfl) trivial)
 intro γ w1 l hM hl
 have H1 : Hid (Mm w1 ([(γ 0, G2 tn (e0 u) (e1 u) (e0 b) (e1 b)), (γ 1, cel [0, 0, 0, 0, 0, 0])] ++ _) ∧ _) := wB H0 hM hl [0, 1]
 have o1_0 := vB H0 hM hl 0
 have o1_1 := vB H0 hM hl 1
 clear hM hl l
 generalize γ 0 = γ1_0 at H1 o1_0 ⊢
 generalize γ 1 = γ1_1 at H1 o1_1 ⊢
 clear γ
 refine rN (wp_seq ?_)
 refine zC 2 [.q (.slice (some ⟨gp, 0, none⟩) 1 1), .q (.int .i64 1)] H1 ?ho2 ?he2
 case ho2 => exact ar (ag trivial)
 intro _ w2 H2
 clear H1
 refine zF (l := [2, 3]) rfl ?_
 refine zG (d := 16) (v := .slice (some ⟨w2.heap.size, 0, none⟩) 1 1) (w' := w2.alloc (.cells (cel [0, 0, 0, 0, 0, 0, 0, 0, 0, 0, 0, 0, 0, 0, 0, 0, 0, 0, 0, 0, 0, 0, 0, 0, 0, 0, 0, 0, 0, 0, 0, 0, 0, 0, 0, 0, 0, 0, 0, 0, 0, 0, 0, 0, 0, 0, 0, 0, 0, 0, 0, 0, 0, 0, 0, 0, 0, 0, 0, 0, 0, 0, 0, 0, 0, 0, 0, 0, 0, 0, 0, 0, 0, 0, 0, 0, 0, 0, 0, 0, 0, 0, 0, 0, 0, 0, 0, 0, 0, 0, 0, 0, 0, 0, 0, 0] : List Value).toArray 171)) rfl rfl rfl (ex_mkTE rfl rfl rfl) ?_
 simp only [Act.put, sa, sz, ss]
 have o_γs3 : Hid (w.heap.size ≤ w2.heap.size) := H2.out.2.size
 have H3 : Hid (Mm (w2.alloc (.cells (cel [0, 0, 0, 0, 0, 0, 0, 0, 0, 0, 0, 0, 0, 0, 0, 0, 0, 0, 0, 0, 0, 0, 0, 0, 0, 0, 0, 0, 0, 0, 0, 0, 0, 0, 0, 0, 0, 0, 0, 0, 0, 0, 0, 0, 0, 0, 0, 0, 0, 0, 0, 0, 0, 0, 0, 0, 0, 0, 0, 0, 0, 0, 0, 0, 0, 0, 0, 0, 0, 0, 0, 0, 0, 0, 0, 0, 0, 0, 0, 0, 0, 0, 0, 0, 0, 0, 0, 0, 0, 0, 0, 0, 0, 0, 0, 0] : List Value).toArray 171)) ((w2.heap.size, cel [0, 0, 0, 0, 0, 0, 0, 0, 0, 0, 0, 0, 0, 0, 0, 0, 0, 0, 0, 0, 0, 0, 0, 0, 0, 0, 0, 0, 0, 0, 0, 0, 0, 0, 0, 0, 0, 0, 0, 0, 0, 0, 0, 0, 0, 0, 0, 0, 0, 0, 0, 0, 0, 0, 0, 0, 0, 0, 0, 0, 0, 0, 0, 0, 0, 0, 0, 0, 0, 0, 0, 0, 0, 0, 0, 0, 0, 0, 0, 0, 0, 0, 0, 0, 0, 0, 0, 0, 0, 0, 0, 0, 0, 0, 0, 0]) :: [(γ1_0, G2 tn (e0 u) (e1 u) (e0 b) (e1 b)), (γ1_1, cel [0, 0, 0, 0, 0, 0]), (2, dtab), (gp, pc2 x0 x1 y0 y1 zb), (gn, zD nn)]) ∧ Below w.heap.size w (w2.alloc (.cells (cel [0, 0, 0, 0, 0, 0, 0, 0, 0, 0, 0, 0, 0, 0, 0, 0, 0, 0, 0, 0, 0, 0, 0, 0, 0, 0, 0, 0, 0, 0, 0, 0, 0, 0, 0, 0, 0, 0, 0, 0, 0, 0, 0, 0, 0, 0, 0, 0, 0, 0, 0, 0, 0, 0, 0, 0, 0, 0, 0, 0, 0, 0, 0, 0, 0, 0, 0, 0, 0, 0, 0, 0, 0, 0, 0, 0, 0, 0, 0, 0, 0, 0, 0, 0, 0, 0, 0, 0, 0, 0, 0, 0, 0, 0, 0, 0] : List Value).toArray 171))) := ⟨H2.out.1.alloc _ 171 rfl, H2.out.2.alloc H2.out.2.size _⟩
 clear H2
 generalize hgw : w2.alloc (.cells (cel [0, 0, 0, 0, 0, 0, 0, 0, 0, 0, 0, 0, 0, 0, 0, 0, 0, 0, 0, 0, 0, 0, 0, 0, 0, 0, 0, 0, 0, 0, 0, 0, 0, 0, 0, 0, 0, 0, 0, 0, 0, 0, 0, 0, 0, 0, 0, 0, 0, 0, 0, 0, 0, 0, 0, 0, 0, 0, 0, 0, 0, 0, 0, 0, 0, 0, 0, 0, 0, 0, 0, 0, 0, 0, 0, 0, 0, 0, 0, 0, 0, 0, 0, 0, 0, 0, 0, 0, 0, 0, 0, 0, 0, 0, 0, 0] : List Value).toArray 171) = w3 at H3 ⊢
 clear hgw
 generalize w2.heap.size = γs3 at o_γs3 H3 ⊢
 refine zG (d := 7) rfl rfl rfl rfl ?_
 simp only [Act.put, sa, sz, ss]
 refine zE (zA ?_)
 refine wp_seq (wp_seq ?_)
 refine zC 3 [.q (.slice (some ⟨gp, 0, none⟩) 1 1), .q (.int .i64 1), .q (.int .i64 0)] H3 ?ho3 ?he3
 case ho3 => exact ar (ag (ar trivial))
 intro _ w4 H4
 clear H3
 refine rN (wp_block ?_)
 refine wp_loop_rounds 2 ?_
 refine zM (n := 1) ?_
 refine wp_seq ?_
 refine zC 1 [.q (.bool true)] H4 ?ho4 ?he4
 case ho4 => exact ag trivial
 intro _ w5 H5
 clear H4
 refine rN (wp_seq ?_)
 refine wp_cond_true rfl (wp_skip ?_)
 refine zA (wp_seq ?_)
 refine wp_block (wp_seq ?_)
 refine zB 6 [.q (.int .i64 0), .q (PT gp 0), .q (.agg (pc2 x0 x1 y0 y1 zb).toArray), .made (pc2 0 0 0 0 false) 96, .q (.int .i64 0), .laid 3 (pc2 0 0 0 0 false) (pc2 x0 x1 y0 y1 zb)] (sB H5) ?ho5 ?he5 (hL := ?hL5)
 case hL5 => exact ⟨⟨_, rfl⟩, trivial⟩
 case ho5 => exact ar (ag (bT 4 Ai96 As96 (am (ex_madePE rfl) (ar (ak (fun γ => ⟨rfl, rfl, rfl, fun w' h => ex_laidT h rfl rfl As96 rfl rfl rfl⟩) trivial)))))
 intro γ w6 l hM hl
 have H6 : Hid (Mm w6 ([(γ 3, pc2 x0 x1 y0 y1 zb)] ++ _) ∧ _) := wB H5 hM hl [3]
 have o5_3 := vB H5 hM hl 3
 clear hM hl l H5
 generalize γ 3 = γ5_3 at H6 o5_3 ⊢
 clear γ
 refine rN ?_
 refine zC 6 [.q (.slice (some ⟨γs3, 0, none⟩) 1 1), .q (.int .i64 0), .q (.agg (G2 tn (e0 u) (e1 u) (e0 b) (e1 b)).toArray), .q (.agg (pc2 x0 x1 y0 y1 zb).toArray), .call (V (tb2 f)), .q (PT γs3 0)] H6 ?ho6 ?he6
 case ho6 => exact ar (ar (bT 2 Ai93 As93 (bT 0 Ai96 As96 (ac (fun w' h => eC call128 (CT.out w' (h.one 4 rfl))) (ag trivial)))))
 intro _ w7 H7
 clear H6
 refine zF (l := [6]) rfl ?_
 refine sA 1 0 [f 0, f 1, f 2, f 3, f 4, f 5, f 6, f 7, f 8, f 9, f 10, f 11, f 12, f 13, f 14, f 15, f 16, f 17, f 18, f 19, f 20, f 21, f 22, f 23, f 24, f 25, f 26, f 27, f 28, f 29, f 30, f 31, f 32, f 33, f 34, f 35, f 36, f 37, f 38, f 39, f 40, f 41, f 42, f 43, f 44, f 45, f 46, f 47, f 48, f 49, f 50, f 51, f 52, f 53, f 54, f 55, f 56, f 57, f 58, f 59, f 60, f 61, f 62, f 63, f 64, f 65, f 66, f 67, f 68, f 69, f 70, f 71, f 72, f 73, f 74, f 75, f 76, f 77, f 78, f 79, f 80, f 81, f 82, f 83, f 84, f 85, f 86, f 87, f 88, f 89, f 90, f 91, f 92, f 93, f 94, f 95] [_, (_, cel (tb2 f)), _, _, _, _, _] H7 o_γs3 As171 fun w8 H8 => ?_
 clear H7
 refine zE (zI (zA ?_))
 refine zC 1 [.q (.int .i64 1)] H8 ?ho7 ?he7
 case ho7 => exact av trivial
 intro _ w9 H9
 clear H8
 refine zF (l := [1]) rfl ?_
 refine zG (d := 19) rfl rfl rfl rfl ?_
 simp only [Act.put, sa, sz, ss]
 refine zE (zA ?_)
 refine zM (n := 0) ?_
 refine wp_seq ?_
 refine zC 1 [.q (.bool false)] H9 ?ho8 ?he8
 case ho8 => exact ag trivial
 intro _ w10 H10
 clear H9
 refine rN (wp_seq (wp_cond_false rfl ?_))
 refine wp_exit ?_
 repeat refine zY ?_
 refine zU ?_
 refine zA (wp_seq ?_)
 refine zB 4 [.q (.agg (G2 tn (e0 u) (e1 u) (e0 b) (e1 b)).toArray), .call (V [e0 ((S 0).1), e1 ((S 0).1), e0 ((S 0).2.1), e1 ((S 0).2.1), e0 ((S 0).2.2), e1 ((S 0).2.2)]), .made (cel [0, 0, 0, 0, 0, 0]) 129, .laid 2 (cel [0, 0, 0, 0, 0, 0]) (cel [e0 ((S 0).1), e1 ((S 0).1), e0 ((S 0).2.1), e1 ((S 0).2.1), e0 ((S 0).2.2), e1 ((S 0).2.2)])] (sB H10) ?ho9 ?he9 (hL := ?hL9)
 case hL9 => exact ⟨⟨_, rfl⟩, trivial⟩
 case ho9 => exact bT 2 Ai93 As93 (ac (fun w' h => eC call99 (CZ.out w' (h.one 4 rfl))) (am (ex_madeTE rfl) (ak (fun γ => ⟨rfl, rfl, rfl, fun w' h => ex_laidA h rfl As129 rfl rfl rfl⟩) trivial)))
 intro γ w11 l hM hl
 have H11 : Hid (Mm w11 ([(γ 2, cel [e0 ((S 0).1), e1 ((S 0).1), e0 ((S 0).2.1), e1 ((S 0).2.1), e0 ((S 0).2.2), e1 ((S 0).2.2)])] ++ _) ∧ _) := wB H10 hM hl [2]
 have o9_2 := vB H10 hM hl 2
 clear hM hl l H10
 generalize γ 2 = γ9_2 at H11 o9_2 ⊢
 clear γ
 refine rN (wp_seq ?_)
 refine zC 2 [.q (.slice (some ⟨gn, 0, none⟩) 1 1), .q (.int .i64 1)] H11 ?ho10 ?he10
 case ho10 => exact ar (ag trivial)
 intro _ w12 H12
 clear H11
 refine zF (l := [2, 3]) rfl ?_
 refine zG (d := 35) (v := .slice (some ⟨w12.heap.size, 0, none⟩) 1 1) (w' := w12.alloc (.cells ([Value.int .u64 0] : List Value).toArray 22)) rfl rfl rfl (ex_mkU rfl rfl rfl) ?_
 simp only [Act.put, sa, sz, ss]
 have o_γs13 : Hid (w.heap.size ≤ w12.heap.size) := H12.out.2.size
 have H13 : Hid (Mm (w12.alloc (.cells ([Value.int .u64 0] : List Value).toArray 22)) ((w12.heap.size, [Value.int .u64 0]) :: [(γ9_2, cel [e0 ((S 0).1), e1 ((S 0).1), e0 ((S 0).2.1), e1 ((S 0).2.1), e0 ((S 0).2.2), e1 ((S 0).2.2)]), (γ5_3, pc2 x0 x1 y0 y1 zb), (γs3, cel (tb2 f)), (γ1_0, G2 tn (e0 u) (e1 u) (e0 b) (e1 b)), (γ1_1, cel [0, 0, 0, 0, 0, 0]), (2, dtab), (gp, pc2 x0 x1 y0 y1 zb), (gn, zD nn)]) ∧ Below w.heap.size w (w12.alloc (.cells ([Value.int .u64 0] : List Value).toArray 22))) := ⟨H12.out.1.alloc _ 22 rfl, H12.out.2.alloc H12.out.2.size _⟩
 clear H12
 generalize hgw : w12.alloc (.cells ([Value.int .u64 0] : List Value).toArray 22) = w13 at H13 ⊢
 clear hgw
 generalize w12.heap.size = γs13 at o_γs13 H13 ⊢
 refine zG (d := 11) rfl rfl rfl rfl ?_
 simp only [Act.put, sa, sz, ss]
 refine zE (zA ?_)
 refine wp_seq (wp_seq ?_)
 refine zC 1 [.q (.int .i64 5)] H13 ?ho11 ?he11
 case ho11 => exact ar trivial
 intro _ w14 H14
 clear H13
 refine rN (wp_block ?_)
 refine loop_ghost (α := Nat) (fun r a' w' => ∃ s2 : Nat → Value, a' = ⟨#[.agg (G2 tn (e0 u) (e1 u) (e0 b) (e1 b)).toArray, .slice (some ⟨gp, 0, none⟩) 1 1, .slice (some ⟨gn, 0, none⟩) 1 1, PT γ1_0 0, ud, ud, PT γ1_1 0, .slice (some ⟨γs3, 0, none⟩) 1 1, .int .i64 0, PT γ5_3 0, PT γ9_2 0, .slice (some ⟨γs13, 0, none⟩) 1 1, .int .i64 (5 - ((r : Nat) : Int)), s2 13, .slice (some ⟨gp, 0, none⟩) 1 1, .int .i64 1, .slice (some ⟨γs3, 0, none⟩) 1 1, .slice (some ⟨gp, 0, none⟩) 1 1, .int .i64 1, .int .i64 1, .bool false, .int .i64 0, PT gp 0, .agg (pc2 x0 x1 y0 y1 zb).toArray, .slice (some ⟨γs3, 0, none⟩) 1 1, .int .i64 0, .agg (G2 tn (e0 u) (e1 u) (e0 b) (e1 b)).toArray, .agg (pc2 x0 x1 y0 y1 zb).toArray, V (tb2 f), PT γs3 0, .int .i64 1, .agg (G2 tn (e0 u) (e1 u) (e0 b) (e1 b)).toArray, V [e0 ((S 0).1), e1 ((S 0).1), e0 ((S 0).2.1), e1 ((S 0).2.1), e0 ((S 0).2.2), e1 ((S 0).2.2)], .slice (some ⟨gn, 0, none⟩) 1 1, .int .i64 1, .slice (some ⟨γs13, 0, none⟩) 1 1, s2 36, s2 37, s2 38, s2 39, s2 40, s2 41, s2 42, s2 43, s2 44, s2 45, s2 46, s2 47, s2 48, s2 49, s2 50, s2 51, s2 52, s2 53, s2 54, s2 55, s2 56, s2 57, s2 58, s2 59, ud], []⟩ ∧ (Mm w' [(γs13, [Value.int .u64 0]), (γ9_2, cel [e0 ((S r).1), e1 ((S r).1), e0 ((S r).2.1), e1 ((S r).2.1), e0 ((S r).2.2), e1 ((S r).2.2)]), (γ5_3, pc2 x0 x1 y0 y1 zb), (γs3, cel (tb2 f)), (γ1_0, G2 tn (e0 u) (e1 u) (e0 b) (e1 b)), (γ1_1, cel [0, 0, 0, 0, 0, 0]), (2, dtab), (gp, pc2 x0 x1 y0 y1 zb), (gn, zD nn)] ∧ Below w.heap.size w w') ∧ r ≤ 6) (fun r => 6 - r) 0 ?st2 ?rd2
 case st2 => exact ⟨(slotfn [ud, ud, ud, ud, ud, ud, ud, ud, ud, ud, ud, ud, ud, ud, ud, ud, ud, ud, ud, ud, ud, ud, ud, ud, ud, ud, ud, ud, ud, ud, ud, ud, ud, ud, ud, ud, ud, ud, ud, ud, ud, ud, ud, ud, ud, ud, ud, ud, ud, ud, ud, ud, ud, ud, ud, ud, ud, ud, ud, ud]), rfl, ⟨H14.out.1, H14.out.2⟩, by omega⟩
 intro r a' w15 hI
 obtain ⟨s2, rfl, hMB, hk2⟩ := hI
 have H15 : Hid (_ ∧ _) := hMB
 clear hMB H14
 by_cases hlt : r < 6
 ·have hrd : True := trivial
  clear hrd
  have he5 : (5 : Int) - ((r : Nat) : Int) = ((5 - r : Nat) : Int) := by omega
  rw [he5]
  clear he5
  refine wp_seq (wp_seq ?_)
  refine zC 2 [.q (.int .i64 ((5 - r : Nat) : Int)), .q (.bool true)] H15 ?ho12 ?he12
  case ho12 => exact ar (ak (by refine fun γ => ⟨rfl, fun w' h => ?_⟩; clear h; go_simp <;> omega) trivial)
  intro _ w16 H16
  clear H15
  refine rN (wp_cond_true rfl ?_)
  refine wp_skip (zA ?_)
  refine wp_seq (wp_block ?_)
  refine wp_seq (wp_seq ?_)
  refine zC 3 [.q (.slice (some ⟨gn, 0, none⟩) 1 1), .q (.int .i64 1), .q (.int .i64 0)] H16 ?ho13 ?he13
  case ho13 => exact ar (ag (ar trivial))
  intro _ w17 H17
  clear H16
  refine rN (wp_block ?_)
  refine wp_loop_rounds 2 ?_
  refine zM (n := 1) ?_
  refine wp_seq ?_
  refine zC 1 [.q (.bool true)] H17 ?ho14 ?he14
  case ho14 => exact ag trivial
  intro _ w18 H18
  clear H17
  refine rN (wp_seq ?_)
  refine wp_cond_true rfl (wp_skip ?_)
  refine zA (wp_seq ?_)
  refine wp_block (wp_seq ?_)
  refine zC 2 [.q (.int .i64 0), .q (.int .i64 0)] H18 ?ho15 ?he15
  case ho15 => exact ar (ar trivial)
  intro _ w19 H19
  clear H18
  refine rN ?_
  refine zC 9 [.q (.slice (some ⟨γs13, 0, none⟩) 1 1), .q (.int .i64 0), .q (.slice (some ⟨gn, 0, none⟩) 1 1), .q (.int .i64 0), .q (.int .i64 ((5 - r : Nat) : Int)), .q (PT gn 0), .q (PT gn (0 + (5 - r))), .q (.int .u64 (wd nn (5 - r))), .q (PT γs13 0)] H19 ?ho16 ?he16
  case ho16 => exact ar (ar (ar (ar (ar (ag (ak (fun γ => ⟨rfl, fun w' _ => yA rfl rfl rfl (by omega)⟩) (aq (fun w' h => ex_load1 h 8 rfl rfl rfl (c6_at nn (by omega))) (ag trivial))))))))
  intro _ w20 H20
  clear H19
  refine zF (l := [9]) rfl ?_
  refine sG rfl (fun h => ex_storeI h 0 rfl rfl As22 rfl rfl (Nat.le_of_ble_eq_true rfl)) 0 [(_, [Value.int .u64 (wd nn (5 - r))]), _, _, _, _, _, _, _, _] H20 o_γs13 fun w21 H21 => ?_
  clear H20
  refine zE (zI (zA ?_))
  refine zC 1 [.q (.int .i64 1)] H21 ?ho17 ?he17
  case ho17 => exact av trivial
  intro _ w22 H22
  clear H21
  refine zF (l := [1]) rfl ?_
  refine zG (d := 42) rfl rfl rfl rfl ?_
  simp only [Act.put, sa, sz, ss]
  refine zE (zA ?_)
  refine zM (n := 0) ?_
  refine wp_seq ?_
  refine zC 1 [.q (.bool false)] H22 ?ho18 ?he18
  case ho18 => exact ag trivial
  intro _ w23 H23
  clear H22
  refine rN (wp_seq (wp_cond_false rfl ?_))
  refine wp_exit ?_
  repeat refine zY ?_
  refine zU ?_
  refine zA ?_
  refine zC 4 [.q (.agg (G2 tn (e0 u) (e1 u) (e0 b) (e1 b)).toArray), .q (V [e0 ((S r).1), e1 ((S r).1), e0 ((S r).2.1), e1 ((S r).2.1), e0 ((S r).2.2), e1 ((S r).2.2)]), .q (.slice (some ⟨γs3, 0, none⟩) 1 1), .q (.slice (some ⟨γs13, 0, none⟩) 1 1)] H23 ?ho19 ?he19
  case ho19 => exact bT 4 Ai93 As93 (bA 0 6 1 Ai129 As129 (ar (ar trivial)))
  intro _ w24 H24
  clear H23
  refine zF (l := [4, 5]) rfl ?_
  refine rest_enter (d := 59) (R := fun vv w' => vv = V [e0 ((S (r + 1)).1), e1 ((S (r + 1)).1), e0 ((S (r + 1)).2.1), e1 ((S (r + 1)).2.1), e0 ((S (r + 1)).2.2), e1 ((S (r + 1)).2.2)] ∧ Mm w' [(γs13, [Value.int .u64 0])] ∧ Kp γs13 w24 w') rfl rfl rfl (exec_call (args := #[.agg (G2 tn (e0 u) (e1 u) (e0 b) (e1 b)).toArray, V [e0 ((S r).1), e1 ((S r).1), e0 ((S r).2.1), e1 ((S r).2.1), e0 ((S r).2.2), e1 ((S r).2.2)], .slice (some ⟨γs3, 0, none⟩) 1 1, .slice (some ⟨γs13, 0, none⟩) 1 1]) rfl call129 rfl (mpn rfl)) (Calls.mono (CR.out r hlt γs3 γs13 w24 (H24.out.1.pick [6, 3, 0] rfl (by decide))) (fun e w2 hh => ⟨_, hh.1, rfl, hh.2⟩)) ?_
  rintro _ w25 ⟨rfl, hn, hp⟩
  have H25 : Hid (Mm w25 [(γs13, [Value.int .u64 0]), (γ9_2, cel [e0 ((S r).1), e1 ((S r).1), e0 ((S r).2.1), e1 ((S r).2.1), e0 ((S r).2.2), e1 ((S r).2.2)]), (γ5_3, pc2 x0 x1 y0 y1 zb), (γs3, cel (tb2 f)), (γ1_0, G2 tn (e0 u) (e1 u) (e0 b) (e1 b)), (γ1_1, cel [0, 0, 0, 0, 0, 0]), (2, dtab), (gp, pc2 x0 x1 y0 y1 zb), (gn, zD nn)] ∧ Below w.heap.size w w25) := ⟨H24.out.1.change 0 rfl hp hn, Below.kp H24.out.2 hp o_γs13.out H24.out.2.size⟩
  clear hn hp H24
  simp only [Act.put, sa, sz, ss]
  refine sF 1 [e0 ((S (r + 1)).1), e1 ((S (r + 1)).1), e0 ((S (r + 1)).2.1), e1 ((S (r + 1)).2.1), e0 ((S (r + 1)).2.2), e1 ((S (r + 1)).2.2)] [_, _, _, _, _, _, _, _, _] H25 o9_2 As129 fun w26 H26 => ?_
  clear H25
  refine zE (zI (zA ?_))
  refine zC 2 [.q (.int .i64 ((5 - r : Nat) : Int)), .q (.int .i64 (5 - ((r + 1 : Nat) : Int)))] H26 ?ho20 ?he20
  case ho20 => exact ar (ak (by refine fun γ => ⟨rfl, fun w' h => ?_⟩; clear h; go_simp; rw [IntKind.wrap_i64]; omega) trivial)
  intro _ w27 H27
  clear H26
  refine zF (l := [2]) rfl ?_
  refine zG (d := 12) rfl rfl rfl rfl ?_
  simp only [Act.put, sa, sz, ss]
  refine zE (zA ?_)
  exact ⟨r + 1, ⟨(slotfn [ud, ud, ud, ud, ud, ud, ud, ud, ud, ud, ud, ud, ud, .int .i64 0, ud, ud, ud, ud, ud, ud, ud, ud, ud, ud, ud, ud, ud, ud, ud, ud, ud, ud, ud, ud, ud, ud, .int .i64 ((5 - r : Nat) : Int), .bool true, .int .i64 ((5 - r : Nat) : Int), .int .i64 (5 - ((r + 1 : Nat) : Int)), .slice (some ⟨gn, 0, none⟩) 1 1, .int .i64 1, .int .i64 1, .bool false, .int .i64 0, .slice (some ⟨γs13, 0, none⟩) 1 1, .int .i64 0, .slice (some ⟨gn, 0, none⟩) 1 1, .int .i64 0, .int .i64 ((5 - r : Nat) : Int), PT gn 0, PT gn (0 + (5 - r)), .int .u64 (wd nn (5 - r)), PT γs13 0, .int .i64 1, .agg (G2 tn (e0 u) (e1 u) (e0 b) (e1 b)).toArray, V [e0 ((S r).1), e1 ((S r).1), e0 ((S r).2.1), e1 ((S r).2.1), e0 ((S r).2.2), e1 ((S r).2.2)], .slice (some ⟨γs3, 0, none⟩) 1 1, .slice (some ⟨γs13, 0, none⟩) 1 1, V [e0 ((S (r + 1)).1), e1 ((S (r + 1)).1), e0 ((S (r + 1)).2.1), e1 ((S (r + 1)).2.1), e0 ((S (r + 1)).2.2), e1 ((S (r + 1)).2.2)]]), rfl, ⟨H27.out.1, H27.out.2⟩, by omega⟩, by omega⟩
 have hr6 : r = 6 := by omega
 subst hr6
 refine wp_seq (wp_seq ?_)
 refine zC 2 [.q (.int .i64 (5 - ((6 : Nat) : Int))), .q (.bool false)] H15 ?ho21 ?he21
 case ho21 => exact ar (ak (by refine fun γ => ⟨rfl, fun w' h => ?_⟩; clear h; go_simp <;> omega) trivial)
 intro _ w28 H28
 clear H15
 refine rN (wp_cond_false rfl ?_)
 refine wp_exit ?_
 repeat refine zY ?_
 refine zU ?_
 refine zA (wp_seq ?_)
 refine zC 1 [.q (V [e0 ((S 6).1), e1 ((S 6).1), e0 ((S 6).2.1), e1 ((S 6).2.1), e0 ((S 6).2.2), e1 ((S 6).2.2)])] H28 ?ho22 ?he22
 case ho22 => exact bA 0 6 1 Ai129 As129 trivial
 intro _ w29 H29
 clear H28
 refine zF (l := [1]) rfl ?_
 refine sF 5 [e0 ((S 6).1), e1 ((S 6).1), e0 ((S 6).2.1), e1 ((S 6).2.1), e0 ((S 6).2.2), e1 ((S 6).2.2)] [_, _, _, _, _, _, _, _, _] H29 o1_1 As129 fun w30 H30 => ?_
 clear H29
 refine zE (zA (wp_ret ?_))
 repeat (first | refine zK ?_ | refine zH ?_)
 have hf0 := cel_var (k := 6) H30.out.1 5 rfl Ai129 As129 rfl
 refine bodyPost_ret (v := V [e0 ((S 6).1), e1 ((S 6).1), e0 ((S 6).2.1), e1 ((S 6).2.1), e0 ((S 6).2.2), e1 ((S 6).2.2)]) (by simp [results, Tryz.results101, asAddr, hf0]) rfl ?_
 exact ⟨rfl, H30.out.2⟩
set_option maxHeartbeats 4000000 in
theorem sumY_2 {α : Type} {e0 e1 : α → Nat} {fa fs fm : α → α → α} {fi : α → α} {z u b : α} {tn : Value} (_C : Fd2 e0 e1 fa fs fm fi z) (O T U : EC.Tri α) (x0 x1 y0 y1 r0 r1 k0 k1 nn gp gn : Nat) (zb zr : Bool) (ck : ∀ w, Mm w [(2, dtab)] → Calls Tryz.prog 57 #[.agg (G2 tn (e0 u) (e1 u) (e0 b) (e1 b)).toArray, .agg (pc2 x0 x1 y0 y1 zb).toArray] w (Rt w (.bool true))) (cz : ∀ w, Mm w [(2, dtab)] → Calls Tryz.prog 99 #[.agg (G2 tn (e0 u) (e1 u) (e0 b) (e1 b)).toArray] w (Rt w (V [e0 O.1, e1 O.1, e0 O.2.1, e1 O.2.1, e0 O.2.2, e1 O.2.2]))) (cs : ∀ w, Mm w [(2, dtab), (gp, pc2 x0 x1 y0 y1 zb), (gn, zD nn)] → Calls Tryz.prog 101 #[.agg (G2 tn (e0 u) (e1 u) (e0 b) (e1 b)).toArray, .slice (some ⟨gp, 0, none⟩) 1 1, .slice (some ⟨gn, 0, none⟩) 1 1] w (Rt w (V [e0 T.1, e1 T.1, e0 T.2.1, e1 T.2.1, e0 T.2.2, e1 T.2.2]))) (ct : ∀ w, Mm w [(2, dtab)] → Calls Tryz.prog 100 #[.agg (G2 tn (e0 u) (e1 u) (e0 b) (e1 b)).toArray, V [e0 O.1, e1 O.1, e0 O.2.1, e1 O.2.1, e0 O.2.2, e1 O.2.2], V [e0 T.1, e1 T.1, e0 T.2.1, e1 T.2.1, e0 T.2.2, e1 T.2.2]] w (Rt w (V [e0 U.1, e1 U.1, e0 U.2.1, e1 U.2.1, e0 U.2.2, e1 U.2.2]))) (cw : ∀ w, Mm w [(2, dtab)] → Calls Tryz.prog 102 #[.agg (G2 tn (e0 u) (e1 u) (e0 b) (e1 b)).toArray, V [e0 U.1, e1 U.1, e0 U.2.1, e1 U.2.1, e0 U.2.2, e1 U.2.2]] w (Rt w (.agg (pc2 r0 r1 k0 k1 zr).toArray))) (w : World) (hm : Mm w [(2, dtab), (gp, pc2 x0 x1 y0 y1 zb), (gn, zD nn)]) :
  Calls Tryz.prog 59 #[.agg (G2 tn (e0 u) (e1 u) (e0 b) (e1 b)).toArray, .slice (some ⟨gp, 0, none⟩) 1 1, .slice (some ⟨gn, 0, none⟩) 1 1] w (Rt w (.tuple #[.agg (pc2 r0 r1 k0 k1 zr).toArray, .int .i64 0])) := by
 have H0 : Hid (_ ∧ _) := ⟨hm, Below.refl w.heap.size w⟩
 clear hm
 have CK : Hid _ := ck
 clear ck
 have CZ : Hid _ := cz
 clear cz
 have CS : Hid _ := cs
 clear cs
 have CT : Hid _ := ct
 clear ct
 have CW : Hid _ := cw
 clear cw
 go_enter Tryz.func59, Tryz.ntmps59
 refine wp_seq ?_
 refine zB 3 [.made (G2 tn (e0 u) (e1 u) (e0 b) (e1 b)) 93, .made (pc2 0 0 0 0 false) 96, .q (.int .i64 0)] (sB H0) ?ho1 ?he1
 case ho1 => exact am (zS rfl rfl) (am (ex_madePE rfl) (ar trivial))
 intro γ w1 l hM hl
 have H1 : Hid (Mm w1 ([(γ 0, G2 tn (e0 u) (e1 u) (e0 b) (e1 b)), (γ 1, pc2 0 0 0 0 false)] ++ _) ∧ _) := wB H0 hM hl [0, 1]
 have o1_0 := vB H0 hM hl 0
 have o1_1 := vB H0 hM hl 1
 clear hM hl l
 generalize γ 0 = γ1_0 at H1 o1_0 ⊢
 generalize γ 1 = γ1_1 at H1 o1_1 ⊢
 clear γ
 refine rN (wp_seq (wp_seq ?_))
 refine zC 5 [.q (.slice (some ⟨gp, 0, none⟩) 1 1), .q (.int .i64 1), .q (.slice (some ⟨gn, 0, none⟩) 1 1), .q (.int .i64 1), .q (.bool false)] H1 ?ho2 ?he2
 case ho2 => exact ar (ag (ar (ag (ag trivial))))
 intro _ w2 H2
 clear H1
 refine rN (wp_cond_false rfl ?_)
 refine wp_skip (zA ?_)
 refine wp_seq (wp_seq ?_)
 refine zC 3 [.q (.slice (some ⟨gp, 0, none⟩) 1 1), .q (.int .i64 1), .q (.int .i64 0)] H2 ?ho3 ?he3
 case ho3 => exact ar (ag (ar trivial))
 intro _ w3 H3
 clear H2
 refine rN (wp_block ?_)
 refine wp_loop_rounds 2 ?_
 refine zM (n := 1) ?_
 refine wp_seq ?_
 refine zC 1 [.q (.bool true)] H3 ?ho4 ?he4
 case ho4 => exact ag trivial
 intro _ w4 H4
 clear H3
 refine rN (wp_seq ?_)
 refine wp_cond_true rfl (wp_skip ?_)
 refine zA (wp_seq ?_)
 refine wp_block (wp_seq ?_)
 refine zB 4 [.q (PT gp 0), .q (.agg (pc2 x0 x1 y0 y1 zb).toArray), .made (pc2 0 0 0 0 false) 96, .laid 2 (pc2 0 0 0 0 false) (pc2 x0 x1 y0 y1 zb)] (sB H4) ?ho5 ?he5 (hL := ?hL5)
 case hL5 => exact ⟨⟨_, rfl⟩, trivial⟩
 case ho5 => exact ag (bT 3 Ai96 As96 (am (ex_madePE rfl) (ak (fun γ => ⟨rfl, rfl, rfl, fun w' h => ex_laidT h rfl rfl As96 rfl rfl rfl⟩) trivial)))
 intro γ w5 l hM hl
 have H5 : Hid (Mm w5 ([(γ 2, pc2 x0 x1 y0 y1 zb)] ++ _) ∧ _) := wB H4 hM hl [2]
 have o5_2 := vB H4 hM hl 2
 clear hM hl l H4
 generalize γ 2 = γ5_2 at H5 o5_2 ⊢
 clear γ
 refine rN (wp_seq ?_)
 refine zC 4 [.q (.agg (G2 tn (e0 u) (e1 u) (e0 b) (e1 b)).toArray), .q (.agg (pc2 x0 x1 y0 y1 zb).toArray), .call (.bool true), .q (.bool false)] H5 ?ho6 ?he6
 case ho6 => exact bT 1 Ai93 As93 (bT 0 Ai96 As96 (ac (fun w' h => eC call57 (CK.out w' (h.one 3 rfl))) (ag trivial)))
 intro _ w6 H6
 clear H5
 refine rN (wp_cond_false rfl ?_)
 refine wp_skip (zI (zA ?_))
 refine zC 1 [.q (.int .i64 1)] H6 ?ho7 ?he7
 case ho7 => exact av trivial
 intro _ w7 H7
 clear H6
 refine zF (l := [1]) rfl ?_
 refine zG (d := 21) rfl rfl rfl rfl ?_
 simp only [Act.put, sa, sz, ss]
 refine zE (zA ?_)
 refine zM (n := 0) ?_
 refine wp_seq ?_
 refine zC 1 [.q (.bool false)] H7 ?ho8 ?he8
 case ho8 => exact ag trivial
 intro _ w8 H8
 clear H7
 refine rN (wp_seq (wp_cond_false rfl ?_))
 refine wp_exit ?_
 repeat refine zY ?_
 refine zU ?_
 refine zA (wp_seq ?_)
 refine zB 4 [.q (.agg (G2 tn (e0 u) (e1 u) (e0 b) (e1 b)).toArray), .call (V [e0 O.1, e1 O.1, e0 O.2.1, e1 O.2.1, e0 O.2.2, e1 O.2.2]), .made (cel [0, 0, 0, 0, 0, 0]) 129, .laid 2 (cel [0, 0, 0, 0, 0, 0]) (cel [e0 O.1, e1 O.1, e0 O.2.1, e1 O.2.1, e0 O.2.2, e1 O.2.2])] (sB H8) ?ho9 ?he9 (hL := ?hL9)
 case hL9 => exact ⟨⟨_, rfl⟩, trivial⟩
 case ho9 => exact bT 1 Ai93 As93 (ac (fun w' h => eC call99 (CZ.out w' (h.one 3 rfl))) (am (ex_madeTE rfl) (ak (fun γ => ⟨rfl, rfl, rfl, fun w' h => ex_laidA h rfl As129 rfl rfl rfl⟩) trivial)))
 intro γ w9 l hM hl
 have H9 : Hid (Mm w9 ([(γ 2, cel [e0 O.1, e1 O.1, e0 O.2.1, e1 O.2.1, e0 O.2.2, e1 O.2.2])] ++ _) ∧ _) := wB H8 hM hl [2]
 have o9_2 := vB H8 hM hl 2
 clear hM hl l H8
 generalize γ 2 = γ9_2 at H9 o9_2 ⊢
 clear γ
 refine rN (wp_seq (wp_seq ?_))
 refine zC 1 [.q (.int .i64 0)] H9 ?ho10 ?he10
 case ho10 => exact ar trivial
 intro _ w10 H10
 clear H9
 refine rN (wp_block ?_)
 refine wp_loop_rounds 2 ?_
 refine zM (n := 1) ?_
 refine wp_seq (wp_seq ?_)
 refine zC 4 [.q (.int .i64 0), .q (.slice (some ⟨gp, 0, none⟩) 1 1), .q (.int .i64 1), .q (.bool true)] H10 ?ho11 ?he11
 case ho11 => exact ar (ar (ag (ag trivial)))
 intro _ w11 H11
 clear H10
 refine rN (wp_cond_true rfl ?_)
 refine wp_skip (zA ?_)
 refine wp_seq (wp_block (wp_seq ?_))
 refine zC 6 [.q (.int .i64 0), .q (.int .i64 32), .q (.slice (some ⟨gp, 0, none⟩) 1 1), .q (.int .i64 1), .q (.int .i64 1), .q (.int .i64 1)] H11 ?ho12 ?he12
 case ho12 => exact ar (av (ar (ag (ak (by refine fun γ => ⟨rfl, fun w' h => ?_⟩; clear h; go_simp; rfl) (ar trivial)))))
 intro _ w12 H12
 clear H11
 refine rN ?_
 refine zN 13 [.q (.agg (G2 tn (e0 u) (e1 u) (e0 b) (e1 b)).toArray), .q (V [e0 O.1, e1 O.1, e0 O.2.1, e1 O.2.1, e0 O.2.2, e1 O.2.2]), .q (.agg (G2 tn (e0 u) (e1 u) (e0 b) (e1 b)).toArray), .q (.slice (some ⟨gp, 0, none⟩) 1 1), .q (.int .i64 0), .q (.int .i64 1), .q (.slice (some ⟨gp, 0, none⟩) 1 1), .q (.slice (some ⟨gn, 0, none⟩) 1 1), .q (.int .i64 0), .q (.int .i64 1), .q (.slice (some ⟨gn, 0, none⟩) 1 1), .call (V [e0 T.1, e1 T.1, e0 T.2.1, e1 T.2.1, e0 T.2.2, e1 T.2.2]), .call (V [e0 U.1, e1 U.1, e0 U.2.1, e1 U.2.1, e0 U.2.2, e1 U.2.2])] H12 ?ho13 ?he13
 case ho13 => exact bT 2 Ai93 As93 (bA 0 6 0 Ai129 As129 (bT 2 Ai93 As93 (ar (ar (ar (ak (fun γ => ⟨rfl, fun w' _ => ex_slice114 rfl rfl rfl rfl⟩) (ar (ar (ar (ak (fun γ => ⟨rfl, fun w' _ => ex_slice65 rfl rfl rfl rfl⟩) (ac (fun w' h => eC call101 (CS.out w' (h.pick [4, 5, 6] rfl (by decide)))) (ac (fun w' h => eC call100 (CT.out w' (h.one 4 rfl))) trivial))))))))))))
 intro _ w13 H13
 clear H12
 refine zF (l := [13]) rfl ?_
 refine sF 0 [e0 U.1, e1 U.1, e0 U.2.1, e1 U.2.1, e0 U.2.2, e1 U.2.2] [_, _, _, _, _, _, _] H13 o9_2 As129 fun w14 H14 => ?_
 clear H13
 refine zE (zI (zA ?_))
 refine zC 2 [.q (.int .i64 0), .q (.int .i64 32)] H14 ?ho14 ?he14
 case ho14 => exact ar (av trivial)
 intro _ w15 H15
 clear H14
 refine zF (l := [2]) rfl ?_
 refine zG (d := 11) rfl rfl rfl rfl ?_
 simp only [Act.put, sa, sz, ss]
 refine zE (zA ?_)
 refine zM (n := 0) ?_
 refine wp_seq (wp_seq ?_)
 refine zC 4 [.q (.int .i64 32), .q (.slice (some ⟨gp, 0, none⟩) 1 1), .q (.int .i64 1), .q (.bool false)] H15 ?ho15 ?he15
 case ho15 => exact ar (ar (ag (ag trivial)))
 intro _ w16 H16
 clear H15
 refine rN (wp_cond_false rfl ?_)
 refine wp_exit ?_
 repeat refine zY ?_
 refine zU ?_
 refine zA (wp_seq ?_)
 refine zC 3 [.q (.agg (G2 tn (e0 u) (e1 u) (e0 b) (e1 b)).toArray), .q (V [e0 U.1, e1 U.1, e0 U.2.1, e1 U.2.1, e0 U.2.2, e1 U.2.2]), .call (.agg (pc2 r0 r1 k0 k1 zr).toArray)] H16 ?ho16 ?he16
 case ho16 => exact bT 2 Ai93 As93 (bA 0 6 0 Ai129 As129 (ac (fun w' h => eC call102 (CW.out w' (h.one 4 rfl))) trivial))
 intro _ w17 H17
 clear H16
 refine zF (l := [3, 4]) rfl ?_
 refine sG rfl (fun h => ex_storeT (vs := pc2 r0 r1 k0 k1 zr) h 3 rfl rfl rfl rfl As96 rfl (Nat.le_of_ble_eq_true rfl)) 3 [_, _, _, (_, pc2 r0 r1 k0 k1 zr), _, _, _] H17 o1_1 fun w18 H18 => ?_
 clear H17
 refine zG (d := 7) rfl rfl rfl rfl ?_
 simp only [Act.put, sa, sz, ss]
 refine zE (zA (wp_ret ?_))
 repeat (first | refine zK ?_ | refine zH ?_)
 have hf0 := var_T H18.out.1 3 rfl Ai96 As96 rfl
 refine bodyPost_ret (v := .tuple #[.agg (pc2 r0 r1 k0 k1 zr).toArray, .int .i64 0]) (by simp [results, Tryz.results59, asAddr, Act.eval, hf0]) rfl ?_
 exact ⟨rfl, H18.out.2⟩
set_option maxHeartbeats 4000000 in
theorem Sum_2 (one four x0 x1 y0 y1 r0 r1 k0 k1 nn gl gn : Nat) (zb zr : Bool) (er : Int) (cf : ∀ w, Calls Tryz.prog 43 #[] w fun e w' => Below w.heap.size w w' ∧ ∃ g x, ∃ _y : Nat, e = .returned (.agg (G2 (.func (.func 82) #[] #[PT g 0, PT x 0]) one 0 four four).toArray) ∧ w.heap.size ≤ g ∧ g < w'.heap.size ∧ Blk w' g ([])) (cs : ∀ tn gp w, Mm w [(2, dtab), (gp, pc2 x0 x1 y0 y1 zb), (gn, zD nn)] → Calls Tryz.prog 59 #[(.agg (G2 tn one 0 four four).toArray), .slice (some ⟨gp, 0, none⟩) 1 1, .slice (some ⟨gn, 0, none⟩) 1 1] w (Rt w (.tuple #[.agg (pc2 r0 r1 k0 k1 zr).toArray, .int .i64 er]))) (w : World) (hm : Mm w [(2, dtab), (gl, pc2 x0 x1 y0 y1 zb), (gn, zD nn)]) :
  Calls Tryz.prog 33 #[.slice (some ⟨gl, 0, none⟩) 1 1, .slice (some ⟨gn, 0, none⟩) 1 1] w (Rt w (.tuple #[.agg (pc2 r0 r1 k0 k1 zr).toArray, .int .i64 er])) := by
 have H0 : Hid (_ ∧ _) := ⟨hm, Below.refl w.heap.size w⟩
 clear hm
 have CF : Hid _ := cf
 clear cf
 have CS : Hid _ := cs
 clear cs
 go_enter Tryz.func33, Tryz.ntmps33
 refine wp_seq ?_
 refine zB 2 [.made (pc2 0 0 0 0 false) 35, .q (.int .i64 0)] (sB H0) ?ho1 ?he1
 case ho1 => exact am (ex_madeP2 rfl) (ar trivial)
 intro γ w1 l hM hl
 have H1 : Hid (Mm w1 ([(γ 0, pc2 0 0 0 0 false)] ++ _) ∧ _) := wB H0 hM hl [0]
 have o1_0 := vB H0 hM hl 0
 clear hM hl l
 generalize γ 0 = γ1_0 at H1 o1_0 ⊢
 clear γ
 refine rN (wp_seq ?_)
 refine zC 2 [.q (.slice (some ⟨gl, 0, none⟩) 1 1), .q (.int .i64 1)] H1 ?ho2 ?he2
 case ho2 => exact ar (ag trivial)
 intro _ w2 H2
 clear H1
 refine zF (l := [2, 3]) rfl ?_
 refine zG (d := 13) (v := .slice (some ⟨w2.heap.size, 0, none⟩) 1 1) (w' := w2.alloc (.cells (pc2 0 0 0 0 false : List Value).toArray 96)) rfl rfl rfl (ex_mkPE rfl rfl rfl) ?_
 simp only [Act.put, sa, sz, ss]
 have o_γs3 : Hid (w.heap.size ≤ w2.heap.size) := H2.out.2.size
 have H3 : Hid (Mm (w2.alloc (.cells (pc2 0 0 0 0 false : List Value).toArray 96)) ((w2.heap.size, pc2 0 0 0 0 false) :: [(γ1_0, pc2 0 0 0 0 false), (2, dtab), (gl, pc2 x0 x1 y0 y1 zb), (gn, zD nn)]) ∧ Below w.heap.size w (w2.alloc (.cells (pc2 0 0 0 0 false : List Value).toArray 96))) := ⟨H2.out.1.alloc _ 96 rfl, H2.out.2.alloc H2.out.2.size _⟩
 clear H2
 generalize hgw : w2.alloc (.cells (pc2 0 0 0 0 false : List Value).toArray 96) = w3 at H3 ⊢
 clear hgw
 generalize w2.heap.size = γs3 at o_γs3 H3 ⊢
 refine zG (d := 6) rfl rfl rfl rfl ?_
 simp only [Act.put, sa, sz, ss]
 refine zE (zA ?_)
 refine wp_seq (wp_seq ?_)
 refine zC 3 [.q (.slice (some ⟨gl, 0, none⟩) 1 1), .q (.int .i64 1), .q (.int .i64 0)] H3 ?ho3 ?he3
 case ho3 => exact ar (ag (ar trivial))
 intro _ w4 H4
 clear H3
 refine rN (wp_block ?_)
 refine wp_loop_rounds 2 ?_
 refine zM (n := 1) ?_
 refine wp_seq ?_
 refine zC 1 [.q (.bool true)] H4 ?ho4 ?he4
 case ho4 => exact ag trivial
 intro _ w5 H5
 clear H4
 refine rN (wp_seq ?_)
 refine wp_cond_true rfl (wp_skip ?_)
 refine zA (wp_seq ?_)
 refine wp_block (wp_seq ?_)
 refine zB 6 [.q (.int .i64 0), .q (PT gl 0), .q (.agg (pc2 x0 x1 y0 y1 zb).toArray), .made (pc2 0 0 0 0 false) 35, .q (.int .i64 0), .laid 3 (pc2 0 0 0 0 false) (pc2 x0 x1 y0 y1 zb)] (sB H5) ?ho5 ?he5 (hL := ?hL5)
 case hL5 => exact ⟨⟨_, rfl⟩, trivial⟩
 case ho5 => exact ar (ag (bT 3 Ai35 As35 (am (ex_madeP2 rfl) (ar (ak (fun γ => ⟨rfl, rfl, rfl, fun w' h => ex_laidT h rfl rfl As35 rfl rfl rfl⟩) trivial)))))
 intro γ w6 l hM hl
 have H6 : Hid (Mm w6 ([(γ 3, pc2 x0 x1 y0 y1 zb)] ++ _) ∧ _) := wB H5 hM hl [3]
 have o5_3 := vB H5 hM hl 3
 clear hM hl l H5
 generalize γ 3 = γ5_3 at H6 o5_3 ⊢
 clear γ
 refine rN ?_
 refine zC 4 [.q (.slice (some ⟨γs3, 0, none⟩) 1 1), .q (.int .i64 0), .q (.agg (pc2 x0 x1 y0 y1 zb).toArray), .q (PT γs3 0)] H6 ?ho6 ?he6
 case ho6 => exact ar (ar (bT 0 Ai35 As35 (ag trivial)))
 intro _ w7 H7
 clear H6
 refine zF (l := [4]) rfl ?_
 refine sG rfl (fun h => ex_storeT (vs := pc2 x0 x1 y0 y1 zb) h 1 rfl rfl rfl rfl As96 rfl (Nat.le_of_ble_eq_true rfl)) 1 [_, (_, pc2 x0 x1 y0 y1 zb), _, _, _, _] H7 o_γs3 fun w8 H8 => ?_
 clear H7
 refine zE (zI (zA ?_))
 refine zC 1 [.q (.int .i64 1)] H8 ?ho7 ?he7
 case ho7 => exact av trivial
 intro _ w9 H9
 clear H8
 refine zF (l := [1]) rfl ?_
 refine zG (d := 16) rfl rfl rfl rfl ?_
 simp only [Act.put, sa, sz, ss]
 refine zE (zA ?_)
 refine zM (n := 0) ?_
 refine wp_seq ?_
 refine zC 1 [.q (.bool false)] H9 ?ho8 ?he8
 case ho8 => exact ag trivial
 intro _ w10 H10
 clear H9
 refine rN (wp_seq (wp_cond_false rfl ?_))
 refine wp_exit ?_
 repeat refine zY ?_
 refine zU ?_
 refine zA (wp_seq ?_)
 refine zB 10 [.bornX (fun g x y => .agg (G2 (.func (.func 82) #[] #[PT g 0, PT x 0]) one 0 four four).toArray) ([]), .q (.slice (some ⟨γs3, 0, none⟩) 1 1), .q (.slice (some ⟨gn, 0, none⟩) 1 1), .over (.tuple #[.agg (pc2 r0 r1 k0 k1 zr).toArray, .int .i64 er]) 0 ([]), .q (.tuple #[.agg (pc2 r0 r1 k0 k1 zr).toArray, .int .i64 er]), .q (.agg (pc2 r0 r1 k0 k1 zr).toArray), .q (.int .i64 er), .made (pc2 0 0 0 0 false) 96, .laid 7 (pc2 0 0 0 0 false) (pc2 r0 r1 k0 k1 zr), .q (.int .i64 er)] (sB H10) ?ho9 ?he9 (hL := ?hL9)
 case hL9 => exact ⟨⟨_, rfl⟩, ⟨_, rfl⟩, trivial⟩
 case ho9 => exact ak (fun γ => ⟨rfl, fun w' h => eC call43 (CF.out w')⟩) (ar (ar (ak (fun γ => ⟨rfl, fun u w' h0 hge h1 hb hlt => by have h := Mm.over h0 hge h1 hb hlt; exact eC call59 (CS.out _ _ w' (h.pick [4, 2, 6] rfl (by decide)))⟩) (ar (ag (ag (am (ex_madePE rfl) (ak (fun γ => ⟨rfl, rfl, rfl, fun w' h => ex_laidT h rfl rfl As96 rfl rfl rfl⟩) (ar trivial)))))))))
 intro γ w11 l hM hl
 have H11 : Hid (Mm w11 ([(γ 0, []), (γ 7, pc2 r0 r1 k0 k1 zr)] ++ _) ∧ _) := wB H10 hM hl [0, 7]
 have o9_0 := vB H10 hM hl 0
 have o9_7 := vB H10 hM hl 7
 clear hM hl l H10
 generalize γ 0 = γ9_0 at H11 o9_0 ⊢
 generalize γ 7 = γ9_7 at H11 o9_7 ⊢
 generalize γ 65536 = γ9_65536
 clear γ
 refine rN (wp_seq ?_)
 refine zC 2 [.q (.agg (pc2 r0 r1 k0 k1 zr).toArray), .q (.int .i64 er)] H11 ?ho10 ?he10
 case ho10 => exact bT 1 Ai96 As96 (ar trivial)
 intro _ w12 H12
 clear H11
 refine zF (l := [2, 3]) rfl ?_
 refine sG rfl (fun h => ex_storeT (vs := pc2 r0 r1 k0 k1 zr) h 4 rfl rfl rfl rfl As35 rfl (Nat.le_of_ble_eq_true rfl)) 4 [_, _, _, _, (_, pc2 r0 r1 k0 k1 zr), _, _, _] H12 o1_0 fun w13 H13 => ?_
 clear H12
 refine zG (d := 5) rfl rfl rfl rfl ?_
 simp only [Act.put, sa, sz, ss]
 refine zE (zA (wp_ret ?_))
 repeat (first | refine zK ?_ | refine zH ?_)
 have hf0 := var_T H13.out.1 4 rfl Ai35 As35 rfl
 refine bodyPost_ret (v := .tuple #[.agg (pc2 r0 r1 k0 k1 zr).toArray, .int .i64 er]) (by simp [results, Tryz.results33, asAddr, Act.eval, hf0]) rfl ?_
 exact ⟨rfl, H13.out.2⟩
set_option maxHeartbeats 4000000 in
theorem Mul_2 (x0 x1 y0 y1 r0 r1 k0 k1 nn : Nat) (zb zr : Bool) (er : Int) (cs : ∀ gl gn w, Mm w [(2, dtab), (gl, pc2 x0 x1 y0 y1 zb), (gn, zD nn)] → Calls Tryz.prog 33 #[.slice (some ⟨gl, 0, none⟩) 1 1, .slice (some ⟨gn, 0, none⟩) 1 1] w (Rt w (.tuple #[.agg (pc2 r0 r1 k0 k1 zr).toArray, .int .i64 er]))) (w : World) (hm : Mm w [(2, dtab)]) :
  Calls Tryz.prog 10 #[.agg (pc2 x0 x1 y0 y1 zb).toArray, N nn] w (Rt w (.tuple #[.agg (pc2 r0 r1 k0 k1 zr).toArray, .int .i64 er])) := by
 have H0 : Hid (_ ∧ _) := ⟨hm, Below.refl w.heap.size w⟩
 clear hm
 have CS : Hid _ := cs
 clear cs
 go_enter Tryz.func10, Tryz.ntmps10
 refine wp_seq ?_
 refine zB 4 [.made (pc2 x0 x1 y0 y1 zb) 35, .made (zD nn) 24, .made (pc2 0 0 0 0 false) 35, .q (.int .i64 0)] (sB H0) ?ho1 ?he1
 case ho1 => exact am (zS rfl rfl) (am (yE rfl rfl) (am (ex_madeP2 rfl) (ar trivial)))
 intro γ w1 l hM hl
 have H1 : Hid (Mm w1 ([(γ 0, pc2 x0 x1 y0 y1 zb), (γ 1, zD nn), (γ 2, pc2 0 0 0 0 false)] ++ _) ∧ _) := wB H0 hM hl [0, 1, 2]
 have o1_0 := vB H0 hM hl 0
 have o1_1 := vB H0 hM hl 1
 have o1_2 := vB H0 hM hl 2
 clear hM hl l
 generalize γ 0 = γ1_0 at H1 o1_0 ⊢
 generalize γ 1 = γ1_1 at H1 o1_1 ⊢
 generalize γ 2 = γ1_2 at H1 o1_2 ⊢
 clear γ
 refine rN (wp_seq ?_)
 refine zC 1 [.q (.agg (pc2 x0 x1 y0 y1 zb).toArray)] H1 ?ho2 ?he2
 case ho2 => exact bT 0 Ai35 As35 trivial
 intro _ w2 H2
 clear H1
 refine zF (l := [1, 2, 3, 4, 5, 6, 7, 8]) rfl ?_
 refine zG (d := 7) (v := .slice (some ⟨w2.heap.size, 0, none⟩) 1 1) (w' := w2.alloc (.cells (pc2 x0 x1 y0 y1 zb : List Value).toArray 35)) rfl rfl rfl (ex_bs68 rfl rfl) ?_
 simp only [Act.put, sa, sz, ss]
 have o_γs3 : Hid (w.heap.size ≤ w2.heap.size) := H2.out.2.size
 have H3 : Hid (Mm (w2.alloc (.cells (pc2 x0 x1 y0 y1 zb : List Value).toArray 35)) ((w2.heap.size, pc2 x0 x1 y0 y1 zb) :: [(γ1_0, pc2 x0 x1 y0 y1 zb), (γ1_1, zD nn), (γ1_2, pc2 0 0 0 0 false), (2, dtab)]) ∧ Below w.heap.size w (w2.alloc (.cells (pc2 x0 x1 y0 y1 zb : List Value).toArray 35))) := ⟨H2.out.1.alloc _ 35 rfl, H2.out.2.alloc H2.out.2.size _⟩
 clear H2
 generalize hgw : w2.alloc (.cells (pc2 x0 x1 y0 y1 zb : List Value).toArray 35) = w3 at H3 ⊢
 clear hgw
 generalize w2.heap.size = γs3 at o_γs3 H3 ⊢
 refine zG (d := 8) (v := N nn) rfl rfl rfl (yG H3.out.1 2 rfl rfl rfl rfl) ?_
 simp only [Act.put, sa, sz, ss]
 refine zG (d := 9) (v := .slice (some ⟨w3.heap.size, 0, none⟩) 1 1) (w' := w3.alloc (.cells (zD nn : List Value).toArray 24)) rfl rfl rfl (ex_bs65 rfl rfl) ?_
 simp only [Act.put, sa, sz, ss]
 have o_γs4 : Hid (w.heap.size ≤ w3.heap.size) := H3.out.2.size
 have H4 : Hid (Mm (w3.alloc (.cells (zD nn : List Value).toArray 24)) ((w3.heap.size, zD nn) :: [(γs3, pc2 x0 x1 y0 y1 zb), (γ1_0, pc2 x0 x1 y0 y1 zb), (γ1_1, zD nn), (γ1_2, pc2 0 0 0 0 false), (2, dtab)]) ∧ Below w.heap.size w (w3.alloc (.cells (zD nn : List Value).toArray 24))) := ⟨H3.out.1.alloc _ 24 rfl, H3.out.2.alloc H3.out.2.size _⟩
 clear H3
 generalize hgw : w3.alloc (.cells (zD nn : List Value).toArray 24) = w4 at H4 ⊢
 clear hgw
 generalize w3.heap.size = γs4 at o_γs4 H4 ⊢
 refine rest_enter (d := 10) (R := fun vv w' => vv = .tuple #[.agg (pc2 r0 r1 k0 k1 zr).toArray, .int .i64 er] ∧ Below w4.heap.size w4 w') rfl rfl rfl (exec_call (args := #[.slice (some ⟨γs3, 0, none⟩) 1 1, .slice (some ⟨γs4, 0, none⟩) 1 1]) rfl call33 rfl (mpn rfl)) (Calls.mono (CS.out _ _ w4 (H4.out.1.pick [5, 1, 0] rfl (by decide))) (fun e w2 hh => ⟨_, hh.1, rfl, hh.2⟩)) ?_
 rintro _ w5 ⟨rfl, hb⟩
 have H5 : Hid (_ ∧ _) := ⟨H4.out.1.below hb, H4.out.2.trans (hb.mono H4.out.2.size)⟩
 clear hb H4
 simp only [Act.put, sa, sz, ss]
 refine zG (d := 11) (v := .agg (pc2 r0 r1 k0 k1 zr).toArray) (w' := w5) rfl rfl rfl (by go_simp) ?_
 simp only [Act.put, sa, sz, ss]
 refine zG (d := 12) (v := .int .i64 er) (w' := w5) rfl rfl rfl (by go_simp) ?_
 simp only [Act.put, sa, sz, ss]
 refine sG rfl (fun h => ex_storeT (vs := pc2 r0 r1 k0 k1 zr) h 4 rfl rfl rfl rfl As35 rfl (Nat.le_of_ble_eq_true rfl)) 4 [_, _, _, _, (_, pc2 r0 r1 k0 k1 zr), _] H5 o1_2 fun w6 H6 => ?_
 clear H5
 refine zG (d := 5) rfl rfl rfl rfl ?_
 simp only [Act.put, sa, sz, ss]
 refine zE (zA (wp_ret ?_))
 repeat (first | refine zK ?_ | refine zH ?_)
 have hf0 := var_T H6.out.1 4 rfl Ai35 As35 rfl
 refine bodyPost_ret (v := .tuple #[.agg (pc2 r0 r1 k0 k1 zr).toArray, .int .i64 er]) (by simp [results, Tryz.results10, asAddr, Act.eval, hf0]) rfl ?_
 exact ⟨rfl, H6.out.2⟩
end Rg
end Go.Proofs.YtmanelnacifgcaaGreatDoor
end
section
namespace Go.Proofs.YtmanelnacifgcaaGreatDoor
open Go.RowKit
namespace Rg
open NT
def tab2 {I : Fp → Fp} (hI : zW I) (P : Option (Fq × Fq)) : Nat → EC.Tri Fq
 | 0 => (K2 hI).lift none
 | 1 => (K2 hI).lift P
 | 2 => (K2 hI).twice ((K2 hI).lift P)
 | 3 => (K2 hI).tog ((K2 hI).twice ((K2 hI).lift P)) ((K2 hI).lift P)
 | 4 => (K2 hI).twice ((K2 hI).twice ((K2 hI).lift P))
 | 5 => (K2 hI).tog ((K2 hI).twice ((K2 hI).twice ((K2 hI).lift P))) ((K2 hI).lift P)
 | 6 => (K2 hI).twice ((K2 hI).tog ((K2 hI).twice ((K2 hI).lift P)) ((K2 hI).lift P))
 | 7 => (K2 hI).tog ((K2 hI).twice ((K2 hI).tog ((K2 hI).twice ((K2 hI).lift P)) ((K2 hI).lift P))) ((K2 hI).lift P)
 | 8 => (K2 hI).twice ((K2 hI).twice ((K2 hI).twice ((K2 hI).lift P)))
 | 9 => (K2 hI).tog ((K2 hI).twice ((K2 hI).twice ((K2 hI).twice ((K2 hI).lift P)))) ((K2 hI).lift P)
 | 10 => (K2 hI).twice ((K2 hI).tog ((K2 hI).twice ((K2 hI).twice ((K2 hI).lift P))) ((K2 hI).lift P))
 | 11 => (K2 hI).tog ((K2 hI).twice ((K2 hI).tog ((K2 hI).twice ((K2 hI).twice ((K2 hI).lift P))) ((K2 hI).lift P))) ((K2 hI).lift P)
 | 12 => (K2 hI).twice ((K2 hI).twice ((K2 hI).tog ((K2 hI).twice ((K2 hI).lift P)) ((K2 hI).lift P)))
 | 13 => (K2 hI).tog ((K2 hI).twice ((K2 hI).twice ((K2 hI).tog ((K2 hI).twice ((K2 hI).lift P)) ((K2 hI).lift P)))) ((K2 hI).lift P)
 | 14 => (K2 hI).twice ((K2 hI).tog ((K2 hI).twice ((K2 hI).tog ((K2 hI).twice ((K2 hI).lift P)) ((K2 hI).lift P))) ((K2 hI).lift P))
 | 15 => (K2 hI).tog ((K2 hI).twice ((K2 hI).tog ((K2 hI).twice ((K2 hI).tog ((K2 hI).twice ((K2 hI).lift P)) ((K2 hI).lift P))) ((K2 hI).lift P))) ((K2 hI).lift P)
 | _ => (K2 hI).lift none
def fn2 {I : Fp → Fp} (hI : zW I) (P : Option (Fq × Fq)) (k : Nat) : Nat :=
 match k % 6 with
 | 0 => q0 (tab2 hI P (k / 6)).1
 | 1 => q1 (tab2 hI P (k / 6)).1
 | 2 => q0 (tab2 hI P (k / 6)).2.1
 | 3 => q1 (tab2 hI P (k / 6)).2.1
 | 4 => q0 (tab2 hI P (k / 6)).2.2
 | _ => q1 (tab2 hI P (k / 6)).2.2
theorem fn2_0 {I : Fp → Fp} (hI : zW I) (P : Option (Fq × Fq)) (d : Nat) : fn2 hI P (6 * d) = q0 (tab2 hI P d).1 := by
 unfold fn2
 rw [show (6 * d) % 6 = 0 by omega, show (6 * d) / 6 = d by omega]
 rfl
theorem fn2_1 {I : Fp → Fp} (hI : zW I) (P : Option (Fq × Fq)) (d : Nat) : fn2 hI P (6 * d + 1) = q1 (tab2 hI P d).1 := by
 unfold fn2
 rw [show (6 * d + 1) % 6 = 1 by omega, show (6 * d + 1) / 6 = d by omega]
 rfl
theorem fn2_2 {I : Fp → Fp} (hI : zW I) (P : Option (Fq × Fq)) (d : Nat) : fn2 hI P (6 * d + 2) = q0 (tab2 hI P d).2.1 := by
 unfold fn2
 rw [show (6 * d + 2) % 6 = 2 by omega, show (6 * d + 2) / 6 = d by omega]
 rfl
theorem fn2_3 {I : Fp → Fp} (hI : zW I) (P : Option (Fq × Fq)) (d : Nat) : fn2 hI P (6 * d + 3) = q1 (tab2 hI P d).2.1 := by
 unfold fn2
 rw [show (6 * d + 3) % 6 = 3 by omega, show (6 * d + 3) / 6 = d by omega]
 rfl
theorem fn2_4 {I : Fp → Fp} (hI : zW I) (P : Option (Fq × Fq)) (d : Nat) : fn2 hI P (6 * d + 4) = q0 (tab2 hI P d).2.2 := by
 unfold fn2
 rw [show (6 * d + 4) % 6 = 4 by omega, show (6 * d + 4) / 6 = d by omega]
 rfl
theorem fn2_5 {I : Fp → Fp} (hI : zW I) (P : Option (Fq × Fq)) (d : Nat) : fn2 hI P (6 * d + 5) = q1 (tab2 hI P d).2.2 := by
 unfold fn2
 rw [show (6 * d + 5) % 6 = 5 by omega, show (6 * d + 5) / 6 = d by omega]
 rfl
theorem tabrep2 {I : Fp → Fp} (hI : zW I) {P : Option (Fq × Fq)} (h : (K2 hI).on P) : ∀ j, j < 16 → (K2 hI).rep (tab2 hI P j) ((K2 hI).times P j) := by
 have o := fun k => (K2 hI).times_on h k
 have rp : (K2 hI).rep ((K2 hI).lift P) P := (K2 hI).rep_lift P
 have r1 : (K2 hI).rep ((K2 hI).lift P) ((K2 hI).times P 1) := by rw [(K2 hI).times_one h]; exact rp
 have two : ∀ k (A : EC.Tri Fq), (K2 hI).rep A ((K2 hI).times P k) → (K2 hI).rep ((K2 hI).twice A) ((K2 hI).times P (2 * k)) := fun k A hk => by
  rw [← (K2 hI).times_two h]
  exact (K2 hI).rep_twice hk (o k)
 have odd : ∀ k (A : EC.Tri Fq), (K2 hI).rep A ((K2 hI).times P k) → (K2 hI).rep ((K2 hI).tog A ((K2 hI).lift P)) ((K2 hI).times P (k + 1)) := fun k A hk => (K2 hI).rep_tog hk rp (o k) h
 have r2 : (K2 hI).rep (tab2 hI P 2) ((K2 hI).times P 2) := two 1 _ r1
 have r3 : (K2 hI).rep (tab2 hI P 3) ((K2 hI).times P 3) := odd 2 _ r2
 have r4 : (K2 hI).rep (tab2 hI P 4) ((K2 hI).times P 4) := two 2 _ r2
 have r5 : (K2 hI).rep (tab2 hI P 5) ((K2 hI).times P 5) := odd 4 _ r4
 have r6 : (K2 hI).rep (tab2 hI P 6) ((K2 hI).times P 6) := two 3 _ r3
 have r7 : (K2 hI).rep (tab2 hI P 7) ((K2 hI).times P 7) := odd 6 _ r6
 have r8 : (K2 hI).rep (tab2 hI P 8) ((K2 hI).times P 8) := two 4 _ r4
 have r9 : (K2 hI).rep (tab2 hI P 9) ((K2 hI).times P 9) := odd 8 _ r8
 have r10 : (K2 hI).rep (tab2 hI P 10) ((K2 hI).times P 10) := two 5 _ r5
 have r11 : (K2 hI).rep (tab2 hI P 11) ((K2 hI).times P 11) := odd 10 _ r10
 have r12 : (K2 hI).rep (tab2 hI P 12) ((K2 hI).times P 12) := two 6 _ r6
 have r13 : (K2 hI).rep (tab2 hI P 13) ((K2 hI).times P 13) := odd 12 _ r12
 have r14 : (K2 hI).rep (tab2 hI P 14) ((K2 hI).times P 14) := two 7 _ r7
 have r15 : (K2 hI).rep (tab2 hI P 15) ((K2 hI).times P 15) := odd 14 _ r14
 intro j hj
 match j, hj with
 | 0, _ => exact (K2 hI).rep_lift none
 | 1, _ => exact r1
 | 2, _ => exact r2
 | 3, _ => exact r3
 | 4, _ => exact r4
 | 5, _ => exact r5
 | 6, _ => exact r6
 | 7, _ => exact r7
 | 8, _ => exact r8
 | 9, _ => exact r9
 | 10, _ => exact r10
 | 11, _ => exact r11
 | 12, _ => exact r12
 | 13, _ => exact r13
 | 14, _ => exact r14
 | 15, _ => exact r15
 | _ + 16, h => exact absurd h (by omega)
theorem fnl2 {I : Fp → Fp} (hI : zW I) (P : Option (Fq × Fq)) (d : Nat) : [fn2 hI P (6 * d), fn2 hI P (6 * d + 1), fn2 hI P (6 * d + 2), fn2 hI P (6 * d + 3), fn2 hI P (6 * d + 4), fn2 hI P (6 * d + 5)] = t2 (tab2 hI P d) := by rw [fn2_0, fn2_1, fn2_2, fn2_3, fn2_4, fn2_5]
theorem fl2_0 {I : Fp → Fp} (hI : zW I) (P : Option (Fq × Fq)) : [fn2 hI P 0, fn2 hI P 1, fn2 hI P 2, fn2 hI P 3, fn2 hI P 4, fn2 hI P 5] = t2 (tab2 hI P 0) := fnl2 hI P 0
theorem fl2_1 {I : Fp → Fp} (hI : zW I) (P : Option (Fq × Fq)) : [fn2 hI P 6, fn2 hI P 7, fn2 hI P 8, fn2 hI P 9, fn2 hI P 10, fn2 hI P 11] = t2 (tab2 hI P 1) := fnl2 hI P 1
theorem fl2_2 {I : Fp → Fp} (hI : zW I) (P : Option (Fq × Fq)) : [fn2 hI P 12, fn2 hI P 13, fn2 hI P 14, fn2 hI P 15, fn2 hI P 16, fn2 hI P 17] = t2 (tab2 hI P 2) := fnl2 hI P 2
theorem fl2_3 {I : Fp → Fp} (hI : zW I) (P : Option (Fq × Fq)) : [fn2 hI P 18, fn2 hI P 19, fn2 hI P 20, fn2 hI P 21, fn2 hI P 22, fn2 hI P 23] = t2 (tab2 hI P 3) := fnl2 hI P 3
theorem fl2_4 {I : Fp → Fp} (hI : zW I) (P : Option (Fq × Fq)) : [fn2 hI P 24, fn2 hI P 25, fn2 hI P 26, fn2 hI P 27, fn2 hI P 28, fn2 hI P 29] = t2 (tab2 hI P 4) := fnl2 hI P 4
theorem fl2_5 {I : Fp → Fp} (hI : zW I) (P : Option (Fq × Fq)) : [fn2 hI P 30, fn2 hI P 31, fn2 hI P 32, fn2 hI P 33, fn2 hI P 34, fn2 hI P 35] = t2 (tab2 hI P 5) := fnl2 hI P 5
theorem fl2_6 {I : Fp → Fp} (hI : zW I) (P : Option (Fq × Fq)) : [fn2 hI P 36, fn2 hI P 37, fn2 hI P 38, fn2 hI P 39, fn2 hI P 40, fn2 hI P 41] = t2 (tab2 hI P 6) := fnl2 hI P 6
theorem fl2_7 {I : Fp → Fp} (hI : zW I) (P : Option (Fq × Fq)) : [fn2 hI P 42, fn2 hI P 43, fn2 hI P 44, fn2 hI P 45, fn2 hI P 46, fn2 hI P 47] = t2 (tab2 hI P 7) := fnl2 hI P 7
theorem fl2_8 {I : Fp → Fp} (hI : zW I) (P : Option (Fq × Fq)) : [fn2 hI P 48, fn2 hI P 49, fn2 hI P 50, fn2 hI P 51, fn2 hI P 52, fn2 hI P 53] = t2 (tab2 hI P 8) := fnl2 hI P 8
theorem fl2_9 {I : Fp → Fp} (hI : zW I) (P : Option (Fq × Fq)) : [fn2 hI P 54, fn2 hI P 55, fn2 hI P 56, fn2 hI P 57, fn2 hI P 58, fn2 hI P 59] = t2 (tab2 hI P 9) := fnl2 hI P 9
theorem fl2_10 {I : Fp → Fp} (hI : zW I) (P : Option (Fq × Fq)) : [fn2 hI P 60, fn2 hI P 61, fn2 hI P 62, fn2 hI P 63, fn2 hI P 64, fn2 hI P 65] = t2 (tab2 hI P 10) := fnl2 hI P 10
theorem fl2_11 {I : Fp → Fp} (hI : zW I) (P : Option (Fq × Fq)) : [fn2 hI P 66, fn2 hI P 67, fn2 hI P 68, fn2 hI P 69, fn2 hI P 70, fn2 hI P 71] = t2 (tab2 hI P 11) := fnl2 hI P 11
theorem fl2_12 {I : Fp → Fp} (hI : zW I) (P : Option (Fq × Fq)) : [fn2 hI P 72, fn2 hI P 73, fn2 hI P 74, fn2 hI P 75, fn2 hI P 76, fn2 hI P 77] = t2 (tab2 hI P 12) := fnl2 hI P 12
theorem fl2_13 {I : Fp → Fp} (hI : zW I) (P : Option (Fq × Fq)) : [fn2 hI P 78, fn2 hI P 79, fn2 hI P 80, fn2 hI P 81, fn2 hI P 82, fn2 hI P 83] = t2 (tab2 hI P 13) := fnl2 hI P 13
theorem fl2_14 {I : Fp → Fp} (hI : zW I) (P : Option (Fq × Fq)) : [fn2 hI P 84, fn2 hI P 85, fn2 hI P 86, fn2 hI P 87, fn2 hI P 88, fn2 hI P 89] = t2 (tab2 hI P 14) := fnl2 hI P 14
theorem fl2_15 {I : Fp → Fp} (hI : zW I) (P : Option (Fq × Fq)) : [fn2 hI P 90, fn2 hI P 91, fn2 hI P 92, fn2 hI P 93, fn2 hI P 94, fn2 hI P 95] = t2 (tab2 hI P 15) := fnl2 hI P 15
theorem ts2_2 {I : Fp → Fp} (hI : zW I) (P : Option (Fq × Fq)) : tab2 hI P 2 = (K2 hI).twice (tab2 hI P 1) := rfl
theorem ts2_3 {I : Fp → Fp} (hI : zW I) (P : Option (Fq × Fq)) : tab2 hI P 3 = (K2 hI).tog (tab2 hI P 2) (tab2 hI P 1) := rfl
theorem ts2_4 {I : Fp → Fp} (hI : zW I) (P : Option (Fq × Fq)) : tab2 hI P 4 = (K2 hI).twice (tab2 hI P 2) := rfl
theorem ts2_5 {I : Fp → Fp} (hI : zW I) (P : Option (Fq × Fq)) : tab2 hI P 5 = (K2 hI).tog (tab2 hI P 4) (tab2 hI P 1) := rfl
theorem ts2_6 {I : Fp → Fp} (hI : zW I) (P : Option (Fq × Fq)) : tab2 hI P 6 = (K2 hI).twice (tab2 hI P 3) := rfl
theorem ts2_7 {I : Fp → Fp} (hI : zW I) (P : Option (Fq × Fq)) : tab2 hI P 7 = (K2 hI).tog (tab2 hI P 6) (tab2 hI P 1) := rfl
theorem ts2_8 {I : Fp → Fp} (hI : zW I) (P : Option (Fq × Fq)) : tab2 hI P 8 = (K2 hI).twice (tab2 hI P 4) := rfl
theorem ts2_9 {I : Fp → Fp} (hI : zW I) (P : Option (Fq × Fq)) : tab2 hI P 9 = (K2 hI).tog (tab2 hI P 8) (tab2 hI P 1) := rfl
theorem ts2_10 {I : Fp → Fp} (hI : zW I) (P : Option (Fq × Fq)) : tab2 hI P 10 = (K2 hI).twice (tab2 hI P 5) := rfl
theorem ts2_11 {I : Fp → Fp} (hI : zW I) (P : Option (Fq × Fq)) : tab2 hI P 11 = (K2 hI).tog (tab2 hI P 10) (tab2 hI P 1) := rfl
theorem ts2_12 {I : Fp → Fp} (hI : zW I) (P : Option (Fq × Fq)) : tab2 hI P 12 = (K2 hI).twice (tab2 hI P 6) := rfl
theorem ts2_13 {I : Fp → Fp} (hI : zW I) (P : Option (Fq × Fq)) : tab2 hI P 13 = (K2 hI).tog (tab2 hI P 12) (tab2 hI P 1) := rfl
theorem ts2_14 {I : Fp → Fp} (hI : zW I) (P : Option (Fq × Fq)) : tab2 hI P 14 = (K2 hI).twice (tab2 hI P 7) := rfl
theorem ts2_15 {I : Fp → Fp} (hI : zW I) (P : Option (Fq × Fq)) : tab2 hI P 15 = (K2 hI).tog (tab2 hI P 14) (tab2 hI P 1) := rfl
theorem tableE_2 {I : Fp → Fp} (hI : zW I) {tn : Value} (P : Option (Fq × Fq)) (w : World) (hm : Mm w [(2, dtab)]) : Calls Tryz.prog 128 #[(GV2 tn), enc2 P] w (Rt w (V (tb2 (fn2 hI P)))) :=
 tableOf_2 (u := (K2 hI).R.one) (b := (K2 hI).b) (tn := tn) (fd2 hI) (fn2 hI P) (c2x0 P) (c2x1 P) (c2y0 P) (c2y1 P) (c2z P) (fun w hm => by rw [fl2_0 hI P]; exact zeroE_2 hI w hm) (fun w hm => by rw [fl2_1 hI P]; exact liftE_2 hI P w hm)
  (fun w hm => by rw [fl2_1 hI P, fl2_2 hI P, ts2_2]; exact twiceE_2 hI (tab2 hI P 1) w hm)
  (fun w hm => by rw [fl2_2 hI P, fl2_1 hI P, fl2_3 hI P, ts2_3]; exact togE_2 hI (tab2 hI P 2) (tab2 hI P 1) w hm)
  (fun w hm => by rw [fl2_2 hI P, fl2_4 hI P, ts2_4]; exact twiceE_2 hI (tab2 hI P 2) w hm)
  (fun w hm => by rw [fl2_4 hI P, fl2_1 hI P, fl2_5 hI P, ts2_5]; exact togE_2 hI (tab2 hI P 4) (tab2 hI P 1) w hm)
  (fun w hm => by rw [fl2_3 hI P, fl2_6 hI P, ts2_6]; exact twiceE_2 hI (tab2 hI P 3) w hm)
  (fun w hm => by rw [fl2_6 hI P, fl2_1 hI P, fl2_7 hI P, ts2_7]; exact togE_2 hI (tab2 hI P 6) (tab2 hI P 1) w hm)
  (fun w hm => by rw [fl2_4 hI P, fl2_8 hI P, ts2_8]; exact twiceE_2 hI (tab2 hI P 4) w hm)
  (fun w hm => by rw [fl2_8 hI P, fl2_1 hI P, fl2_9 hI P, ts2_9]; exact togE_2 hI (tab2 hI P 8) (tab2 hI P 1) w hm)
  (fun w hm => by rw [fl2_5 hI P, fl2_10 hI P, ts2_10]; exact twiceE_2 hI (tab2 hI P 5) w hm)
  (fun w hm => by rw [fl2_10 hI P, fl2_1 hI P, fl2_11 hI P, ts2_11]; exact togE_2 hI (tab2 hI P 10) (tab2 hI P 1) w hm)
  (fun w hm => by rw [fl2_6 hI P, fl2_12 hI P, ts2_12]; exact twiceE_2 hI (tab2 hI P 6) w hm)
  (fun w hm => by rw [fl2_12 hI P, fl2_1 hI P, fl2_13 hI P, ts2_13]; exact togE_2 hI (tab2 hI P 12) (tab2 hI P 1) w hm)
  (fun w hm => by rw [fl2_7 hI P, fl2_14 hI P, ts2_14]; exact twiceE_2 hI (tab2 hI P 7) w hm)
  (fun w hm => by rw [fl2_14 hI P, fl2_1 hI P, fl2_15 hI P, ts2_15]; exact togE_2 hI (tab2 hI P 14) (tab2 hI P 1) w hm) w hm
def rowA2 {I : Fp → Fp} (hI : zW I) (P : Option (Fq × Fq)) (A : EC.Tri Fq) (v : Nat) : Nat → EC.Tri Fq
 | 0 => A
 | k + 1 => if dgt v k = 0 then (K2 hI).twice ((K2 hI).twice ((K2 hI).twice ((K2 hI).twice (rowA2 hI P A v k)))) else (K2 hI).tog ((K2 hI).twice ((K2 hI).twice ((K2 hI).twice ((K2 hI).twice (rowA2 hI P A v k))))) (tab2 hI P (dgt v k))
theorem rowrep2 {I : Fp → Fp} (hI : zW I) {P : Option (Fq × Fq)} (h : (K2 hI).on P) {A : EC.Tri Fq} {m : Nat} (hA : (K2 hI).rep A ((K2 hI).times P m)) {v : Nat} (hv : v < 18446744073709551616) : ∀ k, (K2 hI).rep (rowA2 hI P A v k) ((K2 hI).times P (m * 16 ^ k + v * 16 ^ k / 18446744073709551616))
 | 0 => by
  rw [Nat.pow_zero, Nat.mul_one, Nat.mul_one, Nat.div_eq_of_lt hv, Nat.add_zero]
  exact hA
 | k + 1 => by
  have ih := (K2 hI).times_sixteen h _ (rowrep2 hI h hA hv k)
  have e : m * 16 ^ (k + 1) + v * 16 ^ (k + 1) / 18446744073709551616 = 16 * (m * 16 ^ k + v * 16 ^ k / 18446744073709551616) + dgt v k := by
   rw [hi_next, Nat.pow_succ]
   generalize v * 16 ^ k / 18446744073709551616 = Y
   rw [← Nat.mul_assoc]
   omega
  rw [e]
  show (K2 hI).rep (if dgt v k = 0 then _ else _) _
  split
  ·next hz =>
   rw [hz, Nat.add_zero]
   exact ih
  ·rw [← (K2 hI).times_step h]
   exact (K2 hI).rep_tog ih (tabrep2 hI h _ (dgt_lt v k)) ((K2 hI).times_on h _) ((K2 hI).times_on h _)
theorem rowE_2 {I : Fp → Fp} (hI : zW I) {tn : Value} (P : Option (Fq × Fq)) (A : EC.Tri Fq) {v : Nat} (hv : v < 18446744073709551616) (gt gr : Nat) (w : World) (hm : Mm w [(2, dtab), (gt, cel (tb2 (fn2 hI P))), (gr, [Value.int .u64 ((v : Nat) : Int)])]) :
  Calls Tryz.prog 129 #[(GV2 tn), V (t2 A), .slice (some ⟨gt, 0, none⟩) 1 1, .slice (some ⟨gr, 0, none⟩) 1 1] w fun e w' => e = .returned (V (t2 (rowA2 hI P A v 16))) ∧ Mm w' [(gr, [Value.int .u64 0])] ∧ Kp gr w w' := by
 rw [← wof_0 hv] at hm
 have h := byRow_2 (u := (K2 hI).R.one) (b := (K2 hI).b) (tn := tn) (fd2 hI) (fn2 hI P) (K2 hI).twice (fun T d => (K2 hI).tog T (tab2 hI P d)) (rowA2 hI P A v) (wof v) (dgt v) gt gr
  (fun T w hm => twiceE_2 hI T w hm)
  (fun T d _ w hm => by
   rw [fn2_0, fn2_1, fn2_2, fn2_3, fn2_4, fn2_5]
   exact togE_2 hI T (tab2 hI P d) w hm)
  (wof_d v) (dgt_lt v) (wof_w v) (fun k hk => (if_pos hk).symm) (fun k hk => (if_neg (by omega)).symm) w hm
 rw [wof_16] at h
 exact h
def sumS2 {I : Fp → Fp} (hI : zW I) (P : Option (Fq × Fq)) (nn : Nat) : Nat → EC.Tri Fq
 | 0 => (K2 hI).lift none
 | r + 1 => rowA2 hI P (sumS2 hI P nn r) (wn nn (5 - r)) 16
theorem sumrep2 {I : Fp → Fp} (hI : zW I) {P : Option (Fq × Fq)} (h : (K2 hI).on P) {nn : Nat} (hn : nn < big) : ∀ r, r ≤ 6 → (K2 hI).rep (sumS2 hI P nn r) ((K2 hI).times P (nn / 2 ^ (64 * (6 - r))))
 | 0, _ => by
  rw [hi_top hn]
  exact (K2 hI).rep_lift none
 | r + 1, hr => by
  have h1 := rowrep2 hI h (sumrep2 hI h hn r (by omega)) (wn_lt nn (5 - r)) 16
  rw [show (16 : Nat) ^ 16 = 18446744073709551616 by decide, Nat.mul_div_cancel _ (by decide), show 6 - r = 5 - r + 1 by omega, hi_word] at h1
  rw [show 6 - (r + 1) = 5 - r by omega]
  exact h1
theorem someE_2 {I : Fp → Fp} (hI : zW I) {tn : Value} (P : Option (Fq × Fq)) {nn gp gn : Nat} (w : World) (hm : Mm w [(2, dtab), (gp, cel [c2x0 P, c2x1 P, c2y0 P, c2y1 P] ++ [Value.bool (c2z P)]), (gn, zD nn)]) :
  Calls Tryz.prog 101 #[(GV2 tn), .slice (some ⟨gp, 0, none⟩) 1 1, .slice (some ⟨gn, 0, none⟩) 1 1] w (Rt w (V (t2 (sumS2 hI P nn 6)))) :=
 some_2 (u := (K2 hI).R.one) (b := (K2 hI).b) (tn := tn) (fd2 hI) (fn2 hI P) (sumS2 hI P nn) (c2x0 P) (c2x1 P) (c2y0 P) (c2y1 P) nn gp gn (c2z P) (fun w hm => zeroE_2 hI w hm) (fun w hm => tableE_2 hI P w hm)
  (fun r _ gt gr w hm => rowE_2 hI P (sumS2 hI P nn r) (wn_lt nn (5 - r)) gt gr w hm) w hm
theorem total2 {I : Fp → Fp} (hI : zW I) {P : Option (Fq × Fq)} (h : (K2 hI).on P) {nn : Nat} (hn : nn < big) : (K2 hI).lower ((K2 hI).tog ((K2 hI).lift none) (sumS2 hI P nn 6)) = (K2 hI).times P nn := by
 have h6 := sumrep2 hI h hn 6 (Nat.le_refl 6)
 rw [Nat.sub_self, Nat.mul_zero, Nat.pow_zero, Nat.div_one] at h6
 have e := (K2 hI).rep_lower ((K2 hI).rep_tog ((K2 hI).rep_lift none) h6 trivial ((K2 hI).times_on h nn))
 rw [e, (K2 hI).zero_add ((K2 hI).times_on h nn)]
theorem sumE_2 {I : Fp → Fp} (hI : zW I) {tn : Value} {P : Option (Fq × Fq)} (h : (K2 hI).on P) {nn gp gn : Nat} (hn : nn < big) (w : World) (hm : Mm w [(2, dtab), (gp, cel [c2x0 P, c2x1 P, c2y0 P, c2y1 P] ++ [Value.bool (c2z P)]), (gn, zD nn)]) :
  Calls Tryz.prog 59 #[(GV2 tn), .slice (some ⟨gp, 0, none⟩) 1 1, .slice (some ⟨gn, 0, none⟩) 1 1] w (Rt w (.tuple #[enc2 ((K2 hI).times P nn), .int .i64 0])) :=
 sumY_2 (u := (K2 hI).R.one) (b := (K2 hI).b) (tn := tn) (fd2 hI) ((K2 hI).lift none) (sumS2 hI P nn 6) ((K2 hI).tog ((K2 hI).lift none) (sumS2 hI P nn 6)) (c2x0 P) (c2x1 P) (c2y0 P) (c2y1 P) (c2x0 ((K2 hI).times P nn)) (c2x1 ((K2 hI).times P nn)) (c2y0 ((K2 hI).times P nn)) (c2y1 ((K2 hI).times P nn)) nn gp gn (c2z P) (c2z ((K2 hI).times P nn))
  (fun w hm => ckE_2 hI h w hm) (fun w hm => zeroE_2 hI w hm) (fun w hm => someE_2 hI P w hm) (fun w hm => togE_2 hI _ _ w hm) (fun w hm => by
   have e := lowerE_2 hI (tn := tn) ((K2 hI).tog ((K2 hI).lift none) (sumS2 hI P nn 6)) w hm
   rw [total2 hI h hn] at e
   exact e) w hm
theorem MulE_2 {I : Fp → Fp} (hI : zW I) {P : Option (Fq × Fq)} (h : (K2 hI).on P) {nn : Nat} (hn : nn < big) (w : World) (hm : Mm w [(2, dtab)]) : Calls Tryz.prog 10 #[enc2 P, N nn] w (Rt w (.tuple #[enc2 ((K2 hI).times P nn), .int .i64 0])) :=
 Mul_2 (c2x0 P) (c2x1 P) (c2y0 P) (c2y1 P) (c2x0 ((K2 hI).times P nn)) (c2x1 ((K2 hI).times P nn)) (c2y0 ((K2 hI).times P nn)) (c2y1 ((K2 hI).times P nn)) nn (c2z P) (c2z ((K2 hI).times P nn)) 0 (fun gl gn w hm =>
  Sum_2 1 4 (c2x0 P) (c2x1 P) (c2y0 P) (c2y1 P) (c2x0 ((K2 hI).times P nn)) (c2x1 ((K2 hI).times P nn)) (c2y0 ((K2 hI).times P nn)) (c2y1 ((K2 hI).times P nn)) nn gl gn (c2z P) (c2z ((K2 hI).times P nn)) 0 secondE (fun tn _ w hm => sumE_2 hI (tn := tn) h hn w hm) w hm) w hm
end Rg
end Go.Proofs.YtmanelnacifgcaaGreatDoor
end
section
namespace Go.Proofs.YtmanelnacifgcaaGreatDoor
open Go.RowKit
namespace Rg
theorem eq_zero6 (q : Nat) (hq : q < big) {r : Bool} (hr : decide (q = 0) = r) (w : World) : (Op.equalIn 10000 24 (N q) (N 0)).run Tryz.prog w = .ok r w := by
 have h := run_eqGD 9998 q 0 hq big_pos w
 rw [hr] at h
 exact h
theorem c1z_none {P : Option (Fp × Fp)} (h : P = none) : c1z P = true := by rw [h]; rfl
theorem c1z_some {P : Option (Fp × Fp)} (h : P ≠ none) : c1z P = false := by
 cases P with
 | none => exact absurd rfl h
 | some q => rfl
theorem c2z_none {P : Option (Fq × Fq)} (h : P = none) : c2z P = true := by rw [h]; rfl
theorem c2z_some {P : Option (Fq × Fq)} (h : P ≠ none) : c2z P = false := by
 cases P with
 | none => exact absurd rfl h
 | some q => rfl
theorem orders_any (n : Nat) (hn : n < big) (w : World) (hm : Mm w [(2, dtab)]) : Calls Tryz.prog 3 #[N n] w (Rt w (.bool true)) := by
 obtain ⟨I, hI⟩ := inv1_ex
 have hq : n % rB < big := Nat.lt_trans (Nat.mod_lt _ NT.prm_r.pos) rB_lt
 have oX := (K1 hI).times_on (on_Q1 hI) n
 have oY := (K2 hI).times_on (on_Q2 hI) n
 have m1 := fun w hm => MulE_1 hI (on_Q1 hI) hn w hm
 have m2 := fun w hm => MulE_2 hI (on_Q2 hI) hn w hm
 have q1 := fun w hm => MulE_1 hI (on_Q1 hI) hq w hm
 have q2 := fun w hm => MulE_2 hI (on_Q2 hI) hq w hm
 rw [← (K1 hI).times_mod (on_Q1 hI) (times_r1 hI) n] at q1
 rw [← (K2 hI).times_mod (on_Q2 hI) (times_r2 hI) n] at q2
 have i1 := fun w hm => In1E hI (c1x ((K1 hI).times Q1 n)) (c1y ((K1 hI).times Q1 n)) (c1z ((K1 hI).times Q1 n)) (c1x_big _) (c1y_big _) w hm
 have i2 := fun w hm => In2E hI (c2x0 ((K2 hI).times Q2 n)) (c2x1 ((K2 hI).times Q2 n)) (c2y0 ((K2 hI).times Q2 n)) (c2y1 ((K2 hI).times Q2 n)) (c2z ((K2 hI).times Q2 n)) (c2x0_big _) (c2x1_big _) (c2y0_big _) (c2y1_big _) w hm
 have b1 : inB1 hI (c1x ((K1 hI).times Q1 n)) (c1y ((K1 hI).times Q1 n)) (c1z ((K1 hI).times Q1 n)) = true := by
  unfold inB1
  rw [rd1_of hI oX]
  exact in1_times hI n
 have b2 : inB2 hI (c2x0 ((K2 hI).times Q2 n)) (c2x1 ((K2 hI).times Q2 n)) (c2y0 ((K2 hI).times Q2 n)) (c2y1 ((K2 hI).times Q2 n)) (c2z ((K2 hI).times Q2 n)) = true := by
  unfold inB2
  rw [rd2_of hI oY]
  exact in2_times hI n
 rw [b1] at i1
 rw [b2] at i2
 have z1 := zero_iff1 hI n
 have z2 := zero_iff2 hI n
 have r1 := refl_P1 (c1x ((K1 hI).times Q1 n)) (c1y ((K1 hI).times Q1 n)) (c1z ((K1 hI).times Q1 n)) (c1x_big _) (c1y_big _)
 have r2 := refl_P2 (c2x0 ((K2 hI).times Q2 n)) (c2x1 ((K2 hI).times Q2 n)) (c2y0 ((K2 hI).times Q2 n)) (c2y1 ((K2 hI).times Q2 n)) (c2z ((K2 hI).times Q2 n)) (c2x0_big _) (c2x1_big _) (c2y0_big _) (c2y1_big _)
 have ez := eq_zero6 (n % rB) hq rfl
 unfold enc1 at m1 q1
 unfold enc2 at m2 q2
 clear b1 b2 oX oY
 generalize (K1 hI).times Q1 n = X at *
 generalize (K2 hI).times Q2 n = Y at *
 have f1 : c1z X = decide (n % rB = 0) := by
  by_cases hz : n % rB = 0
  ·rw [decide_eq_true hz, c1z_none (z1.2 hz)]
  ·rw [decide_eq_false hz, c1z_some (fun e => hz (z1.1 e))]
 have f2 : c2z Y = decide (n % rB = 0) := by
  by_cases hz : n % rB = 0
  ·rw [decide_eq_true hz, c2z_none (z2.2 hz)]
  ·rw [decide_eq_false hz, c2z_some (fun e => hz (z2.1 e))]
 rw [f1] at m1 q1 i1 r1
 rw [f2] at m2 q2 i2 r2
 exact orders_g n rB (n % rB) (c1x Q1) (c1y Q1) (c2x0 Q2) (c2x1 Q2) (c2y0 Q2) (c2y1 Q2) (c1x X) (c1y X) (c2x0 Y) (c2x1 Y) (c2y0 Y) (c2y1 Y) (c1z Q1) (c2z Q2) (decide (n % rB = 0)) awakeE GenE_1 m1 GenE_2 m2 base_rB q1 q2 i1 i2 (fun w => new_ok rB_ok w) (fun g w hm => reduce_any rB_ok hn w hm) r1 r2 ez w hm
end Rg
end Go.Proofs.YtmanelnacifgcaaGreatDoor
end
section
namespace Go.Proofs.YtmanelnacifgcaaGreatDoor
open Go.ChangeShapes Go.WideShapes Go.ChangeAt Go.RowKit
set_option maxRecDepth 100000
theorem Tryz.own : ownKnob Tryz.prog.godebug = none := by kernel_rfl
theorem Tryz.laidOut : laidOutB Tryz.prog = true := by kernel_rfl
theorem wd_cons_zero (x r : Nat) (hx : x < 18446744073709551616) : wd (x + 18446744073709551616 * r) 0 = x := by
 unfold wd; rw [Nat.mul_zero, Nat.pow_zero, Nat.div_one]; omega
theorem wd_cons_succ (x r i : Nat) (hx : x < 18446744073709551616) : wd (x + 18446744073709551616 * r) (i + 1) = wd r i := by
 unfold wd
 rw [pow_step, Nat.mul_comm (2 ^ (64 * i)), ← Nat.div_div_eq_div_mul, show (x + 18446744073709551616 * r) / 18446744073709551616 = r by omega]
theorem lt_cons (x r k : Nat) (hx : x < 18446744073709551616) (hr : r < 2 ^ (64 * k)) : x + 18446744073709551616 * r < 2 ^ (64 * (k + 1)) := by
 rw [pow_step]; omega
theorem num_of_words (x : Nat → Nat) (hx : ∀ i, x i < 18446744073709551616) (n : Nat) : ∃ a, a < 2 ^ (64 * n) ∧ ∀ i, i < n → wd a i = x i := by
 induction n generalizing x with
 | zero => exact ⟨0, Nat.two_pow_pos _, fun i h => absurd h (Nat.not_lt_zero _)⟩
 | succ n ih =>
  obtain ⟨r, hr, hw⟩ := ih (fun i => x (i + 1)) (fun i => hx _)
  refine ⟨x 0 + 18446744073709551616 * r, lt_cons _ _ _ (hx 0) hr, fun i hi => ?_⟩
  cases i with
  | zero => exact wd_cons_zero _ _ (hx 0)
  | succ i => rw [wd_cons_succ _ _ _ (hx 0)]; exact hw i (by omega)
theorem open_num {H : Type} {enc : TypeId × Value → H} {w : World} {base : Nat} {sp : Nat → Bool} {held : Bool} {r : Reach} {b0 : Nat} {v : Value} {d : DataW H} {ps : List MemPlace}
  (hval : Value.okWide Tryz.prog w r b0 24 v) (hd : DataW.Trod enc Tryz.prog w base sp held 24 v d ps) : ∃ a, a < big ∧ v = N a ∧ ps = [] := by
 unfold Value.okWide at hval
 rw [Tryz.underlying24] at hval
 obtain ⟨cs, rfl, hsz, _⟩ := hval
 obtain ⟨fuel, hf⟩ := hd
 obtain ⟨xs, m, -, hx, hl, hn, hel⟩ := DataW.trod_array Tryz.underlying24 hf
 have hc : Tryz.prog.cellsOf 22 = 1 := by kernel_rfl
 have hc6 : Tryz.prog.cellsOf 24 = 6 := by kernel_rfl
 rw [hc6] at hsz
 have key : ∀ i, i < 6 → ∃ n : Nat, n < 18446744073709551616 ∧ cs[i]? = some (.int .u64 n) ∧ ∃ z, xs[i]? = some z ∧ z.2 = [] := by
  intro i hi
  have h := hel i hi
  rw [hc] at h
  have hlt : i < xs.length := by rw [hn]; exact hi
  obtain ⟨z, hz⟩ : ∃ z, xs[i]? = some z := ⟨xs[i], List.getElem?_eq_getElem hlt⟩
  rw [hz] at h
  obtain ⟨n, e1, e2, e3⟩ := DataW.trod_int Tryz.underlying22 h
  have hb := bounds_u64 e3
  have hi' : i < cs.size := by omega
  have e4 : cs[i]? = some (.int .u64 n) := by
   have e5 : (cs.toList.drop i)[0]? = some (.int .u64 n) := by
    have e6 : ((cs.toList.drop (i * 1)).take 1)[0]? = some (.int .u64 n) := by
     have e7 : (Value.agg cs).cells.toList = cs.toList := rfl
     rw [e7] at e1
     rw [e1]; rfl
    rw [Nat.mul_one, List.getElem?_take] at e6
    simpa using e6
   rw [List.getElem?_drop] at e5
   simpa using e5
  refine ⟨n.toNat, by omega, ?_, z, hz, by rw [e2]⟩
  rw [e4, Int.toNat_of_nonneg hb.1]
 obtain ⟨n0, l0, c0, z0, y0, q0⟩ := key 0 (by omega)
 obtain ⟨n1, l1, c1, z1, y1, q1⟩ := key 1 (by omega)
 obtain ⟨n2, l2, c2, z2, y2, q2⟩ := key 2 (by omega)
 obtain ⟨n3, l3, c3, z3, y3, q3⟩ := key 3 (by omega)
 obtain ⟨n4, l4, c4, z4, y4, q4⟩ := key 4 (by omega)
 obtain ⟨n5, l5, c5, z5, y5, q5⟩ := key 5 (by omega)
 have hps : ps = [] := by
  have hx2 : ps = xs.flatMap (·.2) := congrArg Prod.snd hx
  rw [hx2, List.flatMap_eq_nil_iff]
  intro z hz
  obtain ⟨i, hi⟩ := List.mem_iff_getElem?.1 hz
  have hi6 : i < 6 := by
   have := (List.getElem?_eq_some_iff.1 hi).1
   omega
  obtain ⟨n, _, _, z', y, q⟩ := key i hi6
  rw [hi] at y; injection y with y; rw [y]; exact q
 obtain ⟨a, ha, hw⟩ := num_of_words (fun i => [n0, n1, n2, n3, n4, n5].getD i 0) (by
  intro i
  match i with
  | 0 => exact l0
  | 1 => exact l1
  | 2 => exact l2
  | 3 => exact l3
  | 4 => exact l4
  | 5 => exact l5
  | (i + 6) => simp) 6
 refine ⟨a, by rw [big]; exact ha, ?_, hps⟩
 unfold N
 have w0 : wd a 0 = n0 := hw 0 (by omega)
 have w1 : wd a 1 = n1 := hw 1 (by omega)
 have w2 : wd a 2 = n2 := hw 2 (by omega)
 have w3 : wd a 3 = n3 := hw 3 (by omega)
 have w4 : wd a 4 = n4 := hw 4 (by omega)
 have w5 : wd a 5 = n5 := hw 5 (by omega)
 rw [w0, w1, w2, w3, w4, w5]
 congr 1
 apply Array.ext (by simpa using hsz)
 intro i hi1 hi2
 have : i < 6 := by simpa using hi2
 have g : cs[i]? = some cs[i] := Array.getElem?_eq_getElem hi1
 match i, this with
 | 0, _ => rw [c0] at g; injection g with g; rw [← g]; rfl
 | 1, _ => rw [c1] at g; injection g with g; rw [← g]; rfl
 | 2, _ => rw [c2] at g; injection g with g; rw [← g]; rfl
 | 3, _ => rw [c3] at g; injection g with g; rw [← g]; rfl
 | 4, _ => rw [c4] at g; injection g with g; rw [← g]; rfl
 | 5, _ => rw [c5] at g; injection g with g; rw [← g]; rfl
/-- What was read of a number ahead of the call reads so behind it. -/
theorem num_stays {H : Type} {enc : TypeId × Value → H} {W W' : World} {v : Value} {d : DataW H}
  (h : DataW.Trod enc Tryz.prog W 0 (fun _ => true) true 24 v d []) (hb : Below W.heap.size W W') :
  DataW.Trod enc Tryz.prog W' 0 (fun b => decide (b < W.heap.size)) true 24 v d [] :=
 Below.trod Tryz.laidOut (by kernel_rfl) (by decide +kernel) h hb (fun _ hx => by cases hx)
end Go.Proofs.YtmanelnacifgcaaGreatDoor
end
section
namespace Go.Proofs.YtmanelnacifgcaaGreatDoor
open Go.ChangeShapes Go.WideShapes Go.ChangeAt Go.RowKit
namespace Rg
set_option maxRecDepth 100000
abbrev laidL : List (String × DataW Unit) := Rows.curveOrdersRow.laid
abbrev tabName : String := match laidL with
 | (n, _) :: _ => n
 | [] => Tryz.f3.name
theorem gTab : Tryz.prog.globalNamed tabName = some 2 := by kernel_rfl
theorem tTab : (Tryz.prog.globals[2]?).map (·.type) = some 192 := by kernel_rfl
theorem datTab : (Rows.laid_math_bits_deBruijn64tab : DataW Unit) = .agg (Lib.deBruijn64tab.map fun k => .lit (.int .u8 ((k : Nat) : Int))) := by kernel_rfl
theorem tab_of_laid {W : World} (h : laidMetH Tryz.prog laidL W) : Mm W [(2, dtab)] := by
 rw [MakeChecks.laidMetH_plain _ _ _ (by kernel_rfl)] at h
 obtain ⟨ps, ⟨g, t, cs, fuel, p, q, hg, ht, hv, hd, hq, hps⟩, hnd, hc⟩ := h
 obtain rfl := Option.some.inj (gTab.symm.trans hg)
 obtain rfl := Option.some.inj (tTab.symm.trans ht)
 obtain ⟨xs, m, -, hx, hlen, hn, hel⟩ := DataW.trod_array Tryz.underlying192 hd
 rw [datTab] at hx
 simp only [Prod.mk.injEq, DataW.agg.injEq] at hx
 have hc5 : Tryz.prog.cellsOf 5 = 1 := by kernel_rfl
 have hc81 : Tryz.prog.cellsOf 192 = 64 := by kernel_rfl
 rw [hc81] at hlen
 have hsz : cs.size = 64 := by simpa using hlen
 have hpl : ∀ i, i < 64 → MemPlace.cell 2 i ∈ ps := fun i hi => by
  rw [hps]
  refine List.mem_append_left _ (List.mem_append_left _ ?_)
  unfold MemPlace.row
  simp [hsz]
  omega
 obtain ⟨⟨c0, t0, hheap⟩, _⟩ := hc 2 0 (hpl 0 (by decide))
 have h0 : 2 < W.heap.size := by
  rcases Nat.lt_or_ge 2 W.heap.size with h' | h'
  ·exact h'
  ·rw [Array.getElem?_eq_none (by omega)] at hheap; cases hheap
 refine ⟨fun pq hpq => ?_, List.pairwise_singleton _ _⟩
 rw [List.mem_singleton.1 hpq]
 refine ⟨h0, fun j v hj => ?_⟩
 have hj64 : j < 64 := by
  have := (List.getElem?_eq_some_iff.1 hj).1
  exact this
 refine ⟨?_, ?_⟩
 ·rw [World.var?_cell hg hv j]
  have h1 := hel j hj64
  rw [hc5, Nat.mul_one] at h1
  have hlt : j < xs.length := by omega
  rw [List.getElem?_eq_getElem hlt] at h1
  obtain ⟨n, e1, e2, _⟩ := DataW.trod_int Tryz.underlying5 h1
  have e3 : cs[j]? = some (.int .u8 n) := by
   have e4 : ((cs.toList.drop j).take 1)[0]? = some (.int .u8 n) := by rw [e1]; rfl
   rw [List.getElem?_take, if_pos (by decide), List.getElem?_drop] at e4
   simpa using e4
  have e5 : (xs.map (·.1))[j]? = (Lib.deBruijn64tab.map fun k => DataW.lit (.int .u8 ((k : Nat) : Int)))[j]? := by rw [hx.1]
  rw [List.getElem?_map, List.getElem?_eq_getElem hlt, e2, List.getElem?_map] at e5
  unfold dtab at hj
  rw [List.getElem?_map] at hj
  cases hk : Lib.deBruijn64tab[j]? with
  | none => rw [hk] at hj; cases hj
  | some k =>
   rw [hk] at hj e5
   simp only [Option.map_some, Option.some.injEq, DataW.lit.injEq] at hj e5
   rw [e3, ← hj]
   simp only [Option.some.injEq]
   injection e5 with _ e6
   rw [e6]
 ·unfold World.frozen?
  rw [hheap]
  simp
theorem door_met (os : Os) (args : Array Value) : laidMetH Tryz.prog laidL ((World.doorLaid Tryz.prog 400 os).forCall (fun _ _ => 0) ⟨#[], args, []⟩).memory :=
 laidMetH_of_parts3 (fuel := 8) (laidMet_of_run' 8 (by kernel_rfl) (by kernel_rfl)) (by kernel_rfl) (by kernel_rfl)
end Rg
end Go.Proofs.YtmanelnacifgcaaGreatDoor
end
