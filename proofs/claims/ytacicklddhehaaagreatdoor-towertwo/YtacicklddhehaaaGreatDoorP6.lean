/- Texts of the proof, joined. -/
import Derived.Test.YtacicklddhehaaaGreatDoorP5
import Derived.Laws.BytesArg
import Derived.Laws.Bits64b
import Derived.Laws.Shifts
import Derived.Laws.Unary
import Derived.RowKit
import Derived.Laws.Externs
import Derived.Laws.BitsAll
import Derived.WalkKit
import Derived.WalkSpells
import Derived.Laws.Build
import Derived.Laws.Pointers
set_option maxRecDepth 100000
section
namespace Go.Proofs.YtacicklddhehaaaGreatDoor
open Go.RowKit
namespace Rg
set_option maxHeartbeats 1000000 in
theorem norm_gen (g n o s a0 a1 f0 f1 q0 q1 z0 z1 r : Nat)
  (c0 : ∀ w, Calls Tryz.prog 70 #[N a0, N a0] w (Rt w (V [f0, f1])))
  (c1 : ∀ w, Calls Tryz.prog 70 #[N a1, N a1] w (Rt w (V [q0, q1])))
  (c2 : ∀ w, Calls Tryz.prog 79 #[V [f0, f1], V [q0, q1]] w (Rt w (V [z0, z1])))
  (c3 : ∀ w, Mm w [(g, zR n o s)] → Calls Tryz.prog 69 #[.agg #[PT g 0], V [z0, z1]] w (Rt w (N r))) (w : World) (hm : Mm w [(g, zR n o s)]) :
  Calls Tryz.prog 53 #[.agg #[PT g 0], V [a0, a1]] w (Rt w (N r)) := by
 have H0 : Hid (_ ∧ _) := ⟨hm, Below.refl w.heap.size w⟩
 clear hm
 have C0 : Hid _ := c0
 have C1 : Hid _ := c1
 have C2 : Hid _ := c2
 have C3 : Hid _ := c3
 clear c0 c1 c2 c3
 go_enter Tryz.func53, Tryz.ntmps53
 refine wp_seq ?_
 refine zD 3 [.made [PT g 0] 42, .made (cel [a0, a1]) 26, .made zero6 24] (sB H0) ?ho1 ?he1
 case ho1 => exact am (ex_boxF rfl rfl) (am (zV rfl rfl) (am (zF rfl) trivial))
 intro J w1 l hM hl
 have H1 : Hid (Mm w1 ([(J 0, [PT g 0]), (J 1, cel [a0, a1]), (J 2, zero6)] ++ _) ∧ _) := wB H0 hM hl [0, 1, 2]
 have o1_0 := vB H0 hM hl 0
 have o1_1 := vB H0 hM hl 1
 have o1_2 := vB H0 hM hl 2
 clear hM hl l
 generalize J 0 = J1_0 at H1 o1_0 ⊢
 generalize J 1 = J1_1 at H1 o1_1 ⊢
 generalize J 2 = J1_2 at H1 o1_2 ⊢
 clear J
 refine rN (wp_seq ?_)
 refine zS 13 [.q (.agg #[PT g 0]), .q (PT J1_1 0), .q (N a0), .q (PT J1_1 0), .q (N a0), .call (V [f0, f1]), .q (PT J1_1 6), .q (N a1), .q (PT J1_1 6), .q (N a1), .call (V [q0, q1]), .call (V [z0, z1]), .call (N r)] H1 ?ho2 ?he2
 case ho2 => exact aq (fun w' h => ex_loadF h 0 rfl rfl rfl rfl) (ag (aq (fun w' h => zH (i := 0) h 1 rfl rfl rfl rfl) (ag (aq (fun w' h => zH (i := 0) h 1 rfl rfl rfl rfl) (ac (fun w' h => eC call70 (C0.out w')) (ag (aq (fun w' h => zH (i := 1) h 1 rfl rfl rfl rfl) (ag (aq (fun w' h => zH (i := 1) h 1 rfl rfl rfl rfl) (ac (fun w' h => eC call70 (C1.out w')) (ac (fun w' h => eC call79 (C2.out w')) (ac (fun w' h => eC call69 (C3.out w' (h.one 3 rfl))) trivial))))))))))))
 intro _ w2 H2
 clear H1
 refine zG (l := [13]) rfl ?_
 refine sG rfl (fun h => zM h 2 rfl rfl rfl rfl (Nat.le_of_ble_eq_true rfl)) 2 [_, _, (_, zB r), _] H2 o1_2 fun w3 H3 => ?_
 clear H2
 refine zE (zA (wp_ret ?_))
 repeat (first | refine zK ?_ | refine zI ?_)
 have c0 := H3.out.1.get 2 rfl 0 rfl
 have c1 := H3.out.1.get 2 rfl 1 rfl
 have c2 := H3.out.1.get 2 rfl 2 rfl
 have c3 := H3.out.1.get 2 rfl 3 rfl
 have c4 := H3.out.1.get 2 rfl 4 rfl
 have c5 := H3.out.1.get 2 rfl 5 rfl
 refine bodyPost_ret (v := N r) (by simp [results, Tryz.results53, go_sem, *]) rfl ?_
 exact ⟨rfl, H3.out.2⟩
set_option maxHeartbeats 1000000 in
theorem inv2_ok (g n o s a0 a1 q x d r0 r1 : Nat)
  (c0 : ∀ w, Mm w [(g, zR n o s)] → Calls Tryz.prog 53 #[.agg #[PT g 0], V [a0, a1]] w (Rt w (N q)))
  (c1 : ∀ w, Mm w [(g, zR n o s), (0, dtab)] → Calls Tryz.prog 52 #[PT g 0, N q] w (Rt w (.tuple #[N x, .int .i64 0])))
  (c2 : ∀ w, Mm w [(g, zR n o s)] → Calls Tryz.prog 54 #[PT g 0, N a0, N x] w (Rt w (N r0)))
  (c3 : ∀ w, Calls Tryz.prog 30 #[N a1] w (Rt w (N d)))
  (c4 : ∀ w, Mm w [(g, zR n o s)] → Calls Tryz.prog 54 #[PT g 0, N d, N x] w (Rt w (N r1))) (w : World) (hm : Mm w [(g, zR n o s), (0, dtab)]) :
  Calls Tryz.prog 31 #[.agg #[PT g 0], V [a0, a1]] w (Rt w (.tuple #[V [r0, r1], .int .i64 0])) := by
 have H0 : Hid (_ ∧ _) := ⟨hm, Below.refl w.heap.size w⟩
 clear hm
 have C0 : Hid _ := c0
 have C1 : Hid _ := c1
 have C2 : Hid _ := c2
 have C3 : Hid _ := c3
 have C4 : Hid _ := c4
 clear c0 c1 c2 c3 c4
 go_enter Tryz.func31, Tryz.ntmps31
 refine wp_seq ?_
 refine zD 4 [.made [PT g 0] 42, .made (cel [a0, a1]) 26, .made (cel [0, 0]) 26, .q (.int .i64 0)] (sB H0) ?ho1 ?he1
 case ho1 => exact am (ex_boxF rfl rfl) (am (zV rfl rfl) (am (zO rfl) (ar trivial)))
 intro J w1 l hM hl
 have H1 : Hid (Mm w1 ([(J 0, [PT g 0]), (J 1, cel [a0, a1]), (J 2, cel [0, 0])] ++ _) ∧ _) := wB H0 hM hl [0, 1, 2]
 have o1_0 := vB H0 hM hl 0
 have o1_1 := vB H0 hM hl 1
 have o1_2 := vB H0 hM hl 2
 clear hM hl l
 generalize J 0 = J1_0 at H1 o1_0 ⊢
 generalize J 1 = J1_1 at H1 o1_1 ⊢
 generalize J 2 = J1_2 at H1 o1_2 ⊢
 clear J
 refine rN (wp_seq ?_)
 refine zQ 12 [.q (PT J1_0 0), .q (PT g 0), .q (.agg #[PT g 0]), .q (V [a0, a1]), .call (N q), .call (.tuple #[N x, .int .i64 0]), .q (.tuple #[N x, .int .i64 0]), .q (N x), .q (.int .i64 0), .made zero6 24, .laid 9 zero6 (zB x), .q (.int .i64 0)] (sB H1) ?ho2 ?he2 (hL := ?hL2)
 case hL2 => exact ⟨⟨_, rfl⟩, trivial⟩
 case ho2 => exact ag (aq (fun w' h => ex_loadQ h 0 rfl rfl rfl rfl) (aq (fun w' h => ex_loadF h 0 rfl rfl rfl rfl) (bA 0 2 1 Ai26 As26 (ac (fun w' h => eC call53 (C0.out w' (h.one 3 rfl))) (ac (fun w' h => eC call52 (C1.out w' (h.two 3 4 rfl rfl (by decide)))) (ar (ag (ag (am (zF rfl) (ak (fun J => ⟨rfl, rfl, rfl, fun w' h => zJ h rfl rfl rfl⟩) (ar trivial)))))))))))
 intro J w2 l hM hl
 have H2 : Hid (Mm w2 ([(J 9, zB x)] ++ _) ∧ _) := wB H1 hM hl [9]
 have o2_9 := vB H1 hM hl 9
 clear hM hl l H1
 generalize J 9 = J2_9 at H2 o2_9 ⊢
 clear J
 refine rN (wp_seq (wp_seq ?_))
 refine zC 2 [.q (.int .i64 0), .q (.bool false)] H2 ?ho3 ?he3
 case ho3 => exact ar (ag trivial)
 intro _ w3 H3
 clear H2
 refine rN (wp_cond_false rfl ?_)
 refine wp_skip (zA (wp_seq ?_))
 refine zS 14 [.q (PT J1_0 0), .q (PT g 0), .q (PT J1_1 0), .q (N a0), .q (N x), .call (N r0), .q (PT J1_0 0), .q (PT g 0), .q (PT J1_1 6), .q (N a1), .call (N d), .q (N x), .call (N r1), .q (V [r0, r1])] H3 ?ho4 ?he4
 case ho4 => exact ag (aq (fun w' h => ex_loadQ h 1 rfl rfl rfl rfl) (ag (aq (fun w' h => zH (i := 0) h 2 rfl rfl rfl rfl) (bN 0 (ac (fun w' h => eC call54 (C2.out w' (h.one 4 rfl))) (ag (aq (fun w' h => ex_loadQ h 1 rfl rfl rfl rfl) (ag (aq (fun w' h => zH (i := 1) h 2 rfl rfl rfl rfl) (ac (fun w' h => eC call30 (C3.out w')) (bN 0 (ac (fun w' h => eC call54 (C4.out w' (h.one 4 rfl))) (ak (fun J => ⟨rfl, fun w' _ => yC rfl rfl rfl⟩) trivial)))))))))))))
 intro _ w4 H4
 clear H3
 refine zG (l := [14, 15]) rfl ?_
 refine sF 3 [r0, r1] [_, _, _, _, _, _] H4 o1_2 As26 fun w5 H5 => ?_
 clear H4
 refine zN (d := 5) rfl rfl rfl rfl ?_
 simp only [Act.put, sa, sz, ss]
 refine zE (zA (wp_ret ?_))
 repeat (first | refine zK ?_ | refine zI ?_)
 have hf0 := cel_var (k := 2) H5.out.1 3 rfl Ai26 As26 rfl
 refine bodyPost_ret (v := .tuple #[V [r0, r1], .int .i64 0]) (by simp [results, Tryz.results31, asAddr, Act.eval, hf0]) rfl ?_
 exact ⟨rfl, H5.out.2⟩
set_option maxHeartbeats 1000000 in
theorem inv2_no (g n o s a0 a1 q x : Nat)
  (c0 : ∀ w, Mm w [(g, zR n o s)] → Calls Tryz.prog 53 #[.agg #[PT g 0], V [a0, a1]] w (Rt w (N q)))
  (c1 : ∀ w, Mm w [(g, zR n o s), (0, dtab)] → Calls Tryz.prog 52 #[PT g 0, N q] w (Rt w (.tuple #[N x, .int .i64 6]))) (w : World) (hm : Mm w [(g, zR n o s), (0, dtab)]) :
  Calls Tryz.prog 31 #[.agg #[PT g 0], V [a0, a1]] w (Rt w (.tuple #[V [0, 0], .int .i64 6])) := by
 have H0 : Hid (_ ∧ _) := ⟨hm, Below.refl w.heap.size w⟩
 clear hm
 have C0 : Hid _ := c0
 have C1 : Hid _ := c1
 clear c0 c1
 go_enter Tryz.func31, Tryz.ntmps31
 refine wp_seq ?_
 refine zD 4 [.made [PT g 0] 42, .made (cel [a0, a1]) 26, .made (cel [0, 0]) 26, .q (.int .i64 0)] (sB H0) ?ho1 ?he1
 case ho1 => exact am (ex_boxF rfl rfl) (am (zV rfl rfl) (am (zO rfl) (ar trivial)))
 intro J w1 l hM hl
 have H1 : Hid (Mm w1 ([(J 0, [PT g 0]), (J 1, cel [a0, a1]), (J 2, cel [0, 0])] ++ _) ∧ _) := wB H0 hM hl [0, 1, 2]
 have o1_0 := vB H0 hM hl 0
 have o1_1 := vB H0 hM hl 1
 have o1_2 := vB H0 hM hl 2
 clear hM hl l
 generalize J 0 = J1_0 at H1 o1_0 ⊢
 generalize J 1 = J1_1 at H1 o1_1 ⊢
 generalize J 2 = J1_2 at H1 o1_2 ⊢
 clear J
 refine rN (wp_seq ?_)
 refine zQ 12 [.q (PT J1_0 0), .q (PT g 0), .q (.agg #[PT g 0]), .q (V [a0, a1]), .call (N q), .call (.tuple #[N x, .int .i64 6]), .q (.tuple #[N x, .int .i64 6]), .q (N x), .q (.int .i64 6), .made zero6 24, .laid 9 zero6 (zB x), .q (.int .i64 6)] (sB H1) ?ho2 ?he2 (hL := ?hL2)
 case hL2 => exact ⟨⟨_, rfl⟩, trivial⟩
 case ho2 => exact ag (aq (fun w' h => ex_loadQ h 0 rfl rfl rfl rfl) (aq (fun w' h => ex_loadF h 0 rfl rfl rfl rfl) (bA 0 2 1 Ai26 As26 (ac (fun w' h => eC call53 (C0.out w' (h.one 3 rfl))) (ac (fun w' h => eC call52 (C1.out w' (h.two 3 4 rfl rfl (by decide)))) (ar (ag (ag (am (zF rfl) (ak (fun J => ⟨rfl, rfl, rfl, fun w' h => zJ h rfl rfl rfl⟩) (ar trivial)))))))))))
 intro J w2 l hM hl
 have H2 : Hid (Mm w2 ([(J 9, zB x)] ++ _) ∧ _) := wB H1 hM hl [9]
 have o2_9 := vB H1 hM hl 9
 clear hM hl l H1
 generalize J 9 = J2_9 at H2 o2_9 ⊢
 clear J
 refine rN (wp_seq (wp_seq ?_))
 refine zC 2 [.q (.int .i64 6), .q (.bool true)] H2 ?ho3 ?he3
 case ho3 => exact ar (ag trivial)
 intro _ w3 H3
 clear H2
 refine rN (wp_cond_true rfl (wp_seq ?_))
 refine zC 2 [.q (V [0, 0]), .q (.int .i64 6)] H3 ?ho4 ?he4
 case ho4 => exact ak (fun J => ⟨rfl, fun w' _ => ex_buildE2z rfl⟩) (ar trivial)
 intro _ w4 H4
 clear H3
 refine zG (l := [2, 3]) rfl ?_
 refine sF 3 [0, 0] [_, _, _, _, _, _] H4 o1_2 As26 fun w5 H5 => ?_
 clear H4
 refine zN (d := 5) rfl rfl rfl rfl ?_
 simp only [Act.put, sa, sz, ss]
 refine zE (zA (wp_ret ?_))
 repeat (first | refine zK ?_ | refine zI ?_)
 have hf0 := cel_var (k := 2) H5.out.1 3 rfl Ai26 As26 rfl
 refine bodyPost_ret (v := .tuple #[V [0, 0], .int .i64 6]) (by simp [results, Tryz.results31, asAddr, Act.eval, hf0]) rfl ?_
 exact ⟨rfl, H5.out.2⟩
set_option maxHeartbeats 1000000 in
theorem lesser_1 (a0 a1 b0 b1 : Nat) (y : Int) (hy : 0 < y)
  (c0 : ∀ w, Calls Tryz.prog 59 #[N a1, N b1] w (Rt w (.int .i64 y))) (w : World) :
  Calls Tryz.prog 33 #[V [a0, a1], V [b0, b1]] w (Rt w (V [b0, b1])) := by
 have H0 : Hid (_ ∧ _) := ⟨Mm.nil w, Below.refl w.heap.size w⟩
 have C0 : Hid _ := c0
 clear c0
 go_enter Tryz.func33, Tryz.ntmps33
 refine wp_seq ?_
 refine zD 3 [.made (cel [a0, a1]) 26, .made (cel [b0, b1]) 26, .made (cel [0, 0]) 26] (sB H0) ?ho1 ?he1
 case ho1 => exact am (zV rfl rfl) (am (zV rfl rfl) (am (zO rfl) trivial))
 intro J w1 l hM hl
 have H1 : Hid (Mm w1 [(J 0, cel [a0, a1]), (J 1, cel [b0, b1]), (J 2, cel [0, 0])] ∧ _) := wB H0 hM hl [0, 1, 2]
 have o1_0 := vB H0 hM hl 0
 have o1_1 := vB H0 hM hl 1
 have o1_2 := vB H0 hM hl 2
 clear hM hl l
 generalize J 0 = J1_0 at H1 o1_0 ⊢
 generalize J 1 = J1_1 at H1 o1_1 ⊢
 generalize J 2 = J1_2 at H1 o1_2 ⊢
 clear J
 refine rN (wp_seq ?_)
 refine zC 6 [.q (PT J1_0 6), .q (N a1), .q (PT J1_1 6), .q (N b1), .call (.int .i64 y), .q (.int .i64 y)] H1 ?ho2 ?he2
 case ho2 => exact ag (aq (fun w' h => zH (i := 1) h 0 rfl rfl rfl rfl) (ag (aq (fun w' h => zH (i := 1) h 1 rfl rfl rfl rfl) (ac (fun w' h => eC call59 (C0.out w')) (ar trivial)))))
 intro _ w2 H2
 clear H1
 refine rN (wp_seq (wp_seq ?_))
 refine zC 2 [.q (.int .i64 y), .q (.bool false)] H2 ?ho3 ?he3
 case ho3 => exact ar (ak (by refine fun J => ⟨rfl, fun w' h => ?_⟩; clear h; go_simp <;> omega) trivial)
 intro _ w3 H3
 clear H2
 refine rN (wp_cond_false rfl ?_)
 refine wp_skip (zA ?_)
 refine wp_seq (wp_seq ?_)
 refine zC 2 [.q (.int .i64 y), .q (.bool true)] H3 ?ho4 ?he4
 case ho4 => exact ar (ak (by refine fun J => ⟨rfl, fun w' h => ?_⟩; clear h; go_simp <;> omega) trivial)
 intro _ w4 H4
 clear H3
 refine rN (wp_cond_true rfl (wp_seq ?_))
 refine zC 1 [.q (V [b0, b1])] H4 ?ho5 ?he5
 case ho5 => exact bA 0 2 1 Ai26 As26 trivial
 intro _ w5 H5
 clear H4
 refine zG (l := [1]) rfl ?_
 refine sF 2 [b0, b1] [_, _, _] H5 o1_2 As26 fun w6 H6 => ?_
 clear H5
 refine zE (zA (wp_ret ?_))
 repeat (first | refine zK ?_ | refine zI ?_)
 have hf0 := cel_var (k := 2) H6.out.1 2 rfl Ai26 As26 rfl
 refine bodyPost_ret (v := V [b0, b1]) (by simp [results, Tryz.results33, asAddr, hf0]) rfl ?_
 exact ⟨rfl, H6.out.2⟩
set_option maxHeartbeats 1000000 in
theorem lesser_2 (a0 a1 b0 b1 : Nat) (y : Int) (hy : y < 0)
  (c0 : ∀ w, Calls Tryz.prog 59 #[N a1, N b1] w (Rt w (.int .i64 y))) (w : World) :
  Calls Tryz.prog 33 #[V [a0, a1], V [b0, b1]] w (Rt w (V [a0, a1])) := by
 have H0 : Hid (_ ∧ _) := ⟨Mm.nil w, Below.refl w.heap.size w⟩
 have C0 : Hid _ := c0
 clear c0
 go_enter Tryz.func33, Tryz.ntmps33
 refine wp_seq ?_
 refine zD 3 [.made (cel [a0, a1]) 26, .made (cel [b0, b1]) 26, .made (cel [0, 0]) 26] (sB H0) ?ho1 ?he1
 case ho1 => exact am (zV rfl rfl) (am (zV rfl rfl) (am (zO rfl) trivial))
 intro J w1 l hM hl
 have H1 : Hid (Mm w1 [(J 0, cel [a0, a1]), (J 1, cel [b0, b1]), (J 2, cel [0, 0])] ∧ _) := wB H0 hM hl [0, 1, 2]
 have o1_0 := vB H0 hM hl 0
 have o1_1 := vB H0 hM hl 1
 have o1_2 := vB H0 hM hl 2
 clear hM hl l
 generalize J 0 = J1_0 at H1 o1_0 ⊢
 generalize J 1 = J1_1 at H1 o1_1 ⊢
 generalize J 2 = J1_2 at H1 o1_2 ⊢
 clear J
 refine rN (wp_seq ?_)
 refine zC 6 [.q (PT J1_0 6), .q (N a1), .q (PT J1_1 6), .q (N b1), .call (.int .i64 y), .q (.int .i64 y)] H1 ?ho2 ?he2
 case ho2 => exact ag (aq (fun w' h => zH (i := 1) h 0 rfl rfl rfl rfl) (ag (aq (fun w' h => zH (i := 1) h 1 rfl rfl rfl rfl) (ac (fun w' h => eC call59 (C0.out w')) (ar trivial)))))
 intro _ w2 H2
 clear H1
 refine rN (wp_seq (wp_seq ?_))
 refine zC 2 [.q (.int .i64 y), .q (.bool false)] H2 ?ho3 ?he3
 case ho3 => exact ar (ak (by refine fun J => ⟨rfl, fun w' h => ?_⟩; clear h; go_simp <;> omega) trivial)
 intro _ w3 H3
 clear H2
 refine rN (wp_cond_false rfl ?_)
 refine wp_skip (zA ?_)
 refine wp_seq (wp_seq ?_)
 refine zC 2 [.q (.int .i64 y), .q (.bool false)] H3 ?ho4 ?he4
 case ho4 => exact ar (ak (by refine fun J => ⟨rfl, fun w' h => ?_⟩; clear h; go_simp <;> omega) trivial)
 intro _ w4 H4
 clear H3
 refine rN (wp_cond_false rfl ?_)
 refine wp_skip (zA (wp_seq ?_))
 refine zC 1 [.q (V [a0, a1])] H4 ?ho5 ?he5
 case ho5 => exact bA 0 2 0 Ai26 As26 trivial
 intro _ w5 H5
 clear H4
 refine zG (l := [1]) rfl ?_
 refine sF 2 [a0, a1] [_, _, _] H5 o1_2 As26 fun w6 H6 => ?_
 clear H5
 refine zE (zA (wp_ret ?_))
 repeat (first | refine zK ?_ | refine zI ?_)
 have hf0 := cel_var (k := 2) H6.out.1 2 rfl Ai26 As26 rfl
 refine bodyPost_ret (v := V [a0, a1]) (by simp [results, Tryz.results33, asAddr, hf0]) rfl ?_
 exact ⟨rfl, H6.out.2⟩
set_option maxHeartbeats 1000000 in
theorem lesser_3 (a0 a1 b0 b1 : Nat) (y x : Int) (hy : y = 0) (hx : 0 < x)
  (c0 : ∀ w, Calls Tryz.prog 59 #[N a1, N b1] w (Rt w (.int .i64 y)))
  (c1 : ∀ w, Calls Tryz.prog 59 #[N a0, N b0] w (Rt w (.int .i64 x))) (w : World) :
  Calls Tryz.prog 33 #[V [a0, a1], V [b0, b1]] w (Rt w (V [b0, b1])) := by
 have H0 : Hid (_ ∧ _) := ⟨Mm.nil w, Below.refl w.heap.size w⟩
 have C0 : Hid _ := c0
 have C1 : Hid _ := c1
 clear c0 c1
 go_enter Tryz.func33, Tryz.ntmps33
 refine wp_seq ?_
 refine zD 3 [.made (cel [a0, a1]) 26, .made (cel [b0, b1]) 26, .made (cel [0, 0]) 26] (sB H0) ?ho1 ?he1
 case ho1 => exact am (zV rfl rfl) (am (zV rfl rfl) (am (zO rfl) trivial))
 intro J w1 l hM hl
 have H1 : Hid (Mm w1 [(J 0, cel [a0, a1]), (J 1, cel [b0, b1]), (J 2, cel [0, 0])] ∧ _) := wB H0 hM hl [0, 1, 2]
 have o1_0 := vB H0 hM hl 0
 have o1_1 := vB H0 hM hl 1
 have o1_2 := vB H0 hM hl 2
 clear hM hl l
 generalize J 0 = J1_0 at H1 o1_0 ⊢
 generalize J 1 = J1_1 at H1 o1_1 ⊢
 generalize J 2 = J1_2 at H1 o1_2 ⊢
 clear J
 refine rN (wp_seq ?_)
 refine zC 6 [.q (PT J1_0 6), .q (N a1), .q (PT J1_1 6), .q (N b1), .call (.int .i64 y), .q (.int .i64 y)] H1 ?ho2 ?he2
 case ho2 => exact ag (aq (fun w' h => zH (i := 1) h 0 rfl rfl rfl rfl) (ag (aq (fun w' h => zH (i := 1) h 1 rfl rfl rfl rfl) (ac (fun w' h => eC call59 (C0.out w')) (ar trivial)))))
 intro _ w2 H2
 clear H1
 refine rN (wp_seq (wp_seq ?_))
 refine zC 2 [.q (.int .i64 y), .q (.bool true)] H2 ?ho3 ?he3
 case ho3 => exact ar (ak (by refine fun J => ⟨rfl, fun w' h => ?_⟩; clear h; go_simp <;> omega) trivial)
 intro _ w3 H3
 clear H2
 refine rN (wp_cond_true rfl ?_)
 refine zC 6 [.q (PT J1_0 0), .q (N a0), .q (PT J1_1 0), .q (N b0), .call (.int .i64 x), .q (.int .i64 x)] H3 ?ho4 ?he4
 case ho4 => exact ag (aq (fun w' h => zH (i := 0) h 0 rfl rfl rfl rfl) (ag (aq (fun w' h => zH (i := 0) h 1 rfl rfl rfl rfl) (ac (fun w' h => eC call59 (C1.out w')) (ar trivial)))))
 intro _ w4 H4
 clear H3
 refine rN (wp_seq (wp_seq ?_))
 refine zC 2 [.q (.int .i64 x), .q (.bool true)] H4 ?ho5 ?he5
 case ho5 => exact ar (ak (by refine fun J => ⟨rfl, fun w' h => ?_⟩; clear h; go_simp <;> omega) trivial)
 intro _ w5 H5
 clear H4
 refine rN (wp_cond_true rfl (wp_seq ?_))
 refine zC 1 [.q (V [b0, b1])] H5 ?ho6 ?he6
 case ho6 => exact bA 0 2 1 Ai26 As26 trivial
 intro _ w6 H6
 clear H5
 refine zG (l := [1]) rfl ?_
 refine sF 2 [b0, b1] [_, _, _] H6 o1_2 As26 fun w7 H7 => ?_
 clear H6
 refine zE (zA (wp_ret ?_))
 repeat (first | refine zK ?_ | refine zI ?_)
 have hf0 := cel_var (k := 2) H7.out.1 2 rfl Ai26 As26 rfl
 refine bodyPost_ret (v := V [b0, b1]) (by simp [results, Tryz.results33, asAddr, hf0]) rfl ?_
 exact ⟨rfl, H7.out.2⟩
set_option maxHeartbeats 1000000 in
theorem lesser_4 (a0 a1 b0 b1 : Nat) (y x : Int) (hy : y = 0) (hx : ¬ 0 < x)
  (c0 : ∀ w, Calls Tryz.prog 59 #[N a1, N b1] w (Rt w (.int .i64 y)))
  (c1 : ∀ w, Calls Tryz.prog 59 #[N a0, N b0] w (Rt w (.int .i64 x))) (w : World) :
  Calls Tryz.prog 33 #[V [a0, a1], V [b0, b1]] w (Rt w (V [a0, a1])) := by
 have H0 : Hid (_ ∧ _) := ⟨Mm.nil w, Below.refl w.heap.size w⟩
 have C0 : Hid _ := c0
 have C1 : Hid _ := c1
 clear c0 c1
 go_enter Tryz.func33, Tryz.ntmps33
 refine wp_seq ?_
 refine zD 3 [.made (cel [a0, a1]) 26, .made (cel [b0, b1]) 26, .made (cel [0, 0]) 26] (sB H0) ?ho1 ?he1
 case ho1 => exact am (zV rfl rfl) (am (zV rfl rfl) (am (zO rfl) trivial))
 intro J w1 l hM hl
 have H1 : Hid (Mm w1 [(J 0, cel [a0, a1]), (J 1, cel [b0, b1]), (J 2, cel [0, 0])] ∧ _) := wB H0 hM hl [0, 1, 2]
 have o1_0 := vB H0 hM hl 0
 have o1_1 := vB H0 hM hl 1
 have o1_2 := vB H0 hM hl 2
 clear hM hl l
 generalize J 0 = J1_0 at H1 o1_0 ⊢
 generalize J 1 = J1_1 at H1 o1_1 ⊢
 generalize J 2 = J1_2 at H1 o1_2 ⊢
 clear J
 refine rN (wp_seq ?_)
 refine zC 6 [.q (PT J1_0 6), .q (N a1), .q (PT J1_1 6), .q (N b1), .call (.int .i64 y), .q (.int .i64 y)] H1 ?ho2 ?he2
 case ho2 => exact ag (aq (fun w' h => zH (i := 1) h 0 rfl rfl rfl rfl) (ag (aq (fun w' h => zH (i := 1) h 1 rfl rfl rfl rfl) (ac (fun w' h => eC call59 (C0.out w')) (ar trivial)))))
 intro _ w2 H2
 clear H1
 refine rN (wp_seq (wp_seq ?_))
 refine zC 2 [.q (.int .i64 y), .q (.bool true)] H2 ?ho3 ?he3
 case ho3 => exact ar (ak (by refine fun J => ⟨rfl, fun w' h => ?_⟩; clear h; go_simp <;> omega) trivial)
 intro _ w3 H3
 clear H2
 refine rN (wp_cond_true rfl ?_)
 refine zC 6 [.q (PT J1_0 0), .q (N a0), .q (PT J1_1 0), .q (N b0), .call (.int .i64 x), .q (.int .i64 x)] H3 ?ho4 ?he4
 case ho4 => exact ag (aq (fun w' h => zH (i := 0) h 0 rfl rfl rfl rfl) (ag (aq (fun w' h => zH (i := 0) h 1 rfl rfl rfl rfl) (ac (fun w' h => eC call59 (C1.out w')) (ar trivial)))))
 intro _ w4 H4
 clear H3
 refine rN (wp_seq (wp_seq ?_))
 refine zC 2 [.q (.int .i64 x), .q (.bool false)] H4 ?ho5 ?he5
 case ho5 => exact ar (ak (by refine fun J => ⟨rfl, fun w' h => ?_⟩; clear h; go_simp <;> omega) trivial)
 intro _ w5 H5
 clear H4
 refine rN (wp_cond_false rfl ?_)
 refine wp_skip (zA (wp_seq ?_))
 refine zC 1 [.q (V [a0, a1])] H5 ?ho6 ?he6
 case ho6 => exact bA 0 2 0 Ai26 As26 trivial
 intro _ w6 H6
 clear H5
 refine zG (l := [1]) rfl ?_
 refine sF 2 [a0, a1] [_, _, _] H6 o1_2 As26 fun w7 H7 => ?_
 clear H6
 refine zE (zA (wp_ret ?_))
 repeat (first | refine zK ?_ | refine zI ?_)
 have hf0 := cel_var (k := 2) H7.out.1 2 rfl Ai26 As26 rfl
 refine bodyPost_ret (v := V [a0, a1]) (by simp [results, Tryz.results33, asAddr, hf0]) rfl ?_
 exact ⟨rfl, H7.out.2⟩
set_option maxHeartbeats 1000000 in
theorem rooN_1 (g n o s a k1 x ee r q : Nat) (e1 : ∀ w, (Op.equalIn 10000 24 (N q) (N a)).run Tryz.prog w = .ok true w)
  (c0 : ∀ w, Mm w [(g, zR n o s)] → Calls Tryz.prog 83 #[PT g 0] w (Rt w (N n)))
  (c1 : ∀ w, Calls Tryz.prog 65 #[.int .u64 1] w (Rt w (N k1)))
  (c2 : ∀ w, Calls Tryz.prog 42 #[N n, N k1] w (Rt w (N x)))
  (c3 : ∀ w, Calls Tryz.prog 82 #[N x, .int .i64 (-2)] w (Rt w (N ee)))
  (c4 : ∀ w, Mm w [(g, zR n o s)] → Calls Tryz.prog 81 #[PT g 0, N a, N ee] w (Rt w (N r)))
  (c5 : ∀ w, Mm w [(g, zR n o s)] → Calls Tryz.prog 54 #[PT g 0, N r, N r] w (Rt w (N q))) (w : World) (hm : Mm w [(g, zR n o s)]) :
  Calls Tryz.prog 57 #[.agg #[PT g 0], N a] w (Rt w (.tuple #[N r, .bool true])) := by
 have H0 : Hid (_ ∧ _) := ⟨hm, Below.refl w.heap.size w⟩
 clear hm
 have C0 : Hid _ := c0
 have C1 : Hid _ := c1
 have C2 : Hid _ := c2
 have C3 : Hid _ := c3
 have C4 : Hid _ := c4
 have C5 : Hid _ := c5
 clear c0 c1 c2 c3 c4 c5
 go_enter Tryz.func57, Tryz.ntmps57
 refine wp_seq ?_
 refine zD 4 [.made [PT g 0] 42, .made (zB a) 24, .made zero6 24, .q (.bool false)] (sB H0) ?ho1 ?he1
 case ho1 => exact am (ex_boxF rfl rfl) (am (zU rfl rfl) (am (zF rfl) (ar trivial)))
 intro J w1 l hM hl
 have H1 : Hid (Mm w1 ([(J 0, [PT g 0]), (J 1, zB a), (J 2, zero6)] ++ _) ∧ _) := wB H0 hM hl [0, 1, 2]
 have o1_0 := vB H0 hM hl 0
 have o1_1 := vB H0 hM hl 1
 have o1_2 := vB H0 hM hl 2
 clear hM hl l
 generalize J 0 = J1_0 at H1 o1_0 ⊢
 generalize J 1 = J1_1 at H1 o1_1 ⊢
 generalize J 2 = J1_2 at H1 o1_2 ⊢
 clear J
 refine rN (wp_seq ?_)
 refine zD 7 [.q (PT J1_0 0), .q (PT g 0), .call (N n), .call (N k1), .call (N x), .made zero6 24, .laid 5 zero6 (zB x)] (sB H1) ?ho2 ?he2 (hL := ?hL2)
 case hL2 => exact ⟨⟨_, rfl⟩, trivial⟩
 case ho2 => exact ag (aq (fun w' h => ex_loadQ h 0 rfl rfl rfl rfl) (ac (fun w' h => eC call83 (C0.out w' (h.one 3 rfl))) (ac (fun w' h => eC call65 (C1.out w')) (ac (fun w' h => eC call42 (C2.out w')) (am (zF rfl) (ak (fun J => ⟨rfl, rfl, rfl, fun w' h => zJ h rfl rfl rfl⟩) trivial))))))
 intro J w2 l hM hl
 have H2 : Hid (Mm w2 ([(J 5, zB x)] ++ _) ∧ _) := wB H1 hM hl [5]
 have o2_5 := vB H1 hM hl 5
 clear hM hl l H1
 generalize J 5 = J2_5 at H2 o2_5 ⊢
 clear J
 refine rN (wp_seq ?_)
 refine zQ 8 [.q (PT J1_0 0), .q (PT g 0), .q (N a), .q (N x), .call (N ee), .call (N r), .made zero6 24, .laid 6 zero6 (zB r)] (sB H2) ?ho3 ?he3 (hL := ?hL3)
 case hL3 => exact ⟨⟨_, rfl⟩, trivial⟩
 case ho3 => exact ag (aq (fun w' h => ex_loadQ h 1 rfl rfl rfl rfl) (bN 2 (bN 0 (ac (fun w' h => eC call82 (C3.out w')) (ac (fun w' h => eC call81 (C4.out w' (h.one 4 rfl))) (am (zF rfl) (ak (fun J => ⟨rfl, rfl, rfl, fun w' h => zJ h rfl rfl rfl⟩) trivial)))))))
 intro J w3 l hM hl
 have H3 : Hid (Mm w3 ([(J 6, zB r)] ++ _) ∧ _) := wB H2 hM hl [6]
 have o3_6 := vB H2 hM hl 6
 clear hM hl l H2
 generalize J 6 = J3_6 at H3 o3_6 ⊢
 clear J
 refine rN (wp_seq ?_)
 refine walk_put2 (by kernel_rfl) 8 [6, 7] [.q (N r), .q (PT J1_0 0), .q (PT g 0), .q (N r), .q (N r), .call (N q), .q (N a), .q (.bool true)] _ ?pre4 ?F4 _ ?hpre4 (fun J => ?hF4) (by kernel_rfl) rfl trivial (sB H3) ?ho4 ?hla4 ?he4
 case hpre4 => simp only [tk, tz]; rfl
 case hF4 => simp only [yB, Kind.val, Act.put, sa, sz, ss]; rfl
 case ho4 =>
  refine bN 0 ?_
  refine ag ?_
  refine aq (fun w' h => ex_loadQ h 2 rfl rfl rfl rfl) ?_
  refine bN 0 ?_
  refine bN 0 ?_
  refine ak (fun J => ⟨rfl, fun w' h => eC call54 (C5.out w' (h.one 5 rfl))⟩) ?_
  refine bN 3 ?_
  refine ak (fun J => ⟨rfl, fun w' _ => exec_eq6 e1 rfl rfl rfl⟩) ?_
  exact trivial
 case hla4 => exact rfl
 intro J w4 l hM hl
 have H4 := keepB H3 hM.below
 clear hM hl l H3 J
 have H5 : Hid (Mm (w4.setCells J1_2 0 (zB r)) [(J3_6, zB r), (J2_5, zB x), (J1_0, [PT g 0]), (J1_1, zB a), (J1_2, zB r), (g, zR n o s)] ∧ Below w.heap.size w (w4.setCells J1_2 0 (zB r))) := ⟨H4.out.1.put 4 (off := 0) (vs := zB r) rfl (Nat.le_of_ble_eq_true rfl), zP _ o1_2.out _ _ _ H4.out.2⟩
 refine ⟨_, zM H4.out.1 4 rfl rfl rfl rfl (Nat.le_of_ble_eq_true rfl), ⟨⟨_, _, rfl, rfl, rfl, zY H5.out.1 3 rfl rfl rfl rfl⟩, ⟨_, _, rfl, rfl, rfl, by first | rfl | go_simp⟩, trivial⟩, ?_⟩
 clear H4
 generalize hgw : World.setCells _ _ _ _ = w5 at H5 ⊢
 clear hgw
 refine zG (l := [9]) rfl ?_
 refine zN (d := 5) rfl rfl rfl rfl ?_
 simp only [Act.put, sa, sz, ss]
 refine zE (zA (wp_ret ?_))
 repeat (first | refine zK ?_ | refine zI ?_)
 have c0 := H5.out.1.get 4 rfl 0 rfl
 have c1 := H5.out.1.get 4 rfl 1 rfl
 have c2 := H5.out.1.get 4 rfl 2 rfl
 have c3 := H5.out.1.get 4 rfl 3 rfl
 have c4 := H5.out.1.get 4 rfl 4 rfl
 have c5 := H5.out.1.get 4 rfl 5 rfl
 refine bodyPost_ret (v := .tuple #[N r, .bool true]) (by simp [results, Tryz.results57, go_sem, *]) rfl ?_
 exact ⟨rfl, H5.out.2⟩
set_option maxHeartbeats 1000000 in
theorem rooN_2 (g n o s a k1 x ee r q : Nat) (e1 : ∀ w, (Op.equalIn 10000 24 (N q) (N a)).run Tryz.prog w = .ok false w)
  (c0 : ∀ w, Mm w [(g, zR n o s)] → Calls Tryz.prog 83 #[PT g 0] w (Rt w (N n)))
  (c1 : ∀ w, Calls Tryz.prog 65 #[.int .u64 1] w (Rt w (N k1)))
  (c2 : ∀ w, Calls Tryz.prog 42 #[N n, N k1] w (Rt w (N x)))
  (c3 : ∀ w, Calls Tryz.prog 82 #[N x, .int .i64 (-2)] w (Rt w (N ee)))
  (c4 : ∀ w, Mm w [(g, zR n o s)] → Calls Tryz.prog 81 #[PT g 0, N a, N ee] w (Rt w (N r)))
  (c5 : ∀ w, Mm w [(g, zR n o s)] → Calls Tryz.prog 54 #[PT g 0, N r, N r] w (Rt w (N q))) (w : World) (hm : Mm w [(g, zR n o s)]) :
  Calls Tryz.prog 57 #[.agg #[PT g 0], N a] w (Rt w (.tuple #[N r, .bool false])) := by
 have H0 : Hid (_ ∧ _) := ⟨hm, Below.refl w.heap.size w⟩
 clear hm
 have C0 : Hid _ := c0
 have C1 : Hid _ := c1
 have C2 : Hid _ := c2
 have C3 : Hid _ := c3
 have C4 : Hid _ := c4
 have C5 : Hid _ := c5
 clear c0 c1 c2 c3 c4 c5
 go_enter Tryz.func57, Tryz.ntmps57
 refine wp_seq ?_
 refine zD 4 [.made [PT g 0] 42, .made (zB a) 24, .made zero6 24, .q (.bool false)] (sB H0) ?ho1 ?he1
 case ho1 => exact am (ex_boxF rfl rfl) (am (zU rfl rfl) (am (zF rfl) (ar trivial)))
 intro J w1 l hM hl
 have H1 : Hid (Mm w1 ([(J 0, [PT g 0]), (J 1, zB a), (J 2, zero6)] ++ _) ∧ _) := wB H0 hM hl [0, 1, 2]
 have o1_0 := vB H0 hM hl 0
 have o1_1 := vB H0 hM hl 1
 have o1_2 := vB H0 hM hl 2
 clear hM hl l
 generalize J 0 = J1_0 at H1 o1_0 ⊢
 generalize J 1 = J1_1 at H1 o1_1 ⊢
 generalize J 2 = J1_2 at H1 o1_2 ⊢
 clear J
 refine rN (wp_seq ?_)
 refine zD 7 [.q (PT J1_0 0), .q (PT g 0), .call (N n), .call (N k1), .call (N x), .made zero6 24, .laid 5 zero6 (zB x)] (sB H1) ?ho2 ?he2 (hL := ?hL2)
 case hL2 => exact ⟨⟨_, rfl⟩, trivial⟩
 case ho2 => exact ag (aq (fun w' h => ex_loadQ h 0 rfl rfl rfl rfl) (ac (fun w' h => eC call83 (C0.out w' (h.one 3 rfl))) (ac (fun w' h => eC call65 (C1.out w')) (ac (fun w' h => eC call42 (C2.out w')) (am (zF rfl) (ak (fun J => ⟨rfl, rfl, rfl, fun w' h => zJ h rfl rfl rfl⟩) trivial))))))
 intro J w2 l hM hl
 have H2 : Hid (Mm w2 ([(J 5, zB x)] ++ _) ∧ _) := wB H1 hM hl [5]
 have o2_5 := vB H1 hM hl 5
 clear hM hl l H1
 generalize J 5 = J2_5 at H2 o2_5 ⊢
 clear J
 refine rN (wp_seq ?_)
 refine zQ 8 [.q (PT J1_0 0), .q (PT g 0), .q (N a), .q (N x), .call (N ee), .call (N r), .made zero6 24, .laid 6 zero6 (zB r)] (sB H2) ?ho3 ?he3 (hL := ?hL3)
 case hL3 => exact ⟨⟨_, rfl⟩, trivial⟩
 case ho3 => exact ag (aq (fun w' h => ex_loadQ h 1 rfl rfl rfl rfl) (bN 2 (bN 0 (ac (fun w' h => eC call82 (C3.out w')) (ac (fun w' h => eC call81 (C4.out w' (h.one 4 rfl))) (am (zF rfl) (ak (fun J => ⟨rfl, rfl, rfl, fun w' h => zJ h rfl rfl rfl⟩) trivial)))))))
 intro J w3 l hM hl
 have H3 : Hid (Mm w3 ([(J 6, zB r)] ++ _) ∧ _) := wB H2 hM hl [6]
 have o3_6 := vB H2 hM hl 6
 clear hM hl l H2
 generalize J 6 = J3_6 at H3 o3_6 ⊢
 clear J
 refine rN (wp_seq ?_)
 refine walk_put2 (by kernel_rfl) 8 [6, 7] [.q (N r), .q (PT J1_0 0), .q (PT g 0), .q (N r), .q (N r), .call (N q), .q (N a), .q (.bool false)] _ ?pre4 ?F4 _ ?hpre4 (fun J => ?hF4) (by kernel_rfl) rfl trivial (sB H3) ?ho4 ?hla4 ?he4
 case hpre4 => simp only [tk, tz]; rfl
 case hF4 => simp only [yB, Kind.val, Act.put, sa, sz, ss]; rfl
 case ho4 =>
  refine bN 0 ?_
  refine ag ?_
  refine aq (fun w' h => ex_loadQ h 2 rfl rfl rfl rfl) ?_
  refine bN 0 ?_
  refine bN 0 ?_
  refine ak (fun J => ⟨rfl, fun w' h => eC call54 (C5.out w' (h.one 5 rfl))⟩) ?_
  refine bN 3 ?_
  refine ak (fun J => ⟨rfl, fun w' _ => exec_eq6 e1 rfl rfl rfl⟩) ?_
  exact trivial
 case hla4 => exact rfl
 intro J w4 l hM hl
 have H4 := keepB H3 hM.below
 clear hM hl l H3 J
 have H5 : Hid (Mm (w4.setCells J1_2 0 (zB r)) [(J3_6, zB r), (J2_5, zB x), (J1_0, [PT g 0]), (J1_1, zB a), (J1_2, zB r), (g, zR n o s)] ∧ Below w.heap.size w (w4.setCells J1_2 0 (zB r))) := ⟨H4.out.1.put 4 (off := 0) (vs := zB r) rfl (Nat.le_of_ble_eq_true rfl), zP _ o1_2.out _ _ _ H4.out.2⟩
 refine ⟨_, zM H4.out.1 4 rfl rfl rfl rfl (Nat.le_of_ble_eq_true rfl), ⟨⟨_, _, rfl, rfl, rfl, zY H5.out.1 3 rfl rfl rfl rfl⟩, ⟨_, _, rfl, rfl, rfl, by first | rfl | go_simp⟩, trivial⟩, ?_⟩
 clear H4
 generalize hgw : World.setCells _ _ _ _ = w5 at H5 ⊢
 clear hgw
 refine zG (l := [9]) rfl ?_
 refine zN (d := 5) rfl rfl rfl rfl ?_
 simp only [Act.put, sa, sz, ss]
 refine zE (zA (wp_ret ?_))
 repeat (first | refine zK ?_ | refine zI ?_)
 have c0 := H5.out.1.get 4 rfl 0 rfl
 have c1 := H5.out.1.get 4 rfl 1 rfl
 have c2 := H5.out.1.get 4 rfl 2 rfl
 have c3 := H5.out.1.get 4 rfl 3 rfl
 have c4 := H5.out.1.get 4 rfl 4 rfl
 have c5 := H5.out.1.get 4 rfl 5 rfl
 refine bodyPost_ret (v := .tuple #[N r, .bool false]) (by simp [results, Tryz.results57, go_sem, *]) rfl ?_
 exact ⟨rfl, H5.out.2⟩
set_option maxHeartbeats 1000000 in
theorem rootN_1 (g n o s a r : Nat)
  (c0 : ∀ w, Mm w [(g, zR n o s)] → Calls Tryz.prog 57 #[.agg #[PT g 0], N a] w (Rt w (.tuple #[N r, .bool true]))) (w : World) (hm : Mm w [(g, zR n o s)]) :
  Calls Tryz.prog 55 #[.agg #[PT g 0], N a] w (Rt w (V [r, 0])) := by
 have H0 : Hid (_ ∧ _) := ⟨hm, Below.refl w.heap.size w⟩
 clear hm
 have C0 : Hid _ := c0
 clear c0
 go_enter Tryz.func55, Tryz.ntmps55
 refine wp_seq ?_
 refine zD 3 [.made [PT g 0] 42, .made (zB a) 24, .made (cel [0, 0]) 26] (sB H0) ?ho1 ?he1
 case ho1 => exact am (ex_boxF rfl rfl) (am (zU rfl rfl) (am (zO rfl) trivial))
 intro J w1 l hM hl
 have H1 : Hid (Mm w1 ([(J 0, [PT g 0]), (J 1, zB a), (J 2, cel [0, 0])] ++ _) ∧ _) := wB H0 hM hl [0, 1, 2]
 have o1_0 := vB H0 hM hl 0
 have o1_1 := vB H0 hM hl 1
 have o1_2 := vB H0 hM hl 2
 clear hM hl l
 generalize J 0 = J1_0 at H1 o1_0 ⊢
 generalize J 1 = J1_1 at H1 o1_1 ⊢
 generalize J 2 = J1_2 at H1 o1_2 ⊢
 clear J
 refine rN (wp_seq ?_)
 refine zD 9 [.q (.agg #[PT g 0]), .q (N a), .call (.tuple #[N r, .bool true]), .q (.tuple #[N r, .bool true]), .q (N r), .q (.bool true), .made zero6 24, .laid 6 zero6 (zB r), .q (.bool true)] (sB H1) ?ho2 ?he2 (hL := ?hL2)
 case hL2 => exact ⟨⟨_, rfl⟩, trivial⟩
 case ho2 => exact aq (fun w' h => ex_loadF h 0 rfl rfl rfl rfl) (bN 1 (ac (fun w' h => eC call57 (C0.out w' (h.one 3 rfl))) (ar (ag (ag (am (zF rfl) (ak (fun J => ⟨rfl, rfl, rfl, fun w' h => zJ h rfl rfl rfl⟩) (ar trivial))))))))
 intro J w2 l hM hl
 have H2 : Hid (Mm w2 ([(J 6, zB r)] ++ _) ∧ _) := wB H1 hM hl [6]
 have o2_6 := vB H1 hM hl 6
 clear hM hl l H1
 generalize J 6 = J2_6 at H2 o2_6 ⊢
 clear J
 refine rN (wp_seq (wp_seq ?_))
 refine zC 2 [.q (.bool true), .q (.bool false)] H2 ?ho3 ?he3
 case ho3 => exact ar (ag trivial)
 intro _ w3 H3
 clear H2
 refine rN (wp_cond_false rfl ?_)
 refine wp_skip (zA (wp_seq ?_))
 refine zC 2 [.q (N r), .q (V [r, 0])] H3 ?ho4 ?he4
 case ho4 => exact bN 0 (ak (fun J => ⟨rfl, fun w' _ => ex_buildE2a rfl rfl⟩) trivial)
 intro _ w4 H4
 clear H3
 refine zG (l := [2]) rfl ?_
 refine sF 3 [r, 0] [_, _, _, _, _] H4 o1_2 As26 fun w5 H5 => ?_
 clear H4
 refine zE (zA (wp_ret ?_))
 repeat (first | refine zK ?_ | refine zI ?_)
 have hf0 := cel_var (k := 2) H5.out.1 3 rfl Ai26 As26 rfl
 refine bodyPost_ret (v := V [r, 0]) (by simp [results, Tryz.results55, asAddr, hf0]) rfl ?_
 exact ⟨rfl, H5.out.2⟩
set_option maxHeartbeats 1000000 in
theorem rootN_2 (g n o s a r : Nat)
  (c0 : ∀ w, Mm w [(g, zR n o s)] → Calls Tryz.prog 57 #[.agg #[PT g 0], N a] w (Rt w (.tuple #[N r, .bool false]))) (w : World) (hm : Mm w [(g, zR n o s)]) :
  Calls Tryz.prog 55 #[.agg #[PT g 0], N a] w (Rt w (V [0, r])) := by
 have H0 : Hid (_ ∧ _) := ⟨hm, Below.refl w.heap.size w⟩
 clear hm
 have C0 : Hid _ := c0
 clear c0
 go_enter Tryz.func55, Tryz.ntmps55
 refine wp_seq ?_
 refine zD 3 [.made [PT g 0] 42, .made (zB a) 24, .made (cel [0, 0]) 26] (sB H0) ?ho1 ?he1
 case ho1 => exact am (ex_boxF rfl rfl) (am (zU rfl rfl) (am (zO rfl) trivial))
 intro J w1 l hM hl
 have H1 : Hid (Mm w1 ([(J 0, [PT g 0]), (J 1, zB a), (J 2, cel [0, 0])] ++ _) ∧ _) := wB H0 hM hl [0, 1, 2]
 have o1_0 := vB H0 hM hl 0
 have o1_1 := vB H0 hM hl 1
 have o1_2 := vB H0 hM hl 2
 clear hM hl l
 generalize J 0 = J1_0 at H1 o1_0 ⊢
 generalize J 1 = J1_1 at H1 o1_1 ⊢
 generalize J 2 = J1_2 at H1 o1_2 ⊢
 clear J
 refine rN (wp_seq ?_)
 refine zD 9 [.q (.agg #[PT g 0]), .q (N a), .call (.tuple #[N r, .bool false]), .q (.tuple #[N r, .bool false]), .q (N r), .q (.bool false), .made zero6 24, .laid 6 zero6 (zB r), .q (.bool false)] (sB H1) ?ho2 ?he2 (hL := ?hL2)
 case hL2 => exact ⟨⟨_, rfl⟩, trivial⟩
 case ho2 => exact aq (fun w' h => ex_loadF h 0 rfl rfl rfl rfl) (bN 1 (ac (fun w' h => eC call57 (C0.out w' (h.one 3 rfl))) (ar (ag (ag (am (zF rfl) (ak (fun J => ⟨rfl, rfl, rfl, fun w' h => zJ h rfl rfl rfl⟩) (ar trivial))))))))
 intro J w2 l hM hl
 have H2 : Hid (Mm w2 ([(J 6, zB r)] ++ _) ∧ _) := wB H1 hM hl [6]
 have o2_6 := vB H1 hM hl 6
 clear hM hl l H1
 generalize J 6 = J2_6 at H2 o2_6 ⊢
 clear J
 refine rN (wp_seq (wp_seq ?_))
 refine zC 2 [.q (.bool false), .q (.bool true)] H2 ?ho3 ?he3
 case ho3 => exact ar (ag trivial)
 intro _ w3 H3
 clear H2
 refine rN (wp_cond_true rfl (wp_seq ?_))
 refine zC 3 [.q (N 0), .q (N r), .q (V [0, r])] H3 ?ho4 ?he4
 case ho4 => exact ak (by refine fun J => ⟨rfl, fun w' h => ?_⟩; clear h; exact ex_zero6 rfl) (bN 0 (ak (fun J => ⟨rfl, fun w' _ => yC rfl rfl rfl⟩) trivial))
 intro _ w4 H4
 clear H3
 refine zG (l := [3]) rfl ?_
 refine sF 3 [0, r] [_, _, _, _, _] H4 o1_2 As26 fun w5 H5 => ?_
 clear H4
 refine zE (zA (wp_ret ?_))
 repeat (first | refine zK ?_ | refine zI ?_)
 have hf0 := cel_var (k := 2) H5.out.1 3 rfl Ai26 As26 rfl
 refine bodyPost_ret (v := V [0, r]) (by simp [results, Tryz.results55, asAddr, hf0]) rfl ?_
 exact ⟨rfl, H5.out.2⟩
set_option maxHeartbeats 1000000 in
theorem half_1 (g n o s a x r : Nat)
  (c0 : ∀ w, Calls Tryz.prog 84 #[N a, .int .i64 0] w (Rt w (.int .i64 1)))
  (c1 : ∀ w, Mm w [(g, zR n o s)] → Calls Tryz.prog 83 #[PT g 0] w (Rt w (N n)))
  (c2 : ∀ w, Calls Tryz.prog 42 #[N a, N n] w (Rt w (N x)))
  (c3 : ∀ w, Calls Tryz.prog 82 #[N x, .int .i64 (-1)] w (Rt w (N r))) (w : World) (hm : Mm w [(g, zR n o s)]) :
  Calls Tryz.prog 58 #[.agg #[PT g 0], N a] w (Rt w (N r)) := by
 have H0 : Hid (_ ∧ _) := ⟨hm, Below.refl w.heap.size w⟩
 clear hm
 have C0 : Hid _ := c0
 have C1 : Hid _ := c1
 have C2 : Hid _ := c2
 have C3 : Hid _ := c3
 clear c0 c1 c2 c3
 go_enter Tryz.func58, Tryz.ntmps58
 refine wp_seq ?_
 refine zD 3 [.made [PT g 0] 42, .made (zB a) 24, .made zero6 24] (sB H0) ?ho1 ?he1
 case ho1 => exact am (ex_boxF rfl rfl) (am (zU rfl rfl) (am (zF rfl) trivial))
 intro J w1 l hM hl
 have H1 : Hid (Mm w1 ([(J 0, [PT g 0]), (J 1, zB a), (J 2, zero6)] ++ _) ∧ _) := wB H0 hM hl [0, 1, 2]
 have o1_0 := vB H0 hM hl 0
 have o1_1 := vB H0 hM hl 1
 have o1_2 := vB H0 hM hl 2
 clear hM hl l
 generalize J 0 = J1_0 at H1 o1_0 ⊢
 generalize J 1 = J1_1 at H1 o1_1 ⊢
 generalize J 2 = J1_2 at H1 o1_2 ⊢
 clear J
 refine rN (wp_seq (wp_seq ?_))
 refine zC 3 [.q (N a), .call (.int .i64 1), .q (.bool true)] H1 ?ho2 ?he2
 case ho2 => exact bN 1 (ac (fun w' h => eC call84 (C0.out w')) (ag trivial))
 intro _ w2 H2
 clear H1
 refine rN (wp_cond_true rfl ?_)
 refine zS 5 [.q (N a), .q (PT J1_0 0), .q (PT g 0), .call (N n), .call (N x)] H2 ?ho3 ?he3
 case ho3 => exact bN 1 (ag (aq (fun w' h => ex_loadQ h 0 rfl rfl rfl rfl) (ac (fun w' h => eC call83 (C1.out w' (h.one 3 rfl))) (ac (fun w' h => eC call42 (C2.out w')) trivial))))
 intro _ w3 H3
 clear H2
 refine zG (l := [5]) rfl ?_
 refine sG rfl (fun h => zM h 1 rfl rfl rfl rfl (Nat.le_of_ble_eq_true rfl)) 1 [_, (_, zB x), _, _] H3 o1_1 fun w4 H4 => ?_
 clear H3
 refine zE (zA (wp_seq ?_))
 refine zC 2 [.q (N x), .call (N r)] H4 ?ho4 ?he4
 case ho4 => exact bN 1 (ac (fun w' h => eC call82 (C3.out w')) trivial)
 intro _ w5 H5
 clear H4
 refine zG (l := [2]) rfl ?_
 refine sG rfl (fun h => zM h 2 rfl rfl rfl rfl (Nat.le_of_ble_eq_true rfl)) 2 [_, _, (_, zB r), _] H5 o1_2 fun w6 H6 => ?_
 clear H5
 refine zE (zA (wp_ret ?_))
 repeat (first | refine zK ?_ | refine zI ?_)
 have c0 := H6.out.1.get 2 rfl 0 rfl
 have c1 := H6.out.1.get 2 rfl 1 rfl
 have c2 := H6.out.1.get 2 rfl 2 rfl
 have c3 := H6.out.1.get 2 rfl 3 rfl
 have c4 := H6.out.1.get 2 rfl 4 rfl
 have c5 := H6.out.1.get 2 rfl 5 rfl
 refine bodyPost_ret (v := N r) (by simp [results, Tryz.results58, go_sem, *]) rfl ?_
 exact ⟨rfl, H6.out.2⟩
set_option maxHeartbeats 1000000 in
theorem half_2 (g n o s a r : Nat)
  (c0 : ∀ w, Calls Tryz.prog 84 #[N a, .int .i64 0] w (Rt w (.int .i64 0)))
  (c1 : ∀ w, Calls Tryz.prog 82 #[N a, .int .i64 (-1)] w (Rt w (N r))) (w : World) (hm : Mm w [(g, zR n o s)]) :
  Calls Tryz.prog 58 #[.agg #[PT g 0], N a] w (Rt w (N r)) := by
 have H0 : Hid (_ ∧ _) := ⟨hm, Below.refl w.heap.size w⟩
 clear hm
 have C0 : Hid _ := c0
 have C1 : Hid _ := c1
 clear c0 c1
 go_enter Tryz.func58, Tryz.ntmps58
 refine wp_seq ?_
 refine zD 3 [.made [PT g 0] 42, .made (zB a) 24, .made zero6 24] (sB H0) ?ho1 ?he1
 case ho1 => exact am (ex_boxF rfl rfl) (am (zU rfl rfl) (am (zF rfl) trivial))
 intro J w1 l hM hl
 have H1 : Hid (Mm w1 ([(J 0, [PT g 0]), (J 1, zB a), (J 2, zero6)] ++ _) ∧ _) := wB H0 hM hl [0, 1, 2]
 have o1_0 := vB H0 hM hl 0
 have o1_1 := vB H0 hM hl 1
 have o1_2 := vB H0 hM hl 2
 clear hM hl l
 generalize J 0 = J1_0 at H1 o1_0 ⊢
 generalize J 1 = J1_1 at H1 o1_1 ⊢
 generalize J 2 = J1_2 at H1 o1_2 ⊢
 clear J
 refine rN (wp_seq (wp_seq ?_))
 refine zC 3 [.q (N a), .call (.int .i64 0), .q (.bool false)] H1 ?ho2 ?he2
 case ho2 => exact bN 1 (ac (fun w' h => eC call84 (C0.out w')) (ag trivial))
 intro _ w2 H2
 clear H1
 refine rN (wp_cond_false rfl ?_)
 refine wp_skip (zA (wp_seq ?_))
 refine zC 2 [.q (N a), .call (N r)] H2 ?ho3 ?he3
 case ho3 => exact bN 1 (ac (fun w' h => eC call82 (C1.out w')) trivial)
 intro _ w3 H3
 clear H2
 refine zG (l := [2]) rfl ?_
 refine sG rfl (fun h => zM h 2 rfl rfl rfl rfl (Nat.le_of_ble_eq_true rfl)) 2 [_, _, (_, zB r), _] H3 o1_2 fun w4 H4 => ?_
 clear H3
 refine zE (zA (wp_ret ?_))
 repeat (first | refine zK ?_ | refine zI ?_)
 have c0 := H4.out.1.get 2 rfl 0 rfl
 have c1 := H4.out.1.get 2 rfl 1 rfl
 have c2 := H4.out.1.get 2 rfl 2 rfl
 have c3 := H4.out.1.get 2 rfl 3 rfl
 have c4 := H4.out.1.get 2 rfl 4 rfl
 have c5 := H4.out.1.get 2 rfl 5 rfl
 refine bodyPost_ret (v := N r) (by simp [results, Tryz.results58, go_sem, *]) rfl ?_
 exact ⟨rfl, H4.out.2⟩
set_option maxHeartbeats 2000000 in
theorem root2_1 (g n o s a0 a1 r0 r1 : Nat) (e1 : ∀ w, (Op.equalIn 10000 24 (N a1) (N 0)).run Tryz.prog w = .ok true w)
  (c0 : ∀ w, Mm w [(g, zR n o s)] → Calls Tryz.prog 55 #[.agg #[PT g 0], N a0] w (Rt w (V [r0, r1]))) (w : World) (hm : Mm w [(g, zR n o s), (0, dtab)]) :
  Calls Tryz.prog 32 #[.agg #[PT g 0], V [a0, a1]] w (Rt w (.tuple #[V [r0, r1], .int .i64 0])) := by
 have H0 : Hid (_ ∧ _) := ⟨hm, Below.refl w.heap.size w⟩
 clear hm
 have C0 : Hid _ := c0
 clear c0
 go_enter Tryz.func32, Tryz.ntmps32
 refine wp_seq ?_
 refine zD 4 [.made [PT g 0] 42, .made (cel [a0, a1]) 26, .made (cel [0, 0]) 26, .q (.int .i64 0)] (sB H0) ?ho1 ?he1
 case ho1 => exact am (ex_boxF rfl rfl) (am (zV rfl rfl) (am (zO rfl) (ar trivial)))
 intro J w1 l hM hl
 have H1 : Hid (Mm w1 ([(J 0, [PT g 0]), (J 1, cel [a0, a1]), (J 2, cel [0, 0])] ++ _) ∧ _) := wB H0 hM hl [0, 1, 2]
 have o1_0 := vB H0 hM hl 0
 have o1_1 := vB H0 hM hl 1
 have o1_2 := vB H0 hM hl 2
 clear hM hl l
 generalize J 0 = J1_0 at H1 o1_0 ⊢
 generalize J 1 = J1_1 at H1 o1_1 ⊢
 generalize J 2 = J1_2 at H1 o1_2 ⊢
 clear J
 refine rN (wp_seq (wp_seq ?_))
 refine zC 4 [.q (PT J1_1 6), .q (N a1), .q (N 0), .q (.bool true)] H1 ?ho2 ?he2
 case ho2 => exact ag (aq (fun w' h => zH (i := 1) h 1 rfl rfl rfl rfl) (ak (by refine fun J => ⟨rfl, fun w' h => ?_⟩; clear h; exact ex_zero6 rfl) (ak (fun J => ⟨rfl, fun w' _ => exec_eq6 e1 rfl rfl rfl⟩) trivial)))
 intro _ w2 H2
 clear H1
 refine rN (wp_cond_true rfl (wp_seq ?_))
 refine zC 4 [.q (.agg #[PT g 0]), .q (PT J1_1 0), .q (N a0), .call (V [r0, r1])] H2 ?ho3 ?he3
 case ho3 => exact aq (fun w' h => ex_loadF h 0 rfl rfl rfl rfl) (ag (aq (fun w' h => zH (i := 0) h 1 rfl rfl rfl rfl) (ac (fun w' h => eC call55 (C0.out w' (h.one 3 rfl))) trivial)))
 intro _ w3 H3
 clear H2
 refine zG (l := [4, 5]) rfl ?_
 refine sF 2 [r0, r1] [_, _, _, _, _] H3 o1_2 As26 fun w4 H4 => ?_
 clear H3
 refine zN (d := 5) rfl rfl rfl rfl ?_
 simp only [Act.put, sa, sz, ss]
 refine zE (zA (wp_ret ?_))
 repeat (first | refine zK ?_ | refine zI ?_)
 have hf0 := cel_var (k := 2) H4.out.1 2 rfl Ai26 As26 rfl
 refine bodyPost_ret (v := .tuple #[V [r0, r1], .int .i64 0]) (by simp [results, Tryz.results32, asAddr, Act.eval, hf0]) rfl ?_
 exact ⟨rfl, H4.out.2⟩
set_option maxHeartbeats 2000000 in
theorem root2_2 (g n o s a0 a1 q sq : Nat) (e1 : ∀ w, (Op.equalIn 10000 24 (N a1) (N 0)).run Tryz.prog w = .ok false w)
  (c0 : ∀ w, Mm w [(g, zR n o s)] → Calls Tryz.prog 53 #[.agg #[PT g 0], V [a0, a1]] w (Rt w (N q)))
  (c1 : ∀ w, Mm w [(g, zR n o s)] → Calls Tryz.prog 56 #[PT g 0, N q] w (Rt w (.tuple #[N sq, .int .i64 6]))) (w : World) (hm : Mm w [(g, zR n o s), (0, dtab)]) :
  Calls Tryz.prog 32 #[.agg #[PT g 0], V [a0, a1]] w (Rt w (.tuple #[V [0, 0], .int .i64 6])) := by
 have H0 : Hid (_ ∧ _) := ⟨hm, Below.refl w.heap.size w⟩
 clear hm
 have C0 : Hid _ := c0
 have C1 : Hid _ := c1
 clear c0 c1
 go_enter Tryz.func32, Tryz.ntmps32
 refine wp_seq ?_
 refine zD 4 [.made [PT g 0] 42, .made (cel [a0, a1]) 26, .made (cel [0, 0]) 26, .q (.int .i64 0)] (sB H0) ?ho1 ?he1
 case ho1 => exact am (ex_boxF rfl rfl) (am (zV rfl rfl) (am (zO rfl) (ar trivial)))
 intro J w1 l hM hl
 have H1 : Hid (Mm w1 ([(J 0, [PT g 0]), (J 1, cel [a0, a1]), (J 2, cel [0, 0])] ++ _) ∧ _) := wB H0 hM hl [0, 1, 2]
 have o1_0 := vB H0 hM hl 0
 have o1_1 := vB H0 hM hl 1
 have o1_2 := vB H0 hM hl 2
 clear hM hl l
 generalize J 0 = J1_0 at H1 o1_0 ⊢
 generalize J 1 = J1_1 at H1 o1_1 ⊢
 generalize J 2 = J1_2 at H1 o1_2 ⊢
 clear J
 refine rN (wp_seq (wp_seq ?_))
 refine zC 4 [.q (PT J1_1 6), .q (N a1), .q (N 0), .q (.bool false)] H1 ?ho2 ?he2
 case ho2 => exact ag (aq (fun w' h => zH (i := 1) h 1 rfl rfl rfl rfl) (ak (by refine fun J => ⟨rfl, fun w' h => ?_⟩; clear h; exact ex_zero6 rfl) (ak (fun J => ⟨rfl, fun w' _ => exec_eq6 e1 rfl rfl rfl⟩) trivial)))
 intro _ w2 H2
 clear H1
 refine rN (wp_cond_false rfl ?_)
 refine wp_skip (zA (wp_seq ?_))
 refine zQ 12 [.q (PT J1_0 0), .q (PT g 0), .q (.agg #[PT g 0]), .q (V [a0, a1]), .call (N q), .call (.tuple #[N sq, .int .i64 6]), .q (.tuple #[N sq, .int .i64 6]), .q (N sq), .q (.int .i64 6), .made zero6 24, .laid 9 zero6 (zB sq), .q (.int .i64 6)] (sB H2) ?ho3 ?he3 (hL := ?hL3)
 case hL3 => exact ⟨⟨_, rfl⟩, trivial⟩
 case ho3 => exact ag (aq (fun w' h => ex_loadQ h 0 rfl rfl rfl rfl) (aq (fun w' h => ex_loadF h 0 rfl rfl rfl rfl) (bA 0 2 1 Ai26 As26 (ac (fun w' h => eC call53 (C0.out w' (h.one 3 rfl))) (ac (fun w' h => eC call56 (C1.out w' (h.one 3 rfl))) (ar (ag (ag (am (zF rfl) (ak (fun J => ⟨rfl, rfl, rfl, fun w' h => zJ h rfl rfl rfl⟩) (ar trivial)))))))))))
 intro J w3 l hM hl
 have H3 : Hid (Mm w3 ([(J 9, zB sq)] ++ _) ∧ _) := wB H2 hM hl [9]
 have o3_9 := vB H2 hM hl 9
 clear hM hl l H2
 generalize J 9 = J3_9 at H3 o3_9 ⊢
 clear J
 refine rN (wp_seq (wp_seq ?_))
 refine zC 2 [.q (.int .i64 6), .q (.bool true)] H3 ?ho4 ?he4
 case ho4 => exact ar (ag trivial)
 intro _ w4 H4
 clear H3
 refine rN (wp_cond_true rfl (wp_seq ?_))
 refine zC 2 [.q (V [0, 0]), .q (.int .i64 6)] H4 ?ho5 ?he5
 case ho5 => exact ak (fun J => ⟨rfl, fun w' _ => ex_buildE2z rfl⟩) (ar trivial)
 intro _ w5 H5
 clear H4
 refine zG (l := [2, 3]) rfl ?_
 refine sF 3 [0, 0] [_, _, _, _, _, _] H5 o1_2 As26 fun w6 H6 => ?_
 clear H5
 refine zN (d := 5) rfl rfl rfl rfl ?_
 simp only [Act.put, sa, sz, ss]
 refine zE (zA (wp_ret ?_))
 repeat (first | refine zK ?_ | refine zI ?_)
 have hf0 := cel_var (k := 2) H6.out.1 3 rfl Ai26 As26 rfl
 refine bodyPost_ret (v := .tuple #[V [0, 0], .int .i64 6]) (by simp [results, Tryz.results32, asAddr, Act.eval, hf0]) rfl ?_
 exact ⟨rfl, H6.out.2⟩
set_option maxHeartbeats 2000000 in
theorem root2_3 (g n o s a0 a1 q sq x y p d i t : Nat) (ie : Int) (e1 : ∀ w, (Op.equalIn 10000 24 (N a1) (N 0)).run Tryz.prog w = .ok false w)
  (c0 : ∀ w, Mm w [(g, zR n o s)] → Calls Tryz.prog 53 #[.agg #[PT g 0], V [a0, a1]] w (Rt w (N q)))
  (c1 : ∀ w, Mm w [(g, zR n o s)] → Calls Tryz.prog 56 #[PT g 0, N q] w (Rt w (.tuple #[N sq, .int .i64 0])))
  (c2 : ∀ w, Calls Tryz.prog 22 #[N a0, N sq] w (Rt w (N x)))
  (c3 : ∀ w, Mm w [(g, zR n o s)] → Calls Tryz.prog 58 #[.agg #[PT g 0], N x] w (Rt w (N y)))
  (c4 : ∀ w, Mm w [(g, zR n o s)] → Calls Tryz.prog 57 #[.agg #[PT g 0], N y] w (Rt w (.tuple #[N p, .bool true])))
  (c5 : ∀ w, Calls Tryz.prog 22 #[N p, N p] w (Rt w (N d)))
  (c6 : ∀ w, Mm w [(g, zR n o s), (0, dtab)] → Calls Tryz.prog 52 #[PT g 0, N d] w (Rt w (.tuple #[N i, .int .i64 ie])))
  (c7 : ∀ w, Mm w [(g, zR n o s)] → Calls Tryz.prog 54 #[PT g 0, N a1, N i] w (Rt w (N t))) (w : World) (hm : Mm w [(g, zR n o s), (0, dtab)]) :
  Calls Tryz.prog 32 #[.agg #[PT g 0], V [a0, a1]] w (Rt w (.tuple #[V [p, t], .int .i64 0])) := by
 have H0 : Hid (_ ∧ _) := ⟨hm, Below.refl w.heap.size w⟩
 clear hm
 have C0 : Hid _ := c0
 have C1 : Hid _ := c1
 have C2 : Hid _ := c2
 have C3 : Hid _ := c3
 have C4 : Hid _ := c4
 have C5 : Hid _ := c5
 have C6 : Hid _ := c6
 have C7 : Hid _ := c7
 clear c0 c1 c2 c3 c4 c5 c6 c7
 go_enter Tryz.func32, Tryz.ntmps32
 refine wp_seq ?_
 refine zD 4 [.made [PT g 0] 42, .made (cel [a0, a1]) 26, .made (cel [0, 0]) 26, .q (.int .i64 0)] (sB H0) ?ho1 ?he1
 case ho1 => exact am (ex_boxF rfl rfl) (am (zV rfl rfl) (am (zO rfl) (ar trivial)))
 intro J w1 l hM hl
 have H1 : Hid (Mm w1 ([(J 0, [PT g 0]), (J 1, cel [a0, a1]), (J 2, cel [0, 0])] ++ _) ∧ _) := wB H0 hM hl [0, 1, 2]
 have o1_0 := vB H0 hM hl 0
 have o1_1 := vB H0 hM hl 1
 have o1_2 := vB H0 hM hl 2
 clear hM hl l
 generalize J 0 = J1_0 at H1 o1_0 ⊢
 generalize J 1 = J1_1 at H1 o1_1 ⊢
 generalize J 2 = J1_2 at H1 o1_2 ⊢
 clear J
 refine rN (wp_seq (wp_seq ?_))
 refine zC 4 [.q (PT J1_1 6), .q (N a1), .q (N 0), .q (.bool false)] H1 ?ho2 ?he2
 case ho2 => exact ag (aq (fun w' h => zH (i := 1) h 1 rfl rfl rfl rfl) (ak (by refine fun J => ⟨rfl, fun w' h => ?_⟩; clear h; exact ex_zero6 rfl) (ak (fun J => ⟨rfl, fun w' _ => exec_eq6 e1 rfl rfl rfl⟩) trivial)))
 intro _ w2 H2
 clear H1
 refine rN (wp_cond_false rfl ?_)
 refine wp_skip (zA (wp_seq ?_))
 refine zQ 12 [.q (PT J1_0 0), .q (PT g 0), .q (.agg #[PT g 0]), .q (V [a0, a1]), .call (N q), .call (.tuple #[N sq, .int .i64 0]), .q (.tuple #[N sq, .int .i64 0]), .q (N sq), .q (.int .i64 0), .made zero6 24, .laid 9 zero6 (zB sq), .q (.int .i64 0)] (sB H2) ?ho3 ?he3 (hL := ?hL3)
 case hL3 => exact ⟨⟨_, rfl⟩, trivial⟩
 case ho3 => exact ag (aq (fun w' h => ex_loadQ h 0 rfl rfl rfl rfl) (aq (fun w' h => ex_loadF h 0 rfl rfl rfl rfl) (bA 0 2 1 Ai26 As26 (ac (fun w' h => eC call53 (C0.out w' (h.one 3 rfl))) (ac (fun w' h => eC call56 (C1.out w' (h.one 3 rfl))) (ar (ag (ag (am (zF rfl) (ak (fun J => ⟨rfl, rfl, rfl, fun w' h => zJ h rfl rfl rfl⟩) (ar trivial)))))))))))
 intro J w3 l hM hl
 have H3 : Hid (Mm w3 ([(J 9, zB sq)] ++ _) ∧ _) := wB H2 hM hl [9]
 have o3_9 := vB H2 hM hl 9
 clear hM hl l H2
 generalize J 9 = J3_9 at H3 o3_9 ⊢
 clear J
 refine rN (wp_seq (wp_seq ?_))
 refine zC 2 [.q (.int .i64 0), .q (.bool false)] H3 ?ho4 ?he4
 case ho4 => exact ar (ag trivial)
 intro _ w4 H4
 clear H3
 refine rN (wp_cond_false rfl ?_)
 refine wp_skip (zA (wp_seq ?_))
 refine zQ 14 [.q (.agg #[PT g 0]), .q (.agg #[PT g 0]), .q (PT J1_1 0), .q (N a0), .q (N sq), .call (N x), .call (N y), .call (.tuple #[N p, .bool true]), .q (.tuple #[N p, .bool true]), .q (N p), .q (.bool true), .made zero6 24, .laid 11 zero6 (zB p), .q (.bool true)] (sB H4) ?ho5 ?he5 (hL := ?hL5)
 case hL5 => exact ⟨⟨_, rfl⟩, trivial⟩
 case ho5 => exact aq (fun w' h => ex_loadF h 1 rfl rfl rfl rfl) (aq (fun w' h => ex_loadF h 1 rfl rfl rfl rfl) (ag (aq (fun w' h => zH (i := 0) h 2 rfl rfl rfl rfl) (bN 0 (ac (fun w' h => eC call22 (C2.out w')) (ac (fun w' h => eC call58 (C3.out w' (h.one 4 rfl))) (ac (fun w' h => eC call57 (C4.out w' (h.one 4 rfl))) (ar (ag (ag (am (zF rfl) (ak (fun J => ⟨rfl, rfl, rfl, fun w' h => zJ h rfl rfl rfl⟩) (ar trivial)))))))))))))
 intro J w5 l hM hl
 have H5 : Hid (Mm w5 ([(J 11, zB p)] ++ _) ∧ _) := wB H4 hM hl [11]
 have o5_11 := vB H4 hM hl 11
 clear hM hl l H4
 generalize J 11 = J5_11 at H5 o5_11 ⊢
 clear J
 refine rN (wp_seq ?_)
 refine zQ 12 [.q (PT J1_0 0), .q (PT g 0), .q (N p), .q (N p), .call (N d), .call (.tuple #[N i, .int .i64 ie]), .q (.tuple #[N i, .int .i64 ie]), .q (N i), .q (.int .i64 ie), .made zero6 24, .laid 9 zero6 (zB i), .q (.int .i64 ie)] (sB H5) ?ho6 ?he6 (hL := ?hL6)
 case hL6 => exact ⟨⟨_, rfl⟩, trivial⟩
 case ho6 => exact ag (aq (fun w' h => ex_loadQ h 2 rfl rfl rfl rfl) (bN 0 (bN 0 (ac (fun w' h => eC call22 (C5.out w')) (ac (fun w' h => eC call52 (C6.out w' (h.two 5 6 rfl rfl (by decide)))) (ar (ag (ag (am (zF rfl) (ak (fun J => ⟨rfl, rfl, rfl, fun w' h => zJ h rfl rfl rfl⟩) (ar trivial)))))))))))
 intro J w6 l hM hl
 have H6 : Hid (Mm w6 ([(J 9, zB i)] ++ _) ∧ _) := wB H5 hM hl [9]
 have o6_9 := vB H5 hM hl 9
 clear hM hl l H5
 generalize J 9 = J6_9 at H6 o6_9 ⊢
 clear J
 refine rN (wp_seq ?_)
 refine zD 8 [.q (PT J1_0 0), .q (PT g 0), .q (PT J1_1 6), .q (N a1), .q (N i), .call (N t), .made zero6 24, .laid 6 zero6 (zB t)] (sB H6) ?ho7 ?he7 (hL := ?hL7)
 case hL7 => exact ⟨⟨_, rfl⟩, trivial⟩
 case ho7 => exact ag (aq (fun w' h => ex_loadQ h 3 rfl rfl rfl rfl) (ag (aq (fun w' h => zH (i := 1) h 4 rfl rfl rfl rfl) (bN 0 (ac (fun w' h => eC call54 (C7.out w' (h.one 6 rfl))) (am (zF rfl) (ak (fun J => ⟨rfl, rfl, rfl, fun w' h => zJ h rfl rfl rfl⟩) trivial)))))))
 intro J w7 l hM hl
 have H7 : Hid (Mm w7 ([(J 6, zB t)] ++ _) ∧ _) := wB H6 hM hl [6]
 have o7_6 := vB H6 hM hl 6
 clear hM hl l H6
 generalize J 6 = J7_6 at H7 o7_6 ⊢
 clear J
 refine rN (wp_seq (wp_seq ?_))
 refine zC 2 [.q (.bool true), .q (.bool false)] H7 ?ho8 ?he8
 case ho8 => exact ar (ag trivial)
 intro _ w8 H8
 clear H7
 refine rN (wp_cond_false rfl ?_)
 refine wp_skip (zA (wp_seq ?_))
 refine zC 3 [.q (N p), .q (N t), .q (V [p, t])] H8 ?ho9 ?he9
 case ho9 => exact bN 2 (bN 0 (ak (fun J => ⟨rfl, fun w' _ => yC rfl rfl rfl⟩) trivial))
 intro _ w9 H9
 clear H8
 refine zG (l := [3, 4]) rfl ?_
 refine sF 6 [p, t] [_, _, _, _, _, _, _, _, _] H9 o1_2 As26 fun w10 H10 => ?_
 clear H9
 refine zN (d := 5) rfl rfl rfl rfl ?_
 simp only [Act.put, sa, sz, ss]
 refine zE (zA (wp_ret ?_))
 repeat (first | refine zK ?_ | refine zI ?_)
 have hf0 := cel_var (k := 2) H10.out.1 6 rfl Ai26 As26 rfl
 refine bodyPost_ret (v := .tuple #[V [p, t], .int .i64 0]) (by simp [results, Tryz.results32, asAddr, Act.eval, hf0]) rfl ?_
 exact ⟨rfl, H10.out.2⟩
set_option maxHeartbeats 2000000 in
theorem root2_4 (g n o s a0 a1 q sq x y p d i t : Nat) (ie : Int) (e1 : ∀ w, (Op.equalIn 10000 24 (N a1) (N 0)).run Tryz.prog w = .ok false w)
  (c0 : ∀ w, Mm w [(g, zR n o s)] → Calls Tryz.prog 53 #[.agg #[PT g 0], V [a0, a1]] w (Rt w (N q)))
  (c1 : ∀ w, Mm w [(g, zR n o s)] → Calls Tryz.prog 56 #[PT g 0, N q] w (Rt w (.tuple #[N sq, .int .i64 0])))
  (c2 : ∀ w, Calls Tryz.prog 22 #[N a0, N sq] w (Rt w (N x)))
  (c3 : ∀ w, Mm w [(g, zR n o s)] → Calls Tryz.prog 58 #[.agg #[PT g 0], N x] w (Rt w (N y)))
  (c4 : ∀ w, Mm w [(g, zR n o s)] → Calls Tryz.prog 57 #[.agg #[PT g 0], N y] w (Rt w (.tuple #[N p, .bool false])))
  (c5 : ∀ w, Calls Tryz.prog 22 #[N p, N p] w (Rt w (N d)))
  (c6 : ∀ w, Mm w [(g, zR n o s), (0, dtab)] → Calls Tryz.prog 52 #[PT g 0, N d] w (Rt w (.tuple #[N i, .int .i64 ie])))
  (c7 : ∀ w, Mm w [(g, zR n o s)] → Calls Tryz.prog 54 #[PT g 0, N a1, N i] w (Rt w (N t))) (w : World) (hm : Mm w [(g, zR n o s), (0, dtab)]) :
  Calls Tryz.prog 32 #[.agg #[PT g 0], V [a0, a1]] w (Rt w (.tuple #[V [t, p], .int .i64 0])) := by
 have H0 : Hid (_ ∧ _) := ⟨hm, Below.refl w.heap.size w⟩
 clear hm
 have C0 : Hid _ := c0
 have C1 : Hid _ := c1
 have C2 : Hid _ := c2
 have C3 : Hid _ := c3
 have C4 : Hid _ := c4
 have C5 : Hid _ := c5
 have C6 : Hid _ := c6
 have C7 : Hid _ := c7
 clear c0 c1 c2 c3 c4 c5 c6 c7
 go_enter Tryz.func32, Tryz.ntmps32
 refine wp_seq ?_
 refine zD 4 [.made [PT g 0] 42, .made (cel [a0, a1]) 26, .made (cel [0, 0]) 26, .q (.int .i64 0)] (sB H0) ?ho1 ?he1
 case ho1 => exact am (ex_boxF rfl rfl) (am (zV rfl rfl) (am (zO rfl) (ar trivial)))
 intro J w1 l hM hl
 have H1 : Hid (Mm w1 ([(J 0, [PT g 0]), (J 1, cel [a0, a1]), (J 2, cel [0, 0])] ++ _) ∧ _) := wB H0 hM hl [0, 1, 2]
 have o1_0 := vB H0 hM hl 0
 have o1_1 := vB H0 hM hl 1
 have o1_2 := vB H0 hM hl 2
 clear hM hl l
 generalize J 0 = J1_0 at H1 o1_0 ⊢
 generalize J 1 = J1_1 at H1 o1_1 ⊢
 generalize J 2 = J1_2 at H1 o1_2 ⊢
 clear J
 refine rN (wp_seq (wp_seq ?_))
 refine zC 4 [.q (PT J1_1 6), .q (N a1), .q (N 0), .q (.bool false)] H1 ?ho2 ?he2
 case ho2 => exact ag (aq (fun w' h => zH (i := 1) h 1 rfl rfl rfl rfl) (ak (by refine fun J => ⟨rfl, fun w' h => ?_⟩; clear h; exact ex_zero6 rfl) (ak (fun J => ⟨rfl, fun w' _ => exec_eq6 e1 rfl rfl rfl⟩) trivial)))
 intro _ w2 H2
 clear H1
 refine rN (wp_cond_false rfl ?_)
 refine wp_skip (zA (wp_seq ?_))
 refine zQ 12 [.q (PT J1_0 0), .q (PT g 0), .q (.agg #[PT g 0]), .q (V [a0, a1]), .call (N q), .call (.tuple #[N sq, .int .i64 0]), .q (.tuple #[N sq, .int .i64 0]), .q (N sq), .q (.int .i64 0), .made zero6 24, .laid 9 zero6 (zB sq), .q (.int .i64 0)] (sB H2) ?ho3 ?he3 (hL := ?hL3)
 case hL3 => exact ⟨⟨_, rfl⟩, trivial⟩
 case ho3 => exact ag (aq (fun w' h => ex_loadQ h 0 rfl rfl rfl rfl) (aq (fun w' h => ex_loadF h 0 rfl rfl rfl rfl) (bA 0 2 1 Ai26 As26 (ac (fun w' h => eC call53 (C0.out w' (h.one 3 rfl))) (ac (fun w' h => eC call56 (C1.out w' (h.one 3 rfl))) (ar (ag (ag (am (zF rfl) (ak (fun J => ⟨rfl, rfl, rfl, fun w' h => zJ h rfl rfl rfl⟩) (ar trivial)))))))))))
 intro J w3 l hM hl
 have H3 : Hid (Mm w3 ([(J 9, zB sq)] ++ _) ∧ _) := wB H2 hM hl [9]
 have o3_9 := vB H2 hM hl 9
 clear hM hl l H2
 generalize J 9 = J3_9 at H3 o3_9 ⊢
 clear J
 refine rN (wp_seq (wp_seq ?_))
 refine zC 2 [.q (.int .i64 0), .q (.bool false)] H3 ?ho4 ?he4
 case ho4 => exact ar (ag trivial)
 intro _ w4 H4
 clear H3
 refine rN (wp_cond_false rfl ?_)
 refine wp_skip (zA (wp_seq ?_))
 refine zQ 14 [.q (.agg #[PT g 0]), .q (.agg #[PT g 0]), .q (PT J1_1 0), .q (N a0), .q (N sq), .call (N x), .call (N y), .call (.tuple #[N p, .bool false]), .q (.tuple #[N p, .bool false]), .q (N p), .q (.bool false), .made zero6 24, .laid 11 zero6 (zB p), .q (.bool false)] (sB H4) ?ho5 ?he5 (hL := ?hL5)
 case hL5 => exact ⟨⟨_, rfl⟩, trivial⟩
 case ho5 => exact aq (fun w' h => ex_loadF h 1 rfl rfl rfl rfl) (aq (fun w' h => ex_loadF h 1 rfl rfl rfl rfl) (ag (aq (fun w' h => zH (i := 0) h 2 rfl rfl rfl rfl) (bN 0 (ac (fun w' h => eC call22 (C2.out w')) (ac (fun w' h => eC call58 (C3.out w' (h.one 4 rfl))) (ac (fun w' h => eC call57 (C4.out w' (h.one 4 rfl))) (ar (ag (ag (am (zF rfl) (ak (fun J => ⟨rfl, rfl, rfl, fun w' h => zJ h rfl rfl rfl⟩) (ar trivial)))))))))))))
 intro J w5 l hM hl
 have H5 : Hid (Mm w5 ([(J 11, zB p)] ++ _) ∧ _) := wB H4 hM hl [11]
 have o5_11 := vB H4 hM hl 11
 clear hM hl l H4
 generalize J 11 = J5_11 at H5 o5_11 ⊢
 clear J
 refine rN (wp_seq ?_)
 refine zQ 12 [.q (PT J1_0 0), .q (PT g 0), .q (N p), .q (N p), .call (N d), .call (.tuple #[N i, .int .i64 ie]), .q (.tuple #[N i, .int .i64 ie]), .q (N i), .q (.int .i64 ie), .made zero6 24, .laid 9 zero6 (zB i), .q (.int .i64 ie)] (sB H5) ?ho6 ?he6 (hL := ?hL6)
 case hL6 => exact ⟨⟨_, rfl⟩, trivial⟩
 case ho6 => exact ag (aq (fun w' h => ex_loadQ h 2 rfl rfl rfl rfl) (bN 0 (bN 0 (ac (fun w' h => eC call22 (C5.out w')) (ac (fun w' h => eC call52 (C6.out w' (h.two 5 6 rfl rfl (by decide)))) (ar (ag (ag (am (zF rfl) (ak (fun J => ⟨rfl, rfl, rfl, fun w' h => zJ h rfl rfl rfl⟩) (ar trivial)))))))))))
 intro J w6 l hM hl
 have H6 : Hid (Mm w6 ([(J 9, zB i)] ++ _) ∧ _) := wB H5 hM hl [9]
 have o6_9 := vB H5 hM hl 9
 clear hM hl l H5
 generalize J 9 = J6_9 at H6 o6_9 ⊢
 clear J
 refine rN (wp_seq ?_)
 refine zD 8 [.q (PT J1_0 0), .q (PT g 0), .q (PT J1_1 6), .q (N a1), .q (N i), .call (N t), .made zero6 24, .laid 6 zero6 (zB t)] (sB H6) ?ho7 ?he7 (hL := ?hL7)
 case hL7 => exact ⟨⟨_, rfl⟩, trivial⟩
 case ho7 => exact ag (aq (fun w' h => ex_loadQ h 3 rfl rfl rfl rfl) (ag (aq (fun w' h => zH (i := 1) h 4 rfl rfl rfl rfl) (bN 0 (ac (fun w' h => eC call54 (C7.out w' (h.one 6 rfl))) (am (zF rfl) (ak (fun J => ⟨rfl, rfl, rfl, fun w' h => zJ h rfl rfl rfl⟩) trivial)))))))
 intro J w7 l hM hl
 have H7 : Hid (Mm w7 ([(J 6, zB t)] ++ _) ∧ _) := wB H6 hM hl [6]
 have o7_6 := vB H6 hM hl 6
 clear hM hl l H6
 generalize J 6 = J7_6 at H7 o7_6 ⊢
 clear J
 refine rN (wp_seq (wp_seq ?_))
 refine zC 2 [.q (.bool false), .q (.bool true)] H7 ?ho8 ?he8
 case ho8 => exact ar (ag trivial)
 intro _ w8 H8
 clear H7
 refine rN (wp_cond_true rfl (wp_seq ?_))
 refine zC 3 [.q (N t), .q (N p), .q (V [t, p])] H8 ?ho9 ?he9
 case ho9 => exact bN 0 (bN 2 (ak (fun J => ⟨rfl, fun w' _ => yC rfl rfl rfl⟩) trivial))
 intro _ w9 H9
 clear H8
 refine zG (l := [3, 4]) rfl ?_
 refine sF 6 [t, p] [_, _, _, _, _, _, _, _, _] H9 o1_2 As26 fun w10 H10 => ?_
 clear H9
 refine zN (d := 5) rfl rfl rfl rfl ?_
 simp only [Act.put, sa, sz, ss]
 refine zE (zA (wp_ret ?_))
 repeat (first | refine zK ?_ | refine zI ?_)
 have hf0 := cel_var (k := 2) H10.out.1 6 rfl Ai26 As26 rfl
 refine bodyPost_ret (v := .tuple #[V [t, p], .int .i64 0]) (by simp [results, Tryz.results32, asAddr, Act.eval, hf0]) rfl ?_
 exact ⟨rfl, H10.out.2⟩
set_option maxHeartbeats 1000000 in
theorem invT_ok (n a0 a1 m0 m1 r0 r1 : Nat)
  (c0 : ∀ w, Calls Tryz.prog 26 #[] w fun e w' => Below w.heap.size w w' ∧ ∃ g, e = .returned (.agg #[PT g 0]) ∧ w.heap.size ≤ g ∧ g < w'.heap.size ∧ Blk w' g (modc n))
  (c1 : ∀ w, Calls Tryz.prog 21 #[V [a0, a1]] w (Rt w (V [m0, m1])))
  (c2 : ∀ g w, Mm w [(g, modc n), (0, dtab)] → Calls Tryz.prog 31 #[.agg #[PT g 0], V [m0, m1]] w (Rt w (.tuple #[V [r0, r1], .int .i64 0]))) (w : World) (hm : Mm w [(0, dtab)]) :
  Calls Tryz.prog 15 #[V [a0, a1]] w (Rt w (.tuple #[V [r0, r1], .int .i64 0])) := by
 have H0 : Hid (_ ∧ _) := ⟨hm, Below.refl w.heap.size w⟩
 clear hm
 have C0 : Hid _ := c0
 have C1 : Hid _ := c1
 have C2 : Hid _ := c2
 clear c0 c1 c2
 go_enter Tryz.func15, Tryz.ntmps15
 refine wp_seq ?_
 refine zD 3 [.made (cel [a0, a1]) 26, .made (cel [0, 0]) 26, .q (.int .i64 0)] (sB H0) ?ho1 ?he1
 case ho1 => exact am (zV rfl rfl) (am (zO rfl) (ar trivial))
 intro J w1 l hM hl
 have H1 : Hid (Mm w1 ([(J 0, cel [a0, a1]), (J 1, cel [0, 0])] ++ _) ∧ _) := wB H0 hM hl [0, 1]
 have o1_0 := vB H0 hM hl 0
 have o1_1 := vB H0 hM hl 1
 clear hM hl l
 generalize J 0 = J1_0 at H1 o1_0 ⊢
 generalize J 1 = J1_1 at H1 o1_1 ⊢
 clear J
 refine rN (wp_seq ?_)
 refine zQ 6 [.born (fun g => .agg #[PT g 0]) (modc n), .q (V [a0, a1]), .call (V [m0, m1]), .over (.tuple #[V [r0, r1], .int .i64 0]) 0 (modc n), .q (V [r0, r1]), .q (.int .i64 0)] (sB H1) ?ho2 ?he2 (hL := ?hL2)
 case hL2 => exact ⟨⟨_, rfl⟩, trivial⟩
 case ho2 => exact ak (fun J => ⟨rfl, fun w' h => eC call26 (C0.out w')⟩) (bA 0 2 0 Ai26 As26 (ak (fun J => ⟨rfl, fun w' h => eC call21 (C1.out w')⟩) (ak (fun J => ⟨rfl, fun u w' h0 hge h1 hb hlt => by have h := Mm.over h0 hge h1 hb hlt; exact eC call31 (C2.out _ w' (h.two 0 3 rfl rfl (by decide)))⟩) (ag (ag trivial)))))
 intro J w2 l hM hl
 have H2 : Hid (Mm w2 ([(J 0, modc n)] ++ _) ∧ _) := wB H1 hM hl [0]
 have o2_0 := vB H1 hM hl 0
 clear hM hl l H1
 generalize J 0 = J2_0 at H2 o2_0 ⊢
 clear J
 refine zG (l := [6, 7]) rfl ?_
 refine sF 2 [r0, r1] [_, _, _, _] H2 o1_1 As26 fun w3 H3 => ?_
 clear H2
 refine zN (d := 3) rfl rfl rfl rfl ?_
 simp only [Act.put, sa, sz, ss]
 refine zE (zA (wp_ret ?_))
 repeat (first | refine zK ?_ | refine zI ?_)
 have hf0 := cel_var (k := 2) H3.out.1 2 rfl Ai26 As26 rfl
 refine bodyPost_ret (v := .tuple #[V [r0, r1], .int .i64 0]) (by simp [results, Tryz.results15, asAddr, Act.eval, hf0]) rfl ?_
 exact ⟨rfl, H3.out.2⟩
set_option maxHeartbeats 1000000 in
theorem invT_no (n a0 a1 m0 m1 : Nat)
  (c0 : ∀ w, Calls Tryz.prog 26 #[] w fun e w' => Below w.heap.size w w' ∧ ∃ g, e = .returned (.agg #[PT g 0]) ∧ w.heap.size ≤ g ∧ g < w'.heap.size ∧ Blk w' g (modc n))
  (c1 : ∀ w, Calls Tryz.prog 21 #[V [a0, a1]] w (Rt w (V [m0, m1])))
  (c2 : ∀ g w, Mm w [(g, modc n), (0, dtab)] → Calls Tryz.prog 31 #[.agg #[PT g 0], V [m0, m1]] w (Rt w (.tuple #[V [0, 0], .int .i64 6]))) (w : World) (hm : Mm w [(0, dtab)]) :
  Calls Tryz.prog 15 #[V [a0, a1]] w (Rt w (.tuple #[V [0, 0], .int .i64 6])) := by
 have H0 : Hid (_ ∧ _) := ⟨hm, Below.refl w.heap.size w⟩
 clear hm
 have C0 : Hid _ := c0
 have C1 : Hid _ := c1
 have C2 : Hid _ := c2
 clear c0 c1 c2
 go_enter Tryz.func15, Tryz.ntmps15
 refine wp_seq ?_
 refine zD 3 [.made (cel [a0, a1]) 26, .made (cel [0, 0]) 26, .q (.int .i64 0)] (sB H0) ?ho1 ?he1
 case ho1 => exact am (zV rfl rfl) (am (zO rfl) (ar trivial))
 intro J w1 l hM hl
 have H1 : Hid (Mm w1 ([(J 0, cel [a0, a1]), (J 1, cel [0, 0])] ++ _) ∧ _) := wB H0 hM hl [0, 1]
 have o1_0 := vB H0 hM hl 0
 have o1_1 := vB H0 hM hl 1
 clear hM hl l
 generalize J 0 = J1_0 at H1 o1_0 ⊢
 generalize J 1 = J1_1 at H1 o1_1 ⊢
 clear J
 refine rN (wp_seq ?_)
 refine zQ 6 [.born (fun g => .agg #[PT g 0]) (modc n), .q (V [a0, a1]), .call (V [m0, m1]), .over (.tuple #[V [0, 0], .int .i64 6]) 0 (modc n), .q (V [0, 0]), .q (.int .i64 6)] (sB H1) ?ho2 ?he2 (hL := ?hL2)
 case hL2 => exact ⟨⟨_, rfl⟩, trivial⟩
 case ho2 => exact ak (fun J => ⟨rfl, fun w' h => eC call26 (C0.out w')⟩) (bA 0 2 0 Ai26 As26 (ak (fun J => ⟨rfl, fun w' h => eC call21 (C1.out w')⟩) (ak (fun J => ⟨rfl, fun u w' h0 hge h1 hb hlt => by have h := Mm.over h0 hge h1 hb hlt; exact eC call31 (C2.out _ w' (h.two 0 3 rfl rfl (by decide)))⟩) (ag (ag trivial)))))
 intro J w2 l hM hl
 have H2 : Hid (Mm w2 ([(J 0, modc n)] ++ _) ∧ _) := wB H1 hM hl [0]
 have o2_0 := vB H1 hM hl 0
 clear hM hl l H1
 generalize J 0 = J2_0 at H2 o2_0 ⊢
 clear J
 refine zG (l := [6, 7]) rfl ?_
 refine sF 2 [0, 0] [_, _, _, _] H2 o1_1 As26 fun w3 H3 => ?_
 clear H2
 refine zN (d := 3) rfl rfl rfl rfl ?_
 simp only [Act.put, sa, sz, ss]
 refine zE (zA (wp_ret ?_))
 repeat (first | refine zK ?_ | refine zI ?_)
 have hf0 := cel_var (k := 2) H3.out.1 2 rfl Ai26 As26 rfl
 refine bodyPost_ret (v := .tuple #[V [0, 0], .int .i64 6]) (by simp [results, Tryz.results15, asAddr, Act.eval, hf0]) rfl ?_
 exact ⟨rfl, H3.out.2⟩
set_option maxHeartbeats 1000000 in
theorem rootT_ok (n a0 a1 m0 m1 r0 r1 q0 q1 t0 t1 : Nat)
  (c0 : ∀ w, Calls Tryz.prog 26 #[] w fun e w' => Below w.heap.size w w' ∧ ∃ g, e = .returned (.agg #[PT g 0]) ∧ w.heap.size ≤ g ∧ g < w'.heap.size ∧ Blk w' g (modc n))
  (c1 : ∀ w, Calls Tryz.prog 21 #[V [a0, a1]] w (Rt w (V [m0, m1])))
  (c2 : ∀ g w, Mm w [(g, modc n), (0, dtab)] → Calls Tryz.prog 32 #[.agg #[PT g 0], V [m0, m1]] w (Rt w (.tuple #[V [r0, r1], .int .i64 0])))
  (c3 : ∀ w, Calls Tryz.prog 9 #[V [r0, r1]] w (Rt w (V [q0, q1])))
  (c4 : ∀ w, Calls Tryz.prog 33 #[V [r0, r1], V [q0, q1]] w (Rt w (V [t0, t1]))) (w : World) (hm : Mm w [(0, dtab)]) :
  Calls Tryz.prog 16 #[V [a0, a1]] w (Rt w (.tuple #[V [t0, t1], .int .i64 0])) := by
 have H0 : Hid (_ ∧ _) := ⟨hm, Below.refl w.heap.size w⟩
 clear hm
 have C0 : Hid _ := c0
 have C1 : Hid _ := c1
 have C2 : Hid _ := c2
 have C3 : Hid _ := c3
 have C4 : Hid _ := c4
 clear c0 c1 c2 c3 c4
 go_enter Tryz.func16, Tryz.ntmps16
 refine wp_seq ?_
 refine zD 3 [.made (cel [a0, a1]) 26, .made (cel [0, 0]) 26, .q (.int .i64 0)] (sB H0) ?ho1 ?he1
 case ho1 => exact am (zV rfl rfl) (am (zO rfl) (ar trivial))
 intro J w1 l hM hl
 have H1 : Hid (Mm w1 ([(J 0, cel [a0, a1]), (J 1, cel [0, 0])] ++ _) ∧ _) := wB H0 hM hl [0, 1]
 have o1_0 := vB H0 hM hl 0
 have o1_1 := vB H0 hM hl 1
 clear hM hl l
 generalize J 0 = J1_0 at H1 o1_0 ⊢
 generalize J 1 = J1_1 at H1 o1_1 ⊢
 clear J
 refine rN (wp_seq ?_)
 refine zQ 10 [.born (fun g => .agg #[PT g 0]) (modc n), .q (V [a0, a1]), .call (V [m0, m1]), .over (.tuple #[V [r0, r1], .int .i64 0]) 0 (modc n), .q (.tuple #[V [r0, r1], .int .i64 0]), .q (V [r0, r1]), .q (.int .i64 0), .made (cel [0, 0]) 26, .laid 7 (cel [0, 0]) (cel [r0, r1]), .q (.int .i64 0)] (sB H1) ?ho2 ?he2 (hL := ?hL2)
 case hL2 => exact ⟨⟨_, rfl⟩, ⟨_, rfl⟩, trivial⟩
 case ho2 => exact ak (fun J => ⟨rfl, fun w' h => eC call26 (C0.out w')⟩) (bA 0 2 0 Ai26 As26 (ak (fun J => ⟨rfl, fun w' h => eC call21 (C1.out w')⟩) (ak (fun J => ⟨rfl, fun u w' h0 hge h1 hb hlt => by have h := Mm.over h0 hge h1 hb hlt; exact eC call32 (C2.out _ w' (h.two 0 3 rfl rfl (by decide)))⟩) (ar (ag (ag (am (zO rfl) (ak (fun J => ⟨rfl, rfl, rfl, fun w' h => ex_laidA h rfl As26 rfl rfl rfl⟩) (ar trivial)))))))))
 intro J w2 l hM hl
 have H2 : Hid (Mm w2 ([(J 0, modc n), (J 7, cel [r0, r1])] ++ _) ∧ _) := wB H1 hM hl [0, 7]
 have o2_0 := vB H1 hM hl 0
 have o2_7 := vB H1 hM hl 7
 clear hM hl l H1
 generalize J 0 = J2_0 at H2 o2_0 ⊢
 generalize J 7 = J2_7 at H2 o2_7 ⊢
 clear J
 refine rN (wp_seq (wp_seq ?_))
 refine zC 2 [.q (.int .i64 0), .q (.bool false)] H2 ?ho3 ?he3
 case ho3 => exact ar (ag trivial)
 intro _ w3 H3
 clear H2
 refine rN (wp_cond_false rfl ?_)
 refine wp_skip (zA (wp_seq ?_))
 refine zS 4 [.q (V [r0, r1]), .q (V [r0, r1]), .call (V [q0, q1]), .call (V [t0, t1])] H3 ?ho4 ?he4
 case ho4 => exact bA 0 2 1 Ai26 As26 (bA 0 2 1 Ai26 As26 (ac (fun w' h => eC call9 (C3.out w')) (ac (fun w' h => eC call33 (C4.out w')) trivial)))
 intro _ w4 H4
 clear H3
 refine zG (l := [4, 5]) rfl ?_
 refine sF 3 [t0, t1] [_, _, _, _, _] H4 o1_1 As26 fun w5 H5 => ?_
 clear H4
 refine zN (d := 3) rfl rfl rfl rfl ?_
 simp only [Act.put, sa, sz, ss]
 refine zE (zA (wp_ret ?_))
 repeat (first | refine zK ?_ | refine zI ?_)
 have hf0 := cel_var (k := 2) H5.out.1 3 rfl Ai26 As26 rfl
 refine bodyPost_ret (v := .tuple #[V [t0, t1], .int .i64 0]) (by simp [results, Tryz.results16, asAddr, Act.eval, hf0]) rfl ?_
 exact ⟨rfl, H5.out.2⟩
set_option maxHeartbeats 1000000 in
theorem rootT_no (n a0 a1 m0 m1 : Nat)
  (c0 : ∀ w, Calls Tryz.prog 26 #[] w fun e w' => Below w.heap.size w w' ∧ ∃ g, e = .returned (.agg #[PT g 0]) ∧ w.heap.size ≤ g ∧ g < w'.heap.size ∧ Blk w' g (modc n))
  (c1 : ∀ w, Calls Tryz.prog 21 #[V [a0, a1]] w (Rt w (V [m0, m1])))
  (c2 : ∀ g w, Mm w [(g, modc n), (0, dtab)] → Calls Tryz.prog 32 #[.agg #[PT g 0], V [m0, m1]] w (Rt w (.tuple #[V [0, 0], .int .i64 6]))) (w : World) (hm : Mm w [(0, dtab)]) :
  Calls Tryz.prog 16 #[V [a0, a1]] w (Rt w (.tuple #[V [0, 0], .int .i64 6])) := by
 have H0 : Hid (_ ∧ _) := ⟨hm, Below.refl w.heap.size w⟩
 clear hm
 have C0 : Hid _ := c0
 have C1 : Hid _ := c1
 have C2 : Hid _ := c2
 clear c0 c1 c2
 go_enter Tryz.func16, Tryz.ntmps16
 refine wp_seq ?_
 refine zD 3 [.made (cel [a0, a1]) 26, .made (cel [0, 0]) 26, .q (.int .i64 0)] (sB H0) ?ho1 ?he1
 case ho1 => exact am (zV rfl rfl) (am (zO rfl) (ar trivial))
 intro J w1 l hM hl
 have H1 : Hid (Mm w1 ([(J 0, cel [a0, a1]), (J 1, cel [0, 0])] ++ _) ∧ _) := wB H0 hM hl [0, 1]
 have o1_0 := vB H0 hM hl 0
 have o1_1 := vB H0 hM hl 1
 clear hM hl l
 generalize J 0 = J1_0 at H1 o1_0 ⊢
 generalize J 1 = J1_1 at H1 o1_1 ⊢
 clear J
 refine rN (wp_seq ?_)
 refine zQ 10 [.born (fun g => .agg #[PT g 0]) (modc n), .q (V [a0, a1]), .call (V [m0, m1]), .over (.tuple #[V [0, 0], .int .i64 6]) 0 (modc n), .q (.tuple #[V [0, 0], .int .i64 6]), .q (V [0, 0]), .q (.int .i64 6), .made (cel [0, 0]) 26, .laid 7 (cel [0, 0]) (cel [0, 0]), .q (.int .i64 6)] (sB H1) ?ho2 ?he2 (hL := ?hL2)
 case hL2 => exact ⟨⟨_, rfl⟩, ⟨_, rfl⟩, trivial⟩
 case ho2 => exact ak (fun J => ⟨rfl, fun w' h => eC call26 (C0.out w')⟩) (bA 0 2 0 Ai26 As26 (ak (fun J => ⟨rfl, fun w' h => eC call21 (C1.out w')⟩) (ak (fun J => ⟨rfl, fun u w' h0 hge h1 hb hlt => by have h := Mm.over h0 hge h1 hb hlt; exact eC call32 (C2.out _ w' (h.two 0 3 rfl rfl (by decide)))⟩) (ar (ag (ag (am (zO rfl) (ak (fun J => ⟨rfl, rfl, rfl, fun w' h => ex_laidA h rfl As26 rfl rfl rfl⟩) (ar trivial)))))))))
 intro J w2 l hM hl
 have H2 : Hid (Mm w2 ([(J 0, modc n), (J 7, cel [0, 0])] ++ _) ∧ _) := wB H1 hM hl [0, 7]
 have o2_0 := vB H1 hM hl 0
 have o2_7 := vB H1 hM hl 7
 clear hM hl l H1
 generalize J 0 = J2_0 at H2 o2_0 ⊢
 generalize J 7 = J2_7 at H2 o2_7 ⊢
 clear J
 refine rN (wp_seq (wp_seq ?_))
 refine zC 2 [.q (.int .i64 6), .q (.bool true)] H2 ?ho3 ?he3
 case ho3 => exact ar (ag trivial)
 intro _ w3 H3
 clear H2
 refine rN (wp_cond_true rfl (wp_seq ?_))
 refine zC 2 [.q (V [0, 0]), .q (.int .i64 6)] H3 ?ho4 ?he4
 case ho4 => exact ak (fun J => ⟨rfl, fun w' _ => ex_buildE2z rfl⟩) (ar trivial)
 intro _ w4 H4
 clear H3
 refine zG (l := [2, 3]) rfl ?_
 refine sF 3 [0, 0] [_, _, _, _, _] H4 o1_1 As26 fun w5 H5 => ?_
 clear H4
 refine zN (d := 3) rfl rfl rfl rfl ?_
 simp only [Act.put, sa, sz, ss]
 refine zE (zA (wp_ret ?_))
 repeat (first | refine zK ?_ | refine zI ?_)
 have hf0 := cel_var (k := 2) H5.out.1 3 rfl Ai26 As26 rfl
 refine bodyPost_ret (v := .tuple #[V [0, 0], .int .i64 6]) (by simp [results, Tryz.results16, asAddr, Act.eval, hf0]) rfl ?_
 exact ⟨rfl, H5.out.2⟩
/-! Elements of twelve parts over the integers: number j of them is a j; w to the power 6 is 1 + i. -/
def m0 (a b : Nat → Int) (i j : Nat) : Int := a (2 * i) * b (2 * j) - a (2 * i + 1) * b (2 * j + 1)
def m1 (a b : Nat → Int) (i j : Nat) : Int := a (2 * i) * b (2 * j + 1) + a (2 * i + 1) * b (2 * j)
end Rg
end Go.Proofs.YtacicklddhehaaaGreatDoor
end
section
namespace Go.Proofs.YtacicklddhehaaaGreatDoor
open Go.RowKit
namespace Rg
open NT
/-! What p divides. -/
def Dv (x : Int) : Prop := (pB : Int) ∣ x
theorem pz_iff (x y : Int) : pz x = pz y ↔ Dv (x - y) := by
 have hx := pz_cast x
 have hy := pz_cast y
 constructor
 ·intro h
  exact Int.dvd_of_emod_eq_zero (Int.emod_eq_emod_iff_emod_sub_eq_zero.1 (by rw [← hx, ← hy, h]))
 ·intro h
  exact pz_congr (Int.emod_eq_emod_iff_emod_sub_eq_zero.2 (Int.emod_eq_zero_of_dvd h))
theorem pz_zero_iff (x : Int) : pz x = 0 ↔ Dv x := by
 rw [← pz_zero, pz_iff, Int.sub_zero]
theorem Dv.add {x y : Int} (h : Dv x) (k : Dv y) : Dv (x + y) := Int.dvd_add h k
theorem Dv.sub {x y : Int} (h : Dv x) (k : Dv y) : Dv (x - y) := Int.dvd_sub h k
theorem Dv.mul {x : Int} (h : Dv x) (y : Int) : Dv (y * x) := Int.dvd_trans h (Int.dvd_mul_left y x)
theorem Dv.mulr {x : Int} (h : Dv x) (y : Int) : Dv (x * y) := Int.dvd_trans h (Int.dvd_mul_right x y)
theorem Dv.of {x y : Int} (h : Dv x) (e : x = y) : Dv y := e ▸ h
theorem dv_zero : Dv 0 := Int.dvd_zero _
theorem pB_prm : Prm pB := prm_p
theorem dv_nat (x : Int) : Dv x ↔ pB ∣ x.natAbs := Int.ofNat_dvd_left
theorem Dv.prime {x y : Int} (h : Dv (x * y)) : Dv x ∨ Dv y := by
 rw [dv_nat, Int.natAbs_mul] at h
 rw [dv_nat, dv_nat]
 exact pB_prm.mul h
theorem dv_pz (x : Int) : Dv ((pz x : Int) - x) := by
 rw [pz_cast, Int.emod_def]
 exact ⟨-(x / (pB : Int)), by rw [Int.mul_neg]; omega⟩
/-- A number for an integer, with the power that leaves 1. -/
theorem unit_pow {x : Int} (h : ¬ Dv x) : pz x ^ (pB - 1) % pB = 1 :=
 fermat1 pB_prm (pz x) (fun hd => h (by
  rw [← pz_zero_iff]
  obtain ⟨k, hk⟩ := hd
  have := pz_lt x
  rcases Nat.eq_zero_or_pos k with h0 | h0
  ·rw [hk, h0, Nat.mul_zero]
  ·have := Nat.mul_le_mul (Nat.le_refl pB) h0
   omega))
def eP : Nat := 1000602388805416848354447456433976039139220704984751971333014534031007912622709466110671907282253916009473568139946
theorem pB_four : pB - 1 = 2 * (2 * eP + 1) := by decide +kernel
theorem pz_mod (x y : Int) (h : Dv (x - y)) : pz x = pz y := (pz_iff x y).2 h
theorem pz_mulN (x y : Int) : pz (x * y) = pz x * pz y % pB := by
 rw [← pz_mul, ← Int.natCast_mul, pz_nat]
theorem pz_addN (x y : Int) : pz (x + y) = (pz x + pz y) % pB := by
 rw [← pz_add, ← Int.natCast_add, pz_nat]
/-- No sum of two squares is left without a rest. -/
theorem norm0 {x y : Int} (h : Dv (x * x + y * y)) : Dv x ∧ Dv y := by
 have hp := pB_prm
 by_cases hx : Dv x
 ·refine ⟨hx, ?_⟩
  have h2 : Dv (y * y) := (h.sub (hx.mul x)).of (by omega)
  rcases h2.prime with h3 | h3 <;> exact h3
 ·by_cases hy : Dv y
  ·have h2 : Dv (x * x) := (h.sub (hy.mul y)).of (by omega)
   rcases h2.prime with h3 | h3 <;> exact absurd h3 hx
  ·exfalso
   have ux := unit_pow hx
   have uy := unit_pow hy
   have e : (pz x * pz x + pz y * pz y) % pB = 0 := by
    have h1 := (pz_zero_iff _).2 h
    rw [pz_addN, pz_mulN, pz_mulN, ← Nat.add_mod] at h1
    exact h1
   have ev := even_pow e eP
   rw [pB_four, Nat.pow_mul, Nat.pow_succ, Nat.pow_two] at ux uy
   rw [Nat.mul_mod, ev, ← Nat.mul_mod] at ux
   have s : ((pz y * pz y) ^ (2 * eP) * (pz x * pz x) + (pz y * pz y) ^ (2 * eP) * (pz y * pz y)) % pB = 0 := by
    rw [← Nat.mul_add, Nat.mul_mod, e, Nat.mul_zero, Nat.zero_mod]
   rw [Nat.add_mod, ux, uy] at s
   revert s
   decide +kernel
/-! Pairs. -/
abbrev Z2 := Int × Int
def cm (a b : Z2) : Z2 := (a.1 * b.1 - a.2 * b.2, a.1 * b.2 + a.2 * b.1)
def ca (a b : Z2) : Z2 := (a.1 + b.1, a.2 + b.2)
def cs (a b : Z2) : Z2 := (a.1 - b.1, a.2 - b.2)
def cn (a : Z2) : Int := a.1 * a.1 + a.2 * a.2
def xi : Z2 := (1, 1)
def O2 (a : Z2) : Prop := Dv a.1 ∧ Dv a.2
theorem O2.mul {a : Z2} (h : O2 a) (b : Z2) : O2 (cm b a) := ⟨(h.1.mul b.1).sub (h.2.mul b.2), (h.2.mul b.1).add (h.1.mul b.2)⟩
theorem O2.add {a b : Z2} (h : O2 a) (k : O2 b) : O2 (ca a b) := ⟨h.1.add k.1, h.2.add k.2⟩
theorem O2.sub {a b : Z2} (h : O2 a) (k : O2 b) : O2 (cs a b) := ⟨h.1.sub k.1, h.2.sub k.2⟩
theorem O2.of {a b : Z2} (h : O2 a) (e : a = b) : O2 b := e ▸ h
theorem cn_mul (a b : Z2) : cn (cm a b) = cn a * cn b := by
 unfold cn cm
 grind
theorem O2.cn {a : Z2} (h : O2 a) : Dv (cn a) := (h.1.mul a.1).add (h.2.mul a.2)
theorem cn0 {a : Z2} (h : Dv (cn a)) : O2 a := norm0 h
theorem O2.dom {a b : Z2} (h : O2 (cm a b)) : O2 a ∨ O2 b := by
 have h1 := h.cn
 rw [cn_mul] at h1
 rcases h1.prime with k | k
 ·exact Or.inl (cn0 k)
 ·exact Or.inr (cn0 k)
theorem O2.sq {a : Z2} (h : O2 (cm a a)) : O2 a := by rcases h.dom with k | k <;> exact k
/-! Three parts: v v v is 1 + i. -/
def d0 (x y z : Z2) : Z2 := cs (cm x x) (cm xi (cm y z))
def d1 (x y z : Z2) : Z2 := cs (cm xi (cm z z)) (cm x y)
def d2 (x y z : Z2) : Z2 := cs (cm y y) (cm x z)
end Rg
end Go.Proofs.YtacicklddhehaaaGreatDoor
end
section
namespace Go.Proofs.YtacicklddhehaaaGreatDoor
open Go.RowKit
namespace Rg
theorem inv_ex {n a : Nat} (ok : Ok n) (hg : Nat.gcd n a = 1) : ∃ x, x < n ∧ x * a % n = 1 := by
 have key : ∀ (m : Nat) (z : WS), z.o + z.r = m → WI n a z → ∃ x, x < n ∧ x * a % n = 1 := by
  intro m
  induction m using Nat.strongRecOn with
  | _ m ih =>
   intro z hz I
   obtain ⟨o, r, u, v, h, t⟩ := z
   simp only at hz
   by_cases hr : r = 0
   ·subst hr
    have ho : o = 1 := by
     have h1 : Nat.gcd o 0 = Nat.gcd n a := I.gcd
     rw [Nat.gcd_zero_right] at h1
     rw [h1]; exact hg
    cases t with
    | true => exact ⟨_, Nat.mod_lt _ ok.pos, end_true ok I ho⟩
    | false => exact ⟨_, Nat.mod_lt _ ok.pos, end_false ok I ho⟩
   ·have hrb : r < big := by have h1 : r ≤ n := I.rn; have := ok.big; omega
    obtain ⟨k, r1, hk, er, hr1, _⟩ := trailing_any hrb hr
    obtain ⟨p1, p2, _⟩ := I.facts hr er
    obtain ⟨i1, i2⟩ := I.next hr er hr1
    have hle : r1 ≤ r := by rw [er]; exact Nat.le_mul_of_pos_right _ (Nat.two_pow_pos k)
    by_cases hl : r1 < o
    ·exact ih (r1 + (o - r1)) (by omega) _ rfl (i1 hl)
    ·exact ih (o + (r1 - o)) (by omega) _ rfl (i2 hl)
 exact key _ ⟨n, a % n, 0, 1, 0, false⟩ rfl (WI.start ok)
theorem invm_spec {n a : Nat} (ok : Ok n) (hg : Nat.gcd n a = 1) : invm n a < n ∧ invm n a * a % n = 1 := by
 obtain ⟨x, hx, h1⟩ := inv_ex ok hg
 rw [invm_eq hx h1]
 exact ⟨hx, h1⟩
end Rg
end Go.Proofs.YtacicklddhehaaaGreatDoor
end
section
namespace Go.Proofs.YtacicklddhehaaaGreatDoor
open Go.RowKit
namespace Rg
open NT
theorem pz_big (x : Int) : pz x < big := Nat.lt_trans (pz_lt x) pB_lt
theorem pz_pair (x y : Int) : 0 ≤ (pz x : Int) * (pz y : Int) ∧ (pz x : Int) * (pz y : Int) ≤ (pB : Int) * pB := by
 have h := Nat.mul_le_mul (Nat.le_of_lt (pz_lt x)) (Nat.le_of_lt (pz_lt y))
 rw [← Int.natCast_mul, ← Int.natCast_mul]
 omega
theorem pz_small {i : Nat} (h : i < pB) : pz (i : Int) = i := by rw [pz_nat, Nat.mod_eq_of_lt h]
theorem pz_times (x : Int) {i : Nat} (h : i < pB) : pz x * i % pB = pz (x * (i : Int)) := by rw [pz_mulN, pz_small h]
theorem norm_any {g : Nat} (x y : Int) (w : World) (hm : Mm w [(g, modc pB)]) : Calls Tryz.prog 53 #[.agg #[PT g 0], V [pz x, pz y]] w (Rt w (N (pz (x * x + y * y)))) := by
 have w0 : Wi ((pz x : Int) * pz x + (pz y : Int) * pz y) := by have := pz_pair x x; have := pz_pair y y; unfold Wi; omega
 have c4 := fun w hm => restF_any (g := g) _ w0 w hm
 rw [pz_addmul] at c4
 exact norm_gen g pB _ _ (pz x) (pz y) _ _ _ _ _ _ _ (fun w => timesZ_any (pz x) (pz x) (pz_big x) (pz_big x) w) (fun w => timesZ_any (pz y) (pz y) (pz_big y) (pz_big y) w) (fun w => plusZ_any _ _ w) c4 w hm
theorem unit_gcd {x : Int} (h : ¬ Dv x) : Nat.gcd pB (pz x) = 1 := by
 refine pB_prm.cop (fun hd => h ?_)
 rw [← pz_zero_iff]
 obtain ⟨k, hk⟩ := hd
 have := pz_lt x
 rcases Nat.eq_zero_or_pos k with h0 | h0
 ·rw [hk, h0, Nat.mul_zero]
 ·have := Nat.mul_le_mul (Nat.le_refl pB) h0
  omega
/-- The inverse of what is left of x. -/
def iv (x : Int) : Nat := invm pB (pz x)
theorem iv_lt {x : Int} (h : ¬ Dv x) : iv x < pB := (invm_spec pB_ok (unit_gcd h)).1
theorem iv_mul {x : Int} (h : ¬ Dv x) : pz ((iv x : Int) * x) = 1 := by
 rw [pz_mulN, pz_small (iv_lt h)]
 exact (invm_spec pB_ok (unit_gcd h)).2
theorem no_unit : Nat.gcd pB 0 ≠ 1 := by rw [Nat.gcd_zero_right]; decide +kernel
theorem inv2F_ok {g : Nat} (x y : Int) (h : ¬ Dv (x * x + y * y)) (w : World) (hm : Mm w [(g, modc pB), (0, dtab)]) : Calls Tryz.prog 31 #[.agg #[PT g 0], V [pz x, pz y]] w (Rt w (.tuple #[V [pz (x * (iv (x * x + y * y) : Int)), pz (-y * (iv (x * x + y * y) : Int))], .int .i64 0])) := by
 have hi := iv_lt h
 have c1 := fun w hm => inv_ok (g := g) pB_ok (pz_big (x * x + y * y)) (unit_gcd h) w hm
 have e1 : invm pB (pz (x * x + y * y)) = iv (x * x + y * y) := rfl
 rw [e1] at c1
 generalize iv (x * x + y * y) = i at *
 have c2 := fun w hm => mulm_any (g := g) pB_ok (pz_big x) (Nat.lt_trans hi pB_lt) w hm
 have c4 := fun w hm => mulm_any (g := g) pB_ok (pz_big (-y)) (Nat.lt_trans hi pB_lt) w hm
 rw [pz_times _ hi] at c2 c4
 exact inv2_ok g pB _ _ (pz x) (pz y) _ i _ _ _ (fun w hm => norm_any x y w hm) c1 c2 (fun w => negated_any y w) c4 w hm
theorem inv2F_no {g : Nat} (x y : Int) (h : Dv (x * x + y * y)) (w : World) (hm : Mm w [(g, modc pB), (0, dtab)]) : Calls Tryz.prog 31 #[.agg #[PT g 0], V [pz x, pz y]] w (Rt w (.tuple #[V [0, 0], .int .i64 6])) := by
 have c0 := fun w hm => norm_any (g := g) x y w hm
 rw [(pz_zero_iff _).2 h] at c0
 exact inv2_no g pB _ _ (pz x) (pz y) 0 0 c0 (fun w hm => inv_bad (g := g) pB_ok big_pos no_unit w hm) w hm
theorem invT_good (a0 a1 : Nat) (h0 : a0 < big) (h1 : a1 < big) (h : ¬ Dv ((a0 : Int) * a0 + (a1 : Int) * a1)) (w : World) (hm : Mm w [(0, dtab)]) : Calls Tryz.prog 15 #[V [a0, a1]] w (Rt w (.tuple #[V [pz ((a0 : Int) * (iv ((a0 : Int) * a0 + (a1 : Int) * a1) : Int)), pz (-(a1 : Int) * (iv ((a0 : Int) * a0 + (a1 : Int) * a1) : Int))], .int .i64 0])) :=
 invT_ok pB a0 a1 _ _ _ _ great_any (fun w => left2_any a0 a1 h0 h1 w) (fun g w hm => inv2F_ok (g := g) _ _ h w hm) w hm
theorem invT_bad (a0 a1 : Nat) (h0 : a0 < big) (h1 : a1 < big) (h : Dv ((a0 : Int) * a0 + (a1 : Int) * a1)) (w : World) (hm : Mm w [(0, dtab)]) : Calls Tryz.prog 15 #[V [a0, a1]] w (Rt w (.tuple #[V [0, 0], .int .i64 6])) :=
 invT_no pB a0 a1 _ _ great_any (fun w => left2_any a0 a1 h0 h1 w) (fun g w hm => inv2F_no (g := g) _ _ h w hm) w hm
end Rg
end Go.Proofs.YtacicklddhehaaaGreatDoor
end
section
namespace Go.Proofs.YtacicklddhehaaaGreatDoor
open Go.RowKit
namespace Rg
open NT
theorem sumZ_any (x y : Int) (w : World) : Calls Tryz.prog 22 #[N (pz x), N (pz y)] w (Rt w (N (pz (x + y)))) := by
 have h9 := nine_p
 have hx := pz_lt x
 have hy := pz_lt y
 have h := sumP_any (pz x) (pz y) (by omega) w
 rw [← pz_nat, Int.natCast_add, pz_add] at h
 exact h
theorem pz_neg (x : Int) : pz (-(pz x : Int)) = pz (-x) := by
 rw [pz_iff]
 exact ((dv_pz x).mul (-1)).of (by omega)
theorem half_ex (x : Int) : ∃ h : Int, Dv (2 * h - x) ∧ ∀ g w, Mm w [(g, modc pB)] → Calls Tryz.prog 58 #[.agg #[PT g 0], N (pz x)] w (Rt w (N (pz h))) := by
 have h9 := nine_p
 have ha := pz_lt x
 have hd := dv_pz x
 have hodd : pB % 2 = 1 := by decide +kernel
 have hb := fun w => bit_in (pz x) 0 (by decide) w
 have e0 : bitv (pz x) 0 = ((pz x % 2 : Nat) : Int) := by unfold bitv; rw [Nat.pow_zero, Nat.div_one]
 rw [e0] at hb
 generalize pz x = a at *
 by_cases h : a % 2 = 1
 ·rw [h] at hb
  have c3 := fun w => shift_down (a + pB) (-1) (by omega) (by omega) (by omega) w
  have e4 : (a + pB) / 2 ^ (- (-1 : Int)).toNat = (a + pB) / 2 := rfl
  rw [e4] at c3
  refine ⟨(((a + pB) / 2 : Nat) : Int), ?_, fun g w hm => ?_⟩
  ·exact (hd.add ⟨1, (Int.mul_one _).symm⟩).of (by omega)
  ·rw [pz_small (show (a + pB) / 2 < pB by omega)]
   exact half_1 g pB _ _ a (a + pB) _ hb (fun w hm => n_any (g := g) pB_ok w hm) (fun w => together_any a pB (by omega) w) c3 w hm
 ·rw [show a % 2 = 0 by omega] at hb
  have c3 := fun w => shift_down a (-1) (by omega) (by omega) (by omega) w
  have e4 : a / 2 ^ (- (-1 : Int)).toNat = a / 2 := rfl
  rw [e4] at c3
  refine ⟨((a / 2 : Nat) : Int), ?_, fun g w hm => ?_⟩
  ·exact hd.of (by omega)
  ·rw [pz_small (show a / 2 < pB by omega)]
   exact half_2 g pB _ _ a _ hb c3 w hm
/-- The power that is a root of x or of -x. -/
def rr (x : Int) : Nat := pz x ^ (eP + 1) % pB
theorem rr_lt (x : Int) : rr x < pB := Nat.mod_lt _ pB_ok.pos
def Sq (x : Int) : Prop := Dv ((rr x : Int) * (rr x : Int) - x)
theorem eP_four : pB + 1 = 4 * (eP + 1) := by decide +kernel
theorem sq_nat (x : Int) : (rr x * rr x % pB = pz x) ↔ Sq x := by
 unfold Sq
 rw [← pz_iff, ← Int.natCast_mul, pz_nat]
theorem zpow (j p : Nat) : 0 ^ (j + 1) % p = 0 := by rw [Nat.zero_pow (Nat.succ_pos j), Nat.zero_mod]
theorem rr_zero {x : Int} (h : pz x = 0) : rr x = 0 := by
 unfold rr
 rw [h]
 exact zpow eP pB
theorem rr_sq (a j p : Nat) : a ^ (j + 1) % p * (a ^ (j + 1) % p) % p = a ^ (2 * j + 2) % p := by
 rw [← Nat.mul_mod, ← Nat.pow_add, show j + 1 + (j + 1) = 2 * j + 2 by omega]
theorem rr_alt {x : Int} (h : ¬ Sq x) : Dv ((rr x : Int) * (rr x : Int) + x) := by
 by_cases hx : Dv x
 ·exfalso
  apply h
  have h0 := (pz_zero_iff x).2 hx
  rw [← sq_nat, h0, rr_zero h0, Nat.mul_zero, Nat.zero_mod]
 ·have hn : ¬ pB ∣ pz x := fun hd => by
   have h1 := unit_gcd hx
   have h2 := Nat.gcd_eq_left hd
   rw [h1] at h2
   have := pB_prm.1
   omega
  have e : rr x * rr x % pB = pz x ^ (2 * eP + 2) % pB := rr_sq (pz x) eP pB
  rcases half_pow pB_prm eP_four hn with h1 | h1
  ·exact absurd ((sq_nat x).1 (by rw [e, h1, Nat.mod_eq_of_lt (pz_lt x)])) h
  ·rw [← pz_zero_iff, pz_addN, ← Int.natCast_mul, pz_nat, e, Nat.mod_add_mod]
   exact h1
theorem sq_of {m x : Int} (h : Dv (m * m - x)) : Sq x := by
 by_cases hs : Sq x
 ·exact hs
 ·exfalso
  have h1 := rr_alt hs
  have h2 : Dv ((rr x : Int) * (rr x : Int) + m * m) := (h1.add h).of (by omega)
  have h3 := norm0 h2
  exact hs ((h3.1.mul (rr x : Int)).sub ((h3.2.mul m).sub h) |>.of (by omega))
theorem roo_any (g : Nat) (x : Int) (b : Bool) (hb : b = true ↔ Sq x) (w : World) (hm : Mm w [(g, modc pB)]) : Calls Tryz.prog 57 #[.agg #[PT g 0], N (pz x)] w (Rt w (.tuple #[N (rr x), .bool b])) := by
 have h9 := nine_p
 have hpos := pB_ok.pos
 have c2 := fun w => together_any pB 1 (by omega) w
 have c3 := fun w => shift_down (pB + 1) (-2) (by omega) (by omega) (by omega) w
 have e4 : (pB + 1) / 2 ^ (- (-2 : Int)).toNat = eP + 1 := by decide +kernel
 rw [e4] at c3
 have c4 := fun w hm => powm_any (g := g) pB_ok (pz_big x) (show eP + 1 < big by have := eP_four; omega) w hm
 have e5 : pz x ^ (eP + 1) % pB = rr x := rfl
 rw [e5] at c4
 have hr : rr x < big := Nat.lt_trans (rr_lt x) pB_lt
 have c5 := fun w hm => mulm_any (g := g) pB_ok hr hr w hm
 have e1 := fun w => run_eqN (rr x * rr x % pB) (pz x) (okLt pB_ok _) (pz_big x) w
 have hs := sq_nat x
 cases b with
 | true =>
  rw [decide_eq_true (hs.2 (hb.1 rfl))] at e1
  exact rooN_1 g pB _ _ (pz x) 1 _ _ (rr x) _ e1 (fun w hm => n_any (g := g) pB_ok w hm) (fun w => of_any 1 (by decide) w) c2 c3 c4 c5 w hm
 | false =>
  rw [decide_eq_false (fun h => by have := hb.2 (hs.1 h); cases this)] at e1
  exact rooN_2 g pB _ _ (pz x) 1 _ _ (rr x) _ e1 (fun w hm => n_any (g := g) pB_ok w hm) (fun w => of_any 1 (by decide) w) c2 c3 c4 c5 w hm
theorem rootNum_ex (x : Int) : ∃ u v : Int, Dv (u * u - v * v - x) ∧ Dv (2 * (u * v)) ∧ ∀ g w, Mm w [(g, modc pB)] → Calls Tryz.prog 55 #[.agg #[PT g 0], N (pz x)] w (Rt w (V [pz u, pz v])) := by
 by_cases h : Sq x
 ·refine ⟨(rr x : Int), 0, Dv.of h (by omega), dv_zero.of (by omega), fun g w hm => ?_⟩
  rw [pz_small (rr_lt x), pz_zero]
  exact rootN_1 g pB _ _ (pz x) (rr x) (fun w hm => roo_any g x true ⟨fun _ => h, fun _ => rfl⟩ w hm) w hm
 ·refine ⟨0, (rr x : Int), ((rr_alt h).mul (-1)).of (by omega), dv_zero.of (by omega), fun g w hm => ?_⟩
  rw [pz_small (rr_lt x), pz_zero]
  exact rootN_2 g pB _ _ (pz x) (rr x) (fun w hm => roo_any g x false ⟨fun k => (by cases k), fun k => absurd k h⟩ w hm) w hm
theorem rtc_rr (n : Int) : rtc pB (pz n) = rr n := by
 unfold rtc rr
 rw [show (pB + 1) / 4 = eP + 1 by have := eP_four; omega]
theorem rt_cond (n : Int) : (rtc pB (pz n) * rtc pB (pz n) % pB = pz n % pB) ↔ Sq n := by
 rw [rtc_rr, Nat.mod_eq_of_lt (pz_lt n)]
 exact sq_nat n
theorem pB_mod4 : ¬ pB % 4 = 1 := by decide +kernel
theorem rt_bad {n : Int} (h : ¬ Sq n) : rte pB (pz n) = 6 := by
 unfold rte
 rw [if_neg pB_mod4, if_neg (fun k => h ((rt_cond n).1 k))]
theorem rt_good {n : Int} (h : Sq n) : rte pB (pz n) = 0 ∧ ∃ s : Int, rtv pB (pz n) = pz s ∧ Dv (s * s - n) := by
 unfold rte rtv
 rw [if_neg pB_mod4, if_pos ((rt_cond n).2 h), if_neg pB_mod4, if_pos ((rt_cond n).2 h), rtc_rr]
 refine ⟨rfl, ?_⟩
 split
 ·refine ⟨-(rr n : Int), ?_, Dv.of h (by rw [Int.neg_mul_neg])⟩
  have e := subm_pz 0 (rr n : Int)
  rw [pz_zero, pz_small (rr_lt n), Int.zero_sub] at e
  exact e
 ·exact ⟨(rr n : Int), (pz_small (rr_lt n)).symm, h⟩
theorem not_two : ¬ Dv 2 := by rw [← pz_zero_iff]; decide +kernel
theorem iv_dv {x : Int} (h : ¬ Dv x) : Dv ((iv x : Int) * x - 1) := by
 rw [← pz_iff, iv_mul h]
 decide +kernel
theorem nz_eq {y : Int} (h : ¬ Dv y) (w : World) : (Op.equalIn 10000 24 (N (pz y)) (N 0)).run Tryz.prog w = .ok false w := by
 rw [run_eqN _ _ (pz_big y) big_pos, decide_eq_false (fun k => h ((pz_zero_iff y).1 k))]
theorem root2_all (x y : Int) (hq : Sq (x * x + y * y)) : ∃ u v : Int, Dv (u * u - v * v - x) ∧ Dv (2 * (u * v) - y) ∧ ∀ g w, Mm w [(g, modc pB), (0, dtab)] → Calls Tryz.prog 32 #[.agg #[PT g 0], V [pz x, pz y]] w (Rt w (.tuple #[V [pz u, pz v], .int .i64 0])) := by
 by_cases hy : Dv y
 ·obtain ⟨u, v, h1, h2, hc⟩ := rootNum_ex x
  refine ⟨u, v, h1, h2.sub hy, fun g w hm => ?_⟩
  have e1 := fun w => run_eqN (pz y) 0 (pz_big y) big_pos w
  rw [decide_eq_true ((pz_zero_iff y).2 hy)] at e1
  exact root2_1 g pB _ _ (pz x) (pz y) _ _ e1 (hc g) w hm
 ·obtain ⟨e0, s, es, hs⟩ := rt_good hq
  obtain ⟨h, hh, c3⟩ := half_ex (x + s)
  have e1 := fun w => nz_eq hy w
  have c1 := fun g w hm => root_any (g := g) pB_ok (pz_big (x * x + y * y)) w hm
  rw [e0, es] at c1
  have hP : ¬ Dv (rr h : Int) := fun k => by
   apply hy
   have k2 : Dv h := by
    by_cases q : Sq h
    ·exact ((k.mul (rr h : Int)).sub q).of (by omega)
    ·exact ((rr_alt q).sub (k.mul (rr h : Int))).of (by omega)
   have k3 : Dv (x + s) := ((k2.mul 2).sub hh).of (by omega)
   have k4 : Dv (y * y) := ((k3.mul (s - x)).sub hs).of (by grind)
   rcases k4.prime with k5 | k5 <;> exact k5
  have hPP : ¬ Dv ((rr h : Int) + (rr h : Int)) := fun k => by
   rcases (k.of (show _ = 2 * (rr h : Int) by omega)).prime with k5 | k5
   ·exact not_two k5
   ·exact hP k5
  have c5 := fun w => sumZ_any (rr h : Int) (rr h : Int) w
  rw [pz_small (rr_lt h)] at c5
  have c6 := fun g w hm => inv_ok (g := g) pB_ok (pz_big ((rr h : Int) + (rr h : Int))) (unit_gcd hPP) w hm
  have e6 : invm pB (pz ((rr h : Int) + (rr h : Int))) = iv ((rr h : Int) + (rr h : Int)) := rfl
  rw [e6] at c6
  have hi := iv_lt hPP
  have hI := iv_dv hPP
  have c7 := fun g w hm => mulm_any (g := g) pB_ok (pz_big y) (Nat.lt_trans hi pB_lt) w hm
  rw [pz_times _ hi] at c7
  generalize iv ((rr h : Int) + (rr h : Int)) = i at *
  have four : ∀ z : Int, Dv (4 * ((rr h : Int) * (rr h : Int)) * z) → Dv z := fun z hz => by
   rcases (hz.of (show _ = 2 * (2 * ((rr h : Int) * ((rr h : Int) * z))) by grind)).prime with k | k
   ·exact absurd k not_two
   ·rcases k.prime with k | k
    ·exact absurd k not_two
    ·rcases k.prime with k | k
     ·exact absurd k hP
     ·rcases k.prime with k | k
      ·exact absurd k hP
      ·exact k
  by_cases q : Sq h
  ·refine ⟨(rr h : Int), y * (i : Int), four _ ?_, ?_, fun g w hm => ?_⟩
   ·have q' : Dv ((rr h : Int) * (rr h : Int) - h) := q
    generalize (rr h : Int) = P at *
    exact (((hs.add (hh.mul (2 * h - (x + s) + 2 * s))).add (q'.mul (8 * h + 4 * (P * P - h) - 4 * x))).sub (hI.mul ((2 + ((i : Int) * (P + P) - 1)) * (y * y)))).of (by grind)
   ·exact (hI.mul y).of (by grind)
   ·rw [pz_small (rr_lt h)]
    exact root2_3 g pB _ _ (pz x) (pz y) _ _ _ _ (rr h) _ i _ 0 e1 (fun w hm => norm_any x y w hm) (c1 g) (fun w => sumZ_any x s w) (c3 g) (fun w hm => roo_any g h true ⟨fun _ => q, fun _ => rfl⟩ w hm) c5 (c6 g) (c7 g) w hm
  ·refine ⟨y * (i : Int), (rr h : Int), four _ ?_, ?_, fun g w hm => ?_⟩
   ·have q' := rr_alt q
    generalize (rr h : Int) = P at *
    exact ((((hI.mul ((2 + ((i : Int) * (P + P) - 1)) * (y * y))).sub hs).sub (hh.mul (2 * h - (x + s) + 2 * s))).add (q'.mul (8 * h - 4 * (P * P + h) - 4 * x))).of (by grind)
   ·exact (hI.mul y).of (by grind)
   ·rw [pz_small (rr_lt h)]
    exact root2_4 g pB _ _ (pz x) (pz y) _ _ _ _ (rr h) _ i _ 0 e1 (fun w hm => norm_any x y w hm) (c1 g) (fun w => sumZ_any x s w) (c3 g) (fun w hm => roo_any g h false ⟨fun k => (by cases k), fun k => absurd k q⟩ w hm) c5 (c6 g) (c7 g) w hm
theorem root2_none (g : Nat) (x y : Int) (hq : ¬ Sq (x * x + y * y)) (w : World) (hm : Mm w [(g, modc pB), (0, dtab)]) : Calls Tryz.prog 32 #[.agg #[PT g 0], V [pz x, pz y]] w (Rt w (.tuple #[V [0, 0], .int .i64 6])) := by
 have hy : ¬ Dv y := fun k => hq (sq_of (m := x) ((k.mul (-y)).of (by grind)))
 have c1 := fun w hm => root_any (g := g) pB_ok (pz_big (x * x + y * y)) w hm
 rw [rt_bad hq] at c1
 exact root2_2 g pB _ _ (pz x) (pz y) _ _ (fun w => nz_eq hy w) (fun w hm => norm_any x y w hm) c1 w hm
/-- Of x + y i and the negated one, the first is told. -/
def Le2 (u v : Int) : Prop := pz v < pz (-v) ∨ (pz v = pz (-v) ∧ pz u ≤ pz (-u))
theorem lesser_ex (u v : Int) : ∃ x y : Int, ((x = u ∧ y = v) ∨ (x = -u ∧ y = -v)) ∧ Le2 x y ∧ ∀ w, Calls Tryz.prog 33 #[V [pz u, pz v], V [pz (-u), pz (-v)]] w (Rt w (V [pz x, pz y])) := by
 have c0 := fun w => compare_any (pz v) (pz (-v)) (pz_big v) (pz_big (-v)) w
 have c1 := fun w => compare_any (pz u) (pz (-u)) (pz_big u) (pz_big (-u)) w
 unfold Le2
 rcases Nat.lt_trichotomy (pz v) (pz (-v)) with h | h | h
 ·rw [cmp_lt h] at c0
  exact ⟨u, v, Or.inl ⟨rfl, rfl⟩, Or.inl h, fun w => lesser_2 _ _ _ _ _ (by decide) c0 w⟩
 ·have e0 : cmpv (pz v) (pz (-v)) = 0 := by unfold cmpv; rw [if_pos h]
  rcases Nat.lt_or_ge (pz (-u)) (pz u) with k | k
  ·have e1 : cmpv (pz u) (pz (-u)) = 1 := by unfold cmpv; rw [if_neg (by omega), if_neg (by omega)]
   rw [e1] at c1
   exact ⟨-u, -v, Or.inr ⟨rfl, rfl⟩, Or.inr ⟨by rw [Int.neg_neg, h], by rw [Int.neg_neg]; omega⟩, fun w => lesser_3 _ _ _ _ _ _ e0 (by decide) c0 c1 w⟩
  ·have e1 : ¬ 0 < cmpv (pz u) (pz (-u)) := by unfold cmpv; split <;> (try split) <;> omega
   exact ⟨u, v, Or.inl ⟨rfl, rfl⟩, Or.inr ⟨h, k⟩, fun w => lesser_4 _ _ _ _ _ _ e0 e1 c0 c1 w⟩
 ·have e1 : cmpv (pz v) (pz (-v)) = 1 := by unfold cmpv; rw [if_neg (by omega), if_neg (by omega)]
  rw [e1] at c0
  exact ⟨-u, -v, Or.inr ⟨rfl, rfl⟩, Or.inl (by rw [Int.neg_neg]; exact h), fun w => lesser_1 _ _ _ _ _ (by decide) c0 w⟩
theorem rootT_ex (a0 a1 : Nat) (h0 : a0 < big) (h1 : a1 < big) (hq : Sq ((a0 : Int) * a0 + (a1 : Int) * a1)) : ∃ u v : Int, Dv (u * u - v * v - a0) ∧ Dv (2 * (u * v) - a1) ∧ Le2 u v ∧ ∀ w, Mm w [(0, dtab)] → Calls Tryz.prog 16 #[V [a0, a1]] w (Rt w (.tuple #[V [pz u, pz v], .int .i64 0])) := by
 -- one root for all fields: what is told does not hang on g
 have hall : ∃ u v : Int, Dv (u * u - v * v - a0) ∧ Dv (2 * (u * v) - a1) ∧ ∀ g w, Mm w [(g, modc pB), (0, dtab)] → Calls Tryz.prog 32 #[.agg #[PT g 0], V [pz a0, pz a1]] w (Rt w (.tuple #[V [pz u, pz v], .int .i64 0])) := by
  exact root2_all (a0 : Int) (a1 : Int) hq
 obtain ⟨u, v, hu, hv, hc⟩ := hall
 obtain ⟨x, y, hxy, hle, hl⟩ := lesser_ex u v
 have c3 := fun w => neg2_any (pz u) (pz v) (pz_big u) (pz_big v) w
 rw [pz_neg, pz_neg] at c3
 refine ⟨x, y, ?_, ?_, hle, fun w hm => rootT_ok pB a0 a1 _ _ _ _ _ _ _ _ great_any (fun w => left2_any a0 a1 h0 h1 w) hc c3 hl w hm⟩
 ·rcases hxy with ⟨rfl, rfl⟩ | ⟨rfl, rfl⟩
  ·exact hu
  ·exact hu.of (by rw [Int.neg_mul_neg, Int.neg_mul_neg])
 ·rcases hxy with ⟨rfl, rfl⟩ | ⟨rfl, rfl⟩
  ·exact hv
  ·exact hv.of (by rw [Int.neg_mul_neg])
theorem rootT_none (a0 a1 : Nat) (h0 : a0 < big) (h1 : a1 < big) (hq : ¬ Sq ((a0 : Int) * a0 + (a1 : Int) * a1)) (w : World) (hm : Mm w [(0, dtab)]) : Calls Tryz.prog 16 #[V [a0, a1]] w (Rt w (.tuple #[V [0, 0], .int .i64 6])) :=
 rootT_no pB a0 a1 _ _ great_any (fun w => left2_any a0 a1 h0 h1 w) (fun g w hm => root2_none g _ _ hq w hm) w hm
end Rg
end Go.Proofs.YtacicklddhehaaaGreatDoor
end
section
namespace Go.Proofs.YtacicklddhehaaaGreatDoor
open Go.RowKit
namespace Rg
namespace Fs
abbrev U (n : Nat) : Value := .int .u64 (n : Int)
abbrev V (l : List Value) : Value := .agg l.toArray
theorem zZ {ρ : Operand → Value} {o : Oper} {x : Operand} {g off n : Nat} {t : TypeId} {cs ms : List Value} {w : World} {l : List (Nat × List Value)} (h : Mm w l) (q : Nat) (hk : l[q]? = some (g, cs)) (ho : o.op = .load t x) (hx : ρ x = PT g off) (ha : ∀ w, (isAgg t).run Tryz.prog w = .ok true w) (hs : ∀ w, (sizeOf t).run Tryz.prog w = .ok n w) (hc : (cs.drop off).take n = ms) (hl : ms.length = n) :
  (execOp ρ o).run Tryz.prog w = .ok (.value (.agg ms.toArray)) w := by
 have hm := List.mem_of_getElem? hk
 have hcell := run_loadCells_list (P := Tryz.prog) (w := w) ⟨g, off, none⟩ ms (fun j v hv => by
  have e : cs[off + j]? = some v := by
   rw [← List.getElem?_drop]
   rw [← hc, List.getElem?_take] at hv
   split at hv
   ·exact hv
   ·cases hv
  have e2 := h.cell hm e
  rw [show (⟨g, off, none⟩ : Addr).add j = ⟨g, off + j, none⟩ from by unfold Addr.add; split <;> simp_all]
  exact e2)
 rw [hl] at hcell
 have hf : (loadCellsFrom ⟨g, off, none⟩ 0 n #[]).run Tryz.prog w = .ok ms.toArray w := hcell
 clear hcell hc hk hm h
 simp only [execOp, ho, hx]
 go_simp
theorem ex_loadC {ρ : Operand → Value} {o : Oper} {x : Operand} {g off : Nat} {t : TypeId} {v : Value} {cs : List Value} {w : World} {l : List (Nat × List Value)} (h : Mm w l) (k : Nat) (hk : l[k]? = some (g, cs)) (ho : o.op = .load t x) (hx : ρ x = PT g off) (ha : ∀ w, (isAgg t).run Tryz.prog w = .ok false w) (hc : cs[off]? = some v) :
  (execOp ρ o).run Tryz.prog w = .ok (.value v) w := by
 have c0 := h.cell (List.mem_of_getElem? hk) hc
 clear h hk hc
 simp only [execOp, ho, hx]
 go_simp
theorem lC {ρ : Operand → Value} {o : Oper} {x : Operand} {g off : Nat} {t : TypeId} {v : Value} {cs : List Value} {w : World} {l : List (Nat × List Value)} (h : Mm w l) (k : Nat) (ha : ∀ w, (isAgg t).run Tryz.prog w = .ok false w) (hk : l[k]? = some (g, cs) := by exact rfl) (ho : o.op = .load t x := by exact rfl) (hx : ρ x = PT g off := by exact rfl) (hc : cs[off]? = some v := by exact rfl) : (execOp ρ o).run Tryz.prog w = .ok (.value v) w := ex_loadC h k hk ho hx ha hc
theorem lT {ρ : Operand → Value} {o : Oper} {x : Operand} {g off n : Nat} {t : TypeId} {cs ms : List Value} {w : World} {l : List (Nat × List Value)} (h : Mm w l) (q : Nat) (ha : ∀ w, (isAgg t).run Tryz.prog w = .ok true w) (hs : ∀ w, (sizeOf t).run Tryz.prog w = .ok n w) (hk : l[q]? = some (g, cs) := by exact rfl) (ho : o.op = .load t x := by exact rfl) (hx : ρ x = PT g off := by exact rfl) (hc : (cs.drop off).take n = ms := by exact rfl) (hl : ms.length = n := by exact rfl) : (execOp ρ o).run Tryz.prog w = .ok (.value (.agg ms.toArray)) w := zZ h q hk ho hx ha hs hc hl
theorem bC {ops : Array Oper} {L : List (Nat × List Value)} {F : (Nat → Nat) → Act} {o : Oper} {os : List Oper} {ks : List Kind} {x : Operand} {g off : Nat} {cs : List Value} {t : TypeId} {v : Value} (k : Nat) (ha : ∀ w, (isAgg t).run Tryz.prog w = .ok false w) (hs : yD Tryz.prog ops (fun w' => Mm w' L) F os ks) (hw : ∀ J, Region.wanted o (yielded ops (F J).tmps) = true := by exact fun _ => rfl) (hk : L[k]? = some (g, cs) := by exact rfl) (ho : o.op = .load t x := by exact rfl) (hx : ∀ J, (F J).eval x = PT g off := by exact fun _ => rfl) (hc : cs[off]? = some v := by exact rfl) : yD Tryz.prog ops (fun w' => Mm w' L) F (o :: os) (.q v :: ks) := ⟨fun J => ⟨hw J, fun _ h => ex_loadC h k hk ho (hx J) ha hc⟩, hs⟩
theorem bT {ops : Array Oper} {L : List (Nat × List Value)} {F : (Nat → Nat) → Act} {o : Oper} {os : List Oper} {ks : List Kind} {x : Operand} {g off : Nat} {cs : List Value} {n : Nat} {t : TypeId} {ms : List Value} (k : Nat) (ha : ∀ w, (isAgg t).run Tryz.prog w = .ok true w) (hz : ∀ w, (sizeOf t).run Tryz.prog w = .ok n w) (hs : yD Tryz.prog ops (fun w' => Mm w' L) F os ks) (hw : ∀ J, Region.wanted o (yielded ops (F J).tmps) = true := by exact fun _ => rfl) (hk : L[k]? = some (g, cs) := by exact rfl) (ho : o.op = .load t x := by exact rfl) (hx : ∀ J, (F J).eval x = PT g off := by exact fun _ => rfl) (hc : (cs.drop off).take n = ms := by exact rfl) (hl : ms.length = n := by exact rfl) : yD Tryz.prog ops (fun w' => Mm w' L) F (o :: os) (.q (.agg ms.toArray) :: ks) := ⟨fun J => ⟨hw J, fun _ h => zZ h k hk ho (hx J) ha hz hc hl⟩, hs⟩
theorem ex_boxT {ρ : Operand → Value} {o : Oper} {x : Operand} {t : TypeId} {cs : List Value} {w : World} (ho : o.op = .box t x) (hx : ρ x = .agg cs.toArray) :
  (execOp ρ o).run Tryz.prog w = .ok (.value (.pointer (some ⟨w.heap.size, 0, none⟩))) (w.alloc (.cells cs.toArray t)) := by
 simp only [execOp, ho, hx]
 go_simp
theorem ex_storeT {ρ : Operand → Value} {o : Oper} {x y : Operand} {g off : Nat} {t : TypeId} {cs vs : List Value} {w : World} {l : List (Nat × List Value)} (h : Mm w l) (q : Nat) (hk : l[q]? = some (g, cs)) (ho : o.op = .store t x y) (hx : ρ x = PT g off) (hy : ρ y = .agg vs.toArray) (hs : ∀ w, (sizeOf t).run Tryz.prog w = .ok vs.length w) (h1 : vs.all Value.oneCell' = true) (hb : off + vs.length ≤ cs.length) :
  (execOp ρ o).run Tryz.prog w = .ok .skip (w.setCells g off vs) := by
 have hm := List.mem_of_getElem? hk
 have hq : ∀ j, j < vs.length → ∃ u, cs[off + j]? = some u := fun j hj => ⟨_, List.getElem?_eq_getElem (by omega)⟩
 have hst := run_storeCells_cells (P := Tryz.prog) g off vs 0 w (fun j hj => by
  obtain ⟨u, hu⟩ := hq j hj
  rw [show off + 0 + j = off + j by omega, h.cell hm hu]; rfl) (fun j hj => by
  obtain ⟨u, hu⟩ := hq j hj
  rw [show off + 0 + j = off + j by omega]; exact h.free hm hu) (List.all_eq_true.1 h1)
 clear h hm hq hb hk
 simp only [execOp, ho, hx, hy]
 go_simp
theorem var_T {g n : Nat} {t : TypeId} {cs : List Value} {w : World} {l : List (Nat × List Value)} (h : Mm w l) (q : Nat) (hk : l[q]? = some (g, cs)) (ha : ∀ w, (isAgg t).run Tryz.prog w = .ok true w) (hs : ∀ w, (sizeOf t).run Tryz.prog w = .ok n w) (hn : cs.length = n) : (loadVar t ⟨g, 0, none⟩).run Tryz.prog w = .ok (.agg cs.toArray) w := by
 have hm := List.mem_of_getElem? hk
 have hcell := run_loadCells_list (P := Tryz.prog) (w := w) ⟨g, 0, none⟩ cs (fun j v hv => by
  have e2 := h.cell hm hv
  rw [show (⟨g, 0, none⟩ : Addr).add j = ⟨g, j, none⟩ from by unfold Addr.add; split <;> simp_all]
  exact e2)
 rw [hn] at hcell
 have hf : (loadCellsFrom ⟨g, 0, none⟩ 0 n #[]).run Tryz.prog w = .ok cs.toArray w := hcell
 clear hcell h hk hm
 simp only [loadVar]
 go_simp
theorem ex_laidT {ρ : Operand → Value} {o : Oper} {x y : Operand} {g : Nat} {t : TypeId} {zs cs : List Value} {w : World} (hb : Blk w g zs) (hl : zs.length = cs.length) (h1 : cs.all Value.oneCell' = true) (hs : ∀ w, (sizeOf t).run Tryz.prog w = .ok cs.length w) (ho : o.op = .store t x y) (hx : ρ x = .pointer (some ⟨g, 0, none⟩)) (hy : ρ y = .agg cs.toArray) :
  (execOp ρ o).run Tryz.prog w = .ok .skip (w.setCells g 0 cs) := by
 have hk : ∀ k, k < cs.length → ∃ u, zs[k]? = some u := fun k hk => ⟨_, List.getElem?_eq_getElem (by omega)⟩
 have hst := run_storeCells_cells (P := Tryz.prog) g 0 cs 0 w (fun k hkl => by
  obtain ⟨u, hu⟩ := hk k hkl
  rw [show 0 + 0 + k = k by omega, (hb k u hu).1]; rfl) (fun k hkl => by
  obtain ⟨u, hu⟩ := hk k hkl
  rw [show 0 + 0 + k = k by omega]; exact (hb k u hu).2) (List.all_eq_true.1 h1)
 clear hb hk h1 hl
 simp only [execOp, ho, hx, hy]
 go_simp
def yA (l : List Value) (d : Nat) : Value := l.getD d undef
def an (a b : Nat) : Nat := (a &&& b) % 4294967296
def c64 (a : Nat) : Nat := a % 18446744073709551616
section
variable {ρ : Operand → Value} {o : Oper} {x y : Operand} {a b k : Nat} {w : World}
theorem ex_add64 (ho : o.op = .binOp .add 22 x y 22) (hx : ρ x = U a) (hy : ρ y = U b) : (execOp ρ o).run Tryz.prog w = .ok (.value (U (c64 (a + b)))) w := by
 simp only [execOp, ho, hx, hy]
 clear ho hx hy
 go_simp
 rw [IntKind.wrap_u64]
 unfold c64
 omega
theorem ex_mul64 (ho : o.op = .binOp .mul 22 x y 22) (hx : ρ x = U a) (hy : ρ y = U b) : (execOp ρ o).run Tryz.prog w = .ok (.value (U (c64 (a * b)))) w := by
 simp only [execOp, ho, hx, hy]
 clear ho hx hy
 go_simp
 rw [IntKind.wrap_u64, ← Int.natCast_mul]
 unfold c64
 omega
end
/-- A row of numbers of one kind. -/
def ints (ik : IntKind) (f : Nat → Nat) (n : Nat) : List Value := (List.range n).map fun j => .int ik (f j : Int)
theorem zL (ik : IntKind) (f : Nat → Nat) (n : Nat) : (ints ik f n).length = n := by simp [ints]
theorem ints_get (ik : IntKind) (f : Nat → Nat) {n j : Nat} (h : j < n) : (ints ik f n)[j]? = some (.int ik (f j : Int)) := by
 unfold ints
 rw [List.getElem?_map, List.getElem?_eq_getElem (by simpa using h), List.getElem_range]
 rfl
theorem ints_none (ik : IntKind) (f : Nat → Nat) {n j : Nat} (h : n ≤ j) : (ints ik f n)[j]? = none := List.getElem?_eq_none (by rw [zL]; exact h)
theorem ints_all (ik : IntKind) (f : Nat → Nat) (n : Nat) : (ints ik f n).all Value.oneCell' = true := by
 rw [List.all_eq_true]
 intro v hv
 obtain ⟨j, _, rfl⟩ := List.mem_map.1 hv
 rfl
theorem ints_congr {ik : IntKind} {f f' : Nat → Nat} {n : Nat} (h : ∀ j, j < n → f j = f' j) : ints ik f n = ints ik f' n := by
 unfold ints
 exact List.map_congr_left fun j hj => by rw [h j (by simpa using hj)]
def up (f : Nat → Nat) (k v : Nat) : Nat → Nat := fun j => if j = k then v else f j
theorem ints_patch (ik : IntKind) (f : Nat → Nat) {n : Nat} (j v : Nat) (h : j < n) : patch (ints ik f n) j [.int ik (v : Int)] = ints ik (up f j v) n := by
 apply List.ext_getElem?
 intro k
 rw [patch_get _ _ _ (by rw [zL]; simp; omega)]
 by_cases hk : k < n
 ·rw [ints_get _ _ hk, ints_get _ _ hk]
  unfold up
  by_cases e : k = j
  ·rw [if_pos (by simp; omega), if_pos e, e]
   simp
  ·rw [if_neg (by simp; omega), if_neg e]
 ·rw [if_neg (by simp; omega), ints_none _ _ (by omega), ints_none _ _ (by omega)]
theorem ints_whole (ik : IntKind) (f : Nat → Nat) (n : Nat) : ((ints ik f n).drop 0).take n = ints ik f n := by
 rw [List.drop_zero, List.take_of_length_le (by rw [zL]; omega)]
theorem ints_patch0 (ik : IntKind) (f f' : Nat → Nat) (n : Nat) : patch (ints ik f n) 0 (ints ik f' n) = ints ik f' n := by
 apply List.ext_getElem?
 intro k
 rw [patch_get _ _ _ (by rw [zL, zL]; omega)]
 by_cases hk : k < n
 ·rw [if_pos (by rw [zL]; omega), Nat.sub_zero]
 ·rw [if_neg (by rw [zL]; omega), ints_none _ _ (by omega), ints_none _ _ (by omega)]
end Fs
end Rg
end Go.Proofs.YtacicklddhehaaaGreatDoor
end
section
namespace Go.Proofs.YtacicklddhehaaaGreatDoor
open Go.RowKit
namespace Rg
section
variable {P : Program} {ops : Array Oper} {ks : List Kind} {a₀ : Act} {w₀ : World} {Q : Exit → Act → World → Prop}
end
end Rg
end Go.Proofs.YtacicklddhehaaaGreatDoor
end
section
namespace Go.Proofs.YtacicklddhehaaaGreatDoor
open Go.RowKit
namespace Rg
section
variable {P : Program} {ops : Array Oper} {a₀ : Act} {Q : Exit → Act → World → Prop}
/-- Others than the first one do not hang on what it will answer. -/
theorem Agree.other {n : Nat} {v v' : Value} {qs : List Kind} (hO : Orderly ops (.call v :: qs) n) (hO' : Orderly ops (.call v' :: qs) n) (hn : n = a₀.tmps.size) {l : Array Bool} {J : Nat → Nat} {a : Act} (h : Agree ops (.call v :: qs) a₀ l J a) (h0 : l.getD 0 false = false) : Agree ops (.call v' :: qs) a₀ l J a := by
 refine ⟨h.defers, h.size, fun d hd => ?_⟩
 rw [h.slots d hd]
 by_cases hw : ∃ (j : Nat) (oj : Oper), ops[j]? = some oj ∧ oj.dst = some d
 ·obtain ⟨j, oj, hj, hdj⟩ := hw
  have hl := hd j oj hj hdj
  cases j with
  | zero => rw [h0] at hl; cases hl
  | succ j =>
   obtain ⟨kj, hkj⟩ := kind_at hO hj
   have hkj' : (Kind.call v' :: qs)[j + 1]? = some kj := by simpa using hkj
   rw [fill_one hO hn J hj hkj hdj, fill_one hO' hn J hj hkj' hdj]
 ·have hno : ∀ o' ∈ ops.toList, o'.dst ≠ some d := fun o' ho' hd' => by
   obtain ⟨j, hj, ej⟩ := List.getElem_of_mem ho'
   exact hw ⟨j, o', by rw [← Array.getElem?_toList, List.getElem?_eq_getElem hj, ej], hd'⟩
  rw [fill_other J d 0 _ _ _ hno, fill_other J d 0 _ _ _ hno]
end
end Rg
end Go.Proofs.YtacicklddhehaaaGreatDoor
end
section
namespace Go.Proofs.YtacicklddhehaaaGreatDoor
namespace Rg
namespace Fs
set_option maxRecDepth 100000
theorem mg_low {a b t c : Nat} : (((a * b) % 18446744073709551616 + t) % 18446744073709551616 + c) % 18446744073709551616 = (a * b + t + c) % 18446744073709551616 := by
 generalize a * b = m
 omega
theorem mg_high {a b t c : Nat} (ha : a < 18446744073709551616) (hb : b < 18446744073709551616) (ht : t < 18446744073709551616) (hc : c < 18446744073709551616) : (((a * b) / 18446744073709551616 + ((a * b) % 18446744073709551616 + t) / 18446744073709551616) % 18446744073709551616 + (((a * b) % 18446744073709551616 + t) % 18446744073709551616 + c) / 18446744073709551616) % 18446744073709551616 = (a * b + t + c) / 18446744073709551616 := by
 have h : a * b ≤ 18446744073709551615 * 18446744073709551615 := Nat.mul_le_mul (by omega) (by omega)
 generalize a * b = m at h ⊢
 omega
theorem mg_top {a b t c : Nat} (ha : a < 18446744073709551616) (hb : b < 18446744073709551616) (ht : t < 18446744073709551616) (hc : c < 18446744073709551616) : (a * b + t + c) / 18446744073709551616 < 18446744073709551616 := by
 have h : a * b ≤ 18446744073709551615 * 18446744073709551615 := Nat.mul_le_mul (by omega) (by omega)
 generalize a * b = m at h ⊢
 omega
/-- The number of n words. -/
def gv (f : Nat → Nat) : Nat → Nat
 | 0 => 0
 | n + 1 => gv f n + f n * 18446744073709551616 ^ n
theorem gv_cg {f g : Nat → Nat} : ∀ n, (∀ i, i < n → f i = g i) → gv f n = gv g n
 | 0, _ => rfl
 | n + 1, h => by
  unfold gv
  rw [gv_cg n (fun i hi => h i (by omega)), h n (by omega)]
theorem gv_tail (f : Nat → Nat) : ∀ n, gv f (n + 1) = f 0 + 18446744073709551616 * gv (fun i => f (i + 1)) n
 | 0 => by
  show 0 + f 0 * 18446744073709551616 ^ 0 = f 0 + 18446744073709551616 * 0
  rw [Nat.pow_zero]
  omega
 | n + 1 => by
  rw [show gv f (n + 1 + 1) = gv f (n + 1) + f (n + 1) * 18446744073709551616 ^ (n + 1) from rfl, gv_tail f n, show gv (fun i => f (i + 1)) (n + 1) = gv (fun i => f (i + 1)) n + f (n + 1) * 18446744073709551616 ^ n from rfl, Nat.mul_add, Nat.pow_succ, Nat.add_assoc]
  congr 2
  rw [← Nat.mul_assoc, Nat.mul_comm]
theorem gv_lt {f : Nat → Nat} : ∀ n, (∀ i, i < n → f i < 18446744073709551616) → gv f n < 18446744073709551616 ^ n
 | 0, _ => by show 0 < 1; decide
 | n + 1, h => by
  have h1 := gv_lt n (fun i hi => h i (by omega))
  have h2 := h n (by omega)
  unfold gv
  rw [Nat.pow_succ]
  have h3 : (f n + 1) * 18446744073709551616 ^ n ≤ 18446744073709551616 * 18446744073709551616 ^ n := Nat.mul_le_mul_right _ (by omega)
  rw [Nat.add_mul, Nat.one_mul] at h3
  rw [Nat.mul_comm (18446744073709551616 ^ n)]
  omega
/-- A row's carry. -/
def rwc (a : Nat) (b t : Nat → Nat) : Nat → Nat
 | 0 => 0
 | i + 1 => (a * b i + t i + rwc a b t i) / 18446744073709551616
def rwl (a : Nat) (b t : Nat → Nat) (i : Nat) : Nat := (a * b i + t i + rwc a b t i) % 18446744073709551616
theorem rwc_lt {a : Nat} {b t : Nat → Nat} (ha : a < 18446744073709551616) : ∀ n, (∀ i, i < n → b i < 18446744073709551616) → (∀ i, i < n → t i < 18446744073709551616) → rwc a b t n < 18446744073709551616
 | 0, _, _ => by show 0 < 18446744073709551616; decide
 | n + 1, hb, ht => mg_top ha (hb n (by omega)) (ht n (by omega)) (rwc_lt ha n (fun i hi => hb i (by omega)) (fun i hi => ht i (by omega)))
theorem rwl_val (a : Nat) (b t : Nat → Nat) : ∀ n, gv (rwl a b t) n + rwc a b t n * 18446744073709551616 ^ n = a * gv b n + gv t n
 | 0 => by show 0 + 0 * 18446744073709551616 ^ 0 = a * 0 + 0; omega
 | n + 1 => by
  have h := rwl_val a b t n
  have e : rwl a b t n + 18446744073709551616 * rwc a b t (n + 1) = a * b n + t n + rwc a b t n := by
   show (a * b n + t n + rwc a b t n) % 18446744073709551616 + 18446744073709551616 * ((a * b n + t n + rwc a b t n) / 18446744073709551616) = _
   exact Nat.mod_add_div _ _
  have e2 : rwl a b t n * 18446744073709551616 ^ n + rwc a b t (n + 1) * 18446744073709551616 ^ (n + 1) = (a * b n) * 18446744073709551616 ^ n + t n * 18446744073709551616 ^ n + rwc a b t n * 18446744073709551616 ^ n := by
   rw [← Nat.add_mul, ← Nat.add_mul, ← e, Nat.add_mul, Nat.pow_succ]
   congr 1
   rw [Nat.mul_comm (18446744073709551616 ^ n) 18446744073709551616, ← Nat.mul_assoc]
   congr 1
   exact Nat.mul_comm _ _
  have e3 : a * gv b (n + 1) = a * gv b n + (a * b n) * 18446744073709551616 ^ n := by
   rw [show gv b (n + 1) = gv b n + b n * 18446744073709551616 ^ n from rfl, Nat.mul_add, Nat.mul_assoc]
  have e4 : gv t (n + 1) = gv t n + t n * 18446744073709551616 ^ n := rfl
  have e5 : gv (rwl a b t) (n + 1) = gv (rwl a b t) n + rwl a b t n * 18446744073709551616 ^ n := rfl
  rw [e3, e4, e5]
  omega
/-- The row behind t + a b: eight words. -/
def rw8 (a : Nat) (b t : Nat → Nat) (i : Nat) : Nat := if i < 6 then rwl a b t i else if i = 6 then (t 6 + rwc a b t 6) % 18446744073709551616 else (t 7 + (t 6 + rwc a b t 6) / 18446744073709551616) % 18446744073709551616
theorem rw8_lt {a : Nat} {b t : Nat → Nat} (i : Nat) : rw8 a b t i < 18446744073709551616 := by
 unfold rw8 rwl
 split
 ·exact Nat.mod_lt _ (by decide)
 ·split
  ·exact Nat.mod_lt _ (by decide)
  ·exact Nat.mod_lt _ (by decide)
theorem rw8_val {a : Nat} {b t : Nat → Nat} (ha : a < 18446744073709551616) (hb : ∀ i, i < 6 → b i < 18446744073709551616) (ht : ∀ i, i < 7 → t i < 18446744073709551616) (h7 : t 7 < 18446744073709551615) : gv (rw8 a b t) 8 = a * gv b 6 + gv t 8 := by
 have h := rwl_val a b t 6
 have hc := rwc_lt ha 6 hb (fun i hi => ht i (by omega))
 have h6 := ht 6 (by omega)
 have e : gv (rw8 a b t) 6 = gv (rwl a b t) 6 := gv_cg 6 (fun i hi => if_pos hi)
 have e6 : rw8 a b t 6 = (t 6 + rwc a b t 6) % 18446744073709551616 := rfl
 have e7 : rw8 a b t 7 = t 7 + (t 6 + rwc a b t 6) / 18446744073709551616 := by
  show (t 7 + (t 6 + rwc a b t 6) / 18446744073709551616) % 18446744073709551616 = _
  omega
 have d1 : gv (rw8 a b t) 8 = gv (rw8 a b t) 6 + rw8 a b t 6 * 18446744073709551616 ^ 6 + rw8 a b t 7 * 18446744073709551616 ^ 7 := rfl
 have d2 : gv t 8 = gv t 6 + t 6 * 18446744073709551616 ^ 6 + t 7 * 18446744073709551616 ^ 7 := rfl
 rw [d1, d2, e, e6, e7]
 generalize gv (rwl a b t) 6 = x at h ⊢
 generalize rwc a b t 6 = c at h hc ⊢
 generalize a * gv b 6 = y at h ⊢
 generalize gv t 6 = z at h ⊢
 generalize t 6 = u at h6 ⊢
 generalize t 7 = v at h7 ⊢
 rw [show 18446744073709551616 ^ 7 = 18446744073709551616 ^ 6 * 18446744073709551616 from rfl]
 generalize (18446744073709551616 ^ 6 : Nat) = R at h ⊢
 have e3 := Nat.mod_add_div (u + c) 18446744073709551616
 generalize (u + c) % 18446744073709551616 = p at e3 ⊢
 generalize (u + c) / 18446744073709551616 = q at e3 ⊢
 have e4 : p * R + (v + q) * (R * 18446744073709551616) = (p + 18446744073709551616 * q) * R + v * (R * 18446744073709551616) := by
  rw [Nat.add_mul, Nat.add_mul]
  have : q * (R * 18446744073709551616) = 18446744073709551616 * q * R := by rw [Nat.mul_comm R, ← Nat.mul_assoc, Nat.mul_comm q]
  omega
 have e5 : (u + c) * R = u * R + c * R := Nat.add_mul _ _ _
 rw [Nat.add_assoc, e4, e3, e5]
 omega
/-- What is done for one word: a row of a word times b, a row that makes the lowest word 0, a word down. -/
def mgm (less : Nat) (r : Nat → Nat) : Nat := r 0 * less % 18446744073709551616
def mgs (less : Nat) (N b t : Nat → Nat) (a : Nat) (i : Nat) : Nat := if i = 7 then 0 else if i < 7 then rw8 (mgm less (rw8 a b t)) N (rw8 a b t) (i + 1) else rw8 (mgm less (rw8 a b t)) N (rw8 a b t) i
theorem mgs_lt {less : Nat} {N b t : Nat → Nat} {a : Nat} (i : Nat) : mgs less N b t a i < 18446744073709551616 := by
 unfold mgs
 split
 ·decide
 ·split
  ·exact rw8_lt _
  ·exact rw8_lt _
theorem mg_zero {n less x : Nat} (h : (n * less + 1) % 18446744073709551616 = 0) : (x * less % 18446744073709551616 * n + x) % 18446744073709551616 = 0 := by
 have e : (x * less % 18446744073709551616 * n + x) % 18446744073709551616 = (x * (n * less + 1)) % 18446744073709551616 := by
  rw [Nat.add_mod, Nat.mod_mul_mod, ← Nat.add_mod, Nat.mul_add, Nat.mul_one, Nat.mul_assoc, Nat.mul_comm less]
 rw [e, Nat.mul_mod, h]
 rfl
/-- One word: T' 2^64 = T + a b + m n; it stays below 2 n. -/
theorem mgs_val {less : Nat} {N b t : Nat → Nat} {a : Nat} (ha : a < 18446744073709551616) (hb : ∀ i, i < 6 → b i < 18446744073709551616) (hN : ∀ i, i < 6 → N i < 18446744073709551616) (ht : ∀ i, i < 7 → t i < 18446744073709551616) (h7 : t 7 = 0) (hl : (N 0 * less + 1) % 18446744073709551616 = 0) (hbN : gv b 6 < gv N 6) (hT : gv t 8 < 2 * gv N 6) :
  gv (mgs less N b t a) 8 * 18446744073709551616 = gv t 8 + a * gv b 6 + mgm less (rw8 a b t) * gv N 6 ∧ gv (mgs less N b t a) 8 < 2 * gv N 6 := by
 have v1 := rw8_val (a := a) (b := b) (t := t) ha hb ht (by omega)
 have hm : mgm less (rw8 a b t) < 18446744073709551616 := Nat.mod_lt _ (by decide)
 have ab : a * gv b 6 ≤ 18446744073709551615 * gv N 6 := Nat.mul_le_mul (by omega) (by omega)
 have NB := gv_lt 6 hN
 have h71 : rw8 a b t 7 < 18446744073709551615 := by
  show (t 7 + (t 6 + rwc a b t 6) / 18446744073709551616) % 18446744073709551616 < _
  have h6 := ht 6 (by omega)
  have hc := rwc_lt ha 6 hb (fun i hi => ht i (by omega))
  omega
 have v2 := rw8_val (a := mgm less (rw8 a b t)) (b := N) (t := rw8 a b t) hm hN (fun i _ => rw8_lt i) h71
 have z : rw8 (mgm less (rw8 a b t)) N (rw8 a b t) 0 = 0 := by
  show (mgm less (rw8 a b t) * N 0 + rw8 a b t 0 + 0) % 18446744073709551616 = 0
  rw [Nat.add_zero]
  exact mg_zero hl
 have v3 := gv_tail (rw8 (mgm less (rw8 a b t)) N (rw8 a b t)) 7
 rw [z, Nat.zero_add] at v3
 have v4 : gv (mgs less N b t a) 8 = gv (fun i => rw8 (mgm less (rw8 a b t)) N (rw8 a b t) (i + 1)) 7 := by
  show gv (mgs less N b t a) 7 + 0 * 18446744073709551616 ^ 7 = _
  rw [Nat.zero_mul, Nat.add_zero]
  exact gv_cg 7 (fun i hi => (if_neg (by omega)).trans (if_pos hi))
 have v5 : gv (mgs less N b t a) 8 * 18446744073709551616 = gv t 8 + a * gv b 6 + mgm less (rw8 a b t) * gv N 6 := by
  rw [v4, Nat.mul_comm, ← v3, v2, v1]
  omega
 refine ⟨v5, ?_⟩
 have mN : mgm less (rw8 a b t) * gv N 6 ≤ 18446744073709551615 * gv N 6 := Nat.mul_le_mul_right _ (by omega)
 have ab2 : a * gv b 6 ≤ 18446744073709551615 * (gv N 6 - 1) := Nat.mul_le_mul (by omega) (by omega)
 generalize gv (mgs less N b t a) 8 = x at v5 ⊢
 generalize a * gv b 6 = p at v5 ab ab2
 generalize mgm less (rw8 a b t) * gv N 6 = q at v5 mN
 omega
/-- After k words. -/
def yE (less : Nat) (N a b : Nat → Nat) : Nat → Nat → Nat
 | 0 => fun _ => 0
 | k + 1 => mgs less N b (yE less N a b k) (a k)
theorem mgt_lt {less : Nat} {N a b : Nat → Nat} (k i : Nat) : yE less N a b k i < 18446744073709551616 := by
 cases k with
 | zero => show 0 < 18446744073709551616; decide
 | succ k => exact mgs_lt i
theorem mgt_7 (less : Nat) (N a b : Nat → Nat) (k : Nat) : yE less N a b k 7 = 0 := by
 cases k with
 | zero => rfl
 | succ k => rfl
theorem gv_zero : ∀ n, gv (fun _ => 0) n = 0
 | 0 => rfl
 | n + 1 => by
  show gv (fun _ => 0) n + 0 * 18446744073709551616 ^ n = 0
  rw [gv_zero n, Nat.zero_mul]
theorem mgt_val {less : Nat} {N a b : Nat → Nat} (hb : ∀ i, i < 6 → b i < 18446744073709551616) (hN : ∀ i, i < 6 → N i < 18446744073709551616) (hl : (N 0 * less + 1) % 18446744073709551616 = 0) (hbN : gv b 6 < gv N 6) : ∀ k, (∀ i, i < k → a i < 18446744073709551616) → gv (yE less N a b k) 8 < 2 * gv N 6 ∧ ∃ m, gv (yE less N a b k) 8 * 18446744073709551616 ^ k = gv a k * gv b 6 + m * gv N 6
 | 0, _ => by
  refine ⟨by show gv (fun _ => 0) 8 < _; rw [gv_zero]; omega, 0, ?_⟩
  show gv (fun _ => 0) 8 * 18446744073709551616 ^ 0 = 0 * gv b 6 + 0 * gv N 6
  rw [gv_zero]
  omega
 | k + 1, ha => by
  obtain ⟨h1, m, h2⟩ := mgt_val hb hN hl hbN k (fun i hi => ha i (by omega))
  have h3 := mgs_val (less := less) (N := N) (b := b) (t := yE less N a b k) (a := a k) (ha k (by omega)) hb hN (fun i _ => mgt_lt k i) (mgt_7 _ _ _ _ k) hl hbN h1
  refine ⟨h3.2, m + mgm less (rw8 (a k) b (yE less N a b k)) * 18446744073709551616 ^ k, ?_⟩
  have h4 := h3.1
  show gv (mgs less N b (yE less N a b k) (a k)) 8 * 18446744073709551616 ^ (k + 1) = (gv a k + a k * 18446744073709551616 ^ k) * gv b 6 + _
  rw [Nat.pow_succ, Nat.mul_comm (18446744073709551616 ^ k) 18446744073709551616, ← Nat.mul_assoc, h4]
  generalize gv (yE less N a b k) 8 = x at h2 ⊢
  generalize mgm less (rw8 (a k) b (yE less N a b k)) = y
  generalize (18446744073709551616 ^ k : Nat) = R at h2 ⊢
  rw [Nat.add_mul, Nat.add_mul, Nat.add_mul, Nat.add_mul, h2]
  have e1 : a k * gv b 6 * R = a k * R * gv b 6 := by rw [Nat.mul_assoc, Nat.mul_comm (gv b 6), ← Nat.mul_assoc]
  have e2 : y * gv N 6 * R = y * R * gv N 6 := by rw [Nat.mul_assoc, Nat.mul_comm (gv N 6), ← Nat.mul_assoc]
  omega
/-- Montgomery's product: below n, and times 2^384 it leaves what a b leaves. -/
theorem mont_val {less : Nat} {N a b : Nat → Nat} (ha : ∀ i, i < 6 → a i < 18446744073709551616) (hb : ∀ i, i < 6 → b i < 18446744073709551616) (hN : ∀ i, i < 6 → N i < 18446744073709551616) (hl : (N 0 * less + 1) % 18446744073709551616 = 0) (hbN : gv b 6 < gv N 6) :
  gv (yE less N a b 6) 8 % gv N 6 * 18446744073709551616 ^ 6 % gv N 6 = gv a 6 * gv b 6 % gv N 6 := by
 obtain ⟨_, m, h⟩ := mgt_val hb hN hl hbN 6 ha
 rw [Nat.mod_mul_mod, h, Nat.add_mul_mod_self_right]
/-- Two such products, the second with what 2^768 leaves: the product. -/
theorem mont_two {n x y p s R Ri : Nat} (h1 : x * R % n = p % n) (h2 : y * R % n = x * s % n) (hs : s % n = R * R % n) (hR : R * Ri % n = 1 % n) : y % n = p % n := by
 have e1 : y * R % n = p * R % n := by
  rw [h2, Nat.mul_mod, hs, ← Nat.mul_mod, ← Nat.mul_assoc, Nat.mul_mod, h1, ← Nat.mul_mod]
 have e2 : ∀ z : Nat, z * R * Ri % n = z % n := fun z => by
  rw [Nat.mul_assoc, Nat.mul_mod, hR, ← Nat.mul_mod, Nat.mul_one]
 rw [← e2 y, Nat.mul_mod, e1, ← Nat.mul_mod, e2]
end Fs
end Rg
end Go.Proofs.YtacicklddhehaaaGreatDoor
end
section
namespace Go.Proofs.YtacicklddhehaaaGreatDoor
open Go.RowKit
namespace Rg
namespace Fs
set_option maxRecDepth 100000
section
variable {ρ : Operand → Value} {o : Oper} {x y : Operand} {g off j n : Nat} {w : World}
theorem ex_mk25 (ho : o.op = .alloc 24) : (execOp ρ o).run Tryz.prog w = .ok (.value (.pointer (some ⟨w.heap.size, 0, none⟩))) (w.alloc (.cells (ints .u64 (fun _ => 0) 6).toArray 24)) := by
 simp only [execOp, ho]
 go_simp
 rfl
theorem ex_ix_25 (ho : o.op = .indexAddr 24 x y) (hx : ρ x = PT g off) (hy : ρ y = .int .i64 ((j : Nat) : Int)) (hj : j < 6) : (execOp ρ o).run Tryz.prog w = .ok (.value (PT g (off + j))) w := by
 have h1 : (j : Int) < 6 := by omega
 simp only [execOp, ho, hx, hy]
 clear ho hx hy
 go_simp
theorem ex_ix0_25 (ho : o.op = .indexAddr 24 x y) (hx : ρ x = PT g 0) (hy : ρ y = .int .i64 ((j : Nat) : Int)) (hj : j < 6) : (execOp ρ o).run Tryz.prog w = .ok (.value (PT g j)) w := by
 have h := ex_ix_25 (w := w) ho hx hy hj
 rw [Nat.zero_add] at h
 exact h
theorem ex_mk63 (ho : o.op = .alloc 76) : (execOp ρ o).run Tryz.prog w = .ok (.value (.pointer (some ⟨w.heap.size, 0, none⟩))) (w.alloc (.cells (ints .u64 (fun _ => 0) 8).toArray 76)) := by
 simp only [execOp, ho]
 go_simp
 rfl
theorem ex_ix_63 (ho : o.op = .indexAddr 76 x y) (hx : ρ x = PT g off) (hy : ρ y = .int .i64 ((j : Nat) : Int)) (hj : j < 8) : (execOp ρ o).run Tryz.prog w = .ok (.value (PT g (off + j))) w := by
 have h1 : (j : Int) < 8 := by omega
 simp only [execOp, ho, hx, hy]
 clear ho hx hy
 go_simp
theorem ex_ix0_63 (ho : o.op = .indexAddr 76 x y) (hx : ρ x = PT g 0) (hy : ρ y = .int .i64 ((j : Nat) : Int)) (hj : j < 8) : (execOp ρ o).run Tryz.prog w = .ok (.value (PT g j)) w := by
 have h := ex_ix_63 (w := w) ho hx hy hj
 rw [Nat.zero_add] at h
 exact h
end
def plo (x y c : Nat) : Nat := (x + y + c) % 18446744073709551616
def phi (x y c : Nat) : Nat := (x + y + c) / 18446744073709551616
theorem add64N (x y c : Nat) (hc : c ≤ 1) (w : World) : (callFunc 64 #[U x, U y, U c]).run Tryz.prog w = .ok (.value (.tuple #[U (plo x y c), U (phi x y c)])) w := by
 have h := run_callFunc_extern Tryz.func64 (by kernel_rfl) (by kernel_rfl) (by kernel_rfl) (e := add64Entry) (by kernel_rfl) #[.int .u64 x, .int .u64 y, .int .u64 c] w
 rw [run_add64 x y c (by omega) (by omega) (by omega) (by omega)] at h
 rw [h]
 unfold plo phi
 have e1 : ((x : Int) + y + c) % 18446744073709551616 = (((x + y + c) % 18446744073709551616 : Nat) : Int) := by omega
 have e2 : ((x : Int) + y + c) / 18446744073709551616 = (((x + y + c) / 18446744073709551616 : Nat) : Int) := by omega
 rw [e1, e2]
 rfl
theorem mul64N (x y : Nat) (hx : x < 18446744073709551616) (hy : y < 18446744073709551616) (w : World) :
  Calls Tryz.prog 91 #[U x, U y] w (Rt w (.tuple #[U (x * y / 18446744073709551616), U (x * y % 18446744073709551616)])) :=
 Calls.mono (Any.bits_Mul64 Tryz.lays264 x y hx hy w) (fun _ _ h => ⟨h.1, by rw [h.2]; exact Below.refl _ _⟩)
theorem ex_add64E {ρ : Operand → Value} {o : Oper} {x y : Operand} {a b v : Nat} {w : World} (h : c64 (a + b) = v) (ho : o.op = .binOp .add 22 x y 22) (hx : ρ x = U a) (hy : ρ y = U b) : (execOp ρ o).run Tryz.prog w = .ok (.value (U v)) w := by
 rw [← h]
 exact ex_add64 ho hx hy
/-- A row on its way. -/
def rwt (a : Nat) (b t : Nat → Nat) (i j : Nat) : Nat := if j < i then rwl a b t j else t j
theorem rwt_at (a : Nat) (b t : Nat → Nat) (i : Nat) : rwt a b t i i = t i := if_neg (Nat.lt_irrefl _)
theorem row_lo (a x t c : Nat) : plo (plo (a * x % 18446744073709551616) t 0) c 0 = (a * x + t + c) % 18446744073709551616 := by
 unfold plo
 rw [Nat.add_zero, Nat.add_zero]
 exact mg_low
theorem row_hi {a x t c : Nat} (ha : a < 18446744073709551616) (hx : x < 18446744073709551616) (ht : t < 18446744073709551616) (hc : c < 18446744073709551616) : c64 (c64 (a * x / 18446744073709551616 + phi (a * x % 18446744073709551616) t 0) + phi (plo (a * x % 18446744073709551616) t 0) c 0) = (a * x + t + c) / 18446744073709551616 := by
 unfold plo phi c64
 rw [Nat.add_zero, Nat.add_zero]
 exact mg_high ha hx ht hc
theorem rwt_succ (a : Nat) (b t : Nat → Nat) (i : Nat) : up (rwt a b t i) i (plo (plo (a * b i % 18446744073709551616) (rwt a b t i i) 0) (rwc a b t i) 0) = rwt a b t (i + 1) := by
 funext j
 rw [row_lo, rwt_at]
 unfold up rwt
 by_cases h : j = i
 ·subst h
  rw [if_pos rfl, if_pos (Nat.lt_succ_self _)]
  rfl
 ·rw [if_neg h]
  by_cases h2 : j < i
  ·rw [if_pos h2, if_pos (by omega)]
  ·rw [if_neg h2, if_neg (by omega)]
theorem rwc_succ {a : Nat} {b t : Nat → Nat} {i : Nat} (hi : i < 6) (ha : a < 18446744073709551616) (hb : ∀ i, i < 6 → b i < 18446744073709551616) (ht : ∀ i, i < 7 → t i < 18446744073709551616) : c64 (c64 (a * b i / 18446744073709551616 + phi (a * b i % 18446744073709551616) (rwt a b t i i) 0) + phi (plo (a * b i % 18446744073709551616) (rwt a b t i i) 0) (rwc a b t i) 0) = rwc a b t (i + 1) := by
 rw [rwt_at, row_hi ha (hb i hi) (ht i (by omega)) (rwc_lt ha i (fun j hj => hb j (by omega)) (fun j hj => ht j (by omega)))]
 rfl
theorem row_end (a : Nat) (b t : Nat → Nat) (j : Nat) (hj : j < 8) : up (up (rwt a b t 6) 6 (plo (rwt a b t 6 6) (rwc a b t 6) 0)) 7 (c64 (up (rwt a b t 6) 6 (plo (rwt a b t 6 6) (rwc a b t 6) 0) 7 + phi (rwt a b t 6 6) (rwc a b t 6) 0)) j = rw8 a b t j := by
 have e7 : up (rwt a b t 6) 6 (plo (rwt a b t 6 6) (rwc a b t 6) 0) 7 = t 7 := rfl
 rw [e7, rwt_at]
 unfold rw8 up plo phi c64
 by_cases h : j = 7
 ·subst h
  rfl
 ·rw [if_neg h]
  by_cases h2 : j = 6
  ·subst h2
   rfl
  ·rw [if_neg h2, if_pos (by omega)]
   exact if_pos (by omega)
theorem call91 : CO 91 := by intro args w; go_simp
set_option maxHeartbeats 2000000 in
theorem row_any (F b t : Nat → Nat) (g a : Nat) (ha : a < 18446744073709551616) (hb : ∀ i, i < 6 → b i < 18446744073709551616) (ht : ∀ i, i < 7 → t i < 18446744073709551616) (w : World) (hm : Mm w [(g, ints .u64 t 8)]) :
  Calls Tryz.prog 72 #[.agg (ints .u64 F 13).toArray, PT g 0, U a, .agg (ints .u64 b 6).toArray] w fun e w' => e = .returned (.tuple #[]) ∧ Mm w' [(g, ints .u64 (rw8 a b t) 8)] ∧ Kp g w w' := by
 have H0 : Hid (_ ∧ _) := ⟨hm, Kp.refl g w⟩
 clear hm
 go_enter Tryz.func72, Tryz.ntmps72
 refine wp_seq ?_
 refine zD 2 [.made (ints .u64 F 13) 36, .made (ints .u64 b 6) 24] (sB H0) ?ho1 ?he1
 case ho1 => exact am (ex_boxT rfl rfl) (am (ex_boxT rfl rfl) trivial)
 intro J w1 l hM hl
 have H1 : Hid (Mm w1 ([(J 0, ints .u64 F 13), (J 1, ints .u64 b 6)] ++ _) ∧ _) := wK H0 hM hl [0, 1]
 have o1_0 := vK H0 hM hl 0
 have o1_1 := vK H0 hM hl 1
 clear hM hl l
 generalize J 0 = J1_0 at H1 o1_0 ⊢
 generalize J 1 = J1_1 at H1 o1_1 ⊢
 clear J
 refine rN (wp_seq ?_)
 refine zD 1 [.q (U 0)] (sB H1) ?ho2 ?he2
 case ho2 => exact ar trivial
 intro J w2 l hM hl
 have H2 := keepK H1 hM.below
 clear hM hl l H1 J
 refine rN (wp_seq (wp_seq ?_))
 refine zD 1 [.q (.int .i64 0)] (sB H2) ?ho3 ?he3
 case ho3 => exact ar trivial
 intro J w3 l hM hl
 have H3 := keepK H2 hM.below
 clear hM hl l H2 J
 refine rN (wp_block ?_)
 refine loop_ghost (α := Nat) (fun i0 a' w' => ∃ s0 : Nat → Value, a' = ⟨#[.agg (ints .u64 F 13).toArray, PT g 0, U a, .agg (ints .u64 b 6).toArray, PT J1_0 0, ud, ud, PT J1_1 0, U (rwc a b t i0), .int .i64 ((i0 : Nat) : Int), s0 10, s0 11, s0 12, ud, ud, s0 15, s0 16, s0 17, s0 18, s0 19, s0 20, s0 21, s0 22, s0 23, s0 24, s0 25, s0 26, s0 27, s0 28, s0 29, s0 30, s0 31, s0 32, s0 33, s0 34, s0 35, s0 36, s0 37, s0 38, s0 39, s0 40, s0 41, s0 42, s0 43, s0 44, s0 45, s0 46, s0 47, s0 48, s0 49, s0 50, s0 51, s0 52, s0 53, ud, ud, ud, ud, ud, ud, ud, ud, ud, ud, ud, ud, ud, ud, ud, ud, ud, ud, ud, ud, ud, ud], []⟩ ∧ (Mm w' [(J1_0, ints .u64 F 13), (J1_1, ints .u64 b 6), (g, ints .u64 (rwt a b t i0) 8)] ∧ Kp g w w') ∧ i0 ≤ 6) (fun i0 => 6 - i0) 0 ?st0 ?rd0
 case st0 => exact ⟨(yA [ud, ud, ud, ud, ud, ud, ud, ud, ud, ud, ud, ud, ud, ud, ud, ud, ud, ud, ud, ud, ud, ud, ud, ud, ud, ud, ud, ud, ud, ud, ud, ud, ud, ud, ud, ud, ud, ud, ud, ud, ud, ud, ud, ud, ud, ud, ud, ud, ud, ud, ud, ud, ud, ud]), rfl, ⟨H3.out.1, H3.out.2⟩, by omega⟩
 intro i0 a' w4 hI
 obtain ⟨s0, rfl, hMB, hk0⟩ := hI
 have H4 : Hid (_ ∧ _) := hMB
 clear hMB H3
 by_cases hlti0 : i0 < 6
 ·have hrd : True := trivial
  clear hrd
  refine wp_seq (wp_seq ?_)
  refine zD 2 [.q (.int .i64 ((i0 : Nat) : Int)), .q (.bool true)] (sB H4) ?ho4 ?he4
  case ho4 => exact ar (ak (by refine fun J => ⟨rfl, fun w' h => ?_⟩; clear h; go_simp <;> omega) trivial)
  intro J w5 l hM hl
  have H5 := keepK H4 hM.below
  clear hM hl l H4 J
  refine rN (wp_cond_true rfl ?_)
  refine wp_skip (zA ?_)
  refine wp_seq (wp_block (wp_seq ?_))
  refine zD 10 [.q (U a), .q (.int .i64 ((i0 : Nat) : Int)), .q (PT J1_1 i0), .q (U (b i0)), .call (.tuple #[U (a * (b i0) / 18446744073709551616), U (a * (b i0) % 18446744073709551616)]), .q (.tuple #[U (a * (b i0) / 18446744073709551616), U (a * (b i0) % 18446744073709551616)]), .q (U (a * (b i0) / 18446744073709551616)), .q (U (a * (b i0) % 18446744073709551616)), .q (U (a * (b i0) / 18446744073709551616)), .q (U (a * (b i0) % 18446744073709551616))] (sB H5) ?ho5 ?he5
  case ho5 => exact ar (ar (ak (fun J => ⟨rfl, fun w' _ => ex_ix0_25 (j := i0) rfl rfl rfl (by omega)⟩) (aq (fun w' h => ex_loadC h 1 rfl rfl rfl Ai22 (ints_get _ _ (by omega))) (ac (fun w' h => eC call91 (mul64N a (b i0) ha (hb i0 (by omega)) w')) (ar (ag (ag (ar (ar trivial)))))))))
  intro J w6 l hM hl
  have H6 := keepK H5 hM.below
  clear hM hl l H5 J
  refine rN (wp_seq ?_)
  refine zD 10 [.q (U (a * (b i0) % 18446744073709551616)), .q (PT g 0), .q (.int .i64 ((i0 : Nat) : Int)), .q (PT g 0), .q (PT g i0), .q (U ((rwt a b t i0) i0)), .q (.tuple #[U (plo (a * (b i0) % 18446744073709551616) ((rwt a b t i0) i0) 0), U (phi (a * (b i0) % 18446744073709551616) ((rwt a b t i0) i0) 0)]), .q (.tuple #[U (plo (a * (b i0) % 18446744073709551616) ((rwt a b t i0) i0) 0), U (phi (a * (b i0) % 18446744073709551616) ((rwt a b t i0) i0) 0)]), .q (U (plo (a * (b i0) % 18446744073709551616) ((rwt a b t i0) i0) 0)), .q (U (phi (a * (b i0) % 18446744073709551616) ((rwt a b t i0) i0) 0))] (sB H6) ?ho6 ?he6
  case ho6 => exact ar (ar (ar (ag (ak (fun J => ⟨rfl, fun w' _ => ex_ix0_63 (j := i0) rfl rfl rfl (by omega)⟩) (aq (fun w' h => ex_loadC h 2 rfl rfl rfl Ai22 (ints_get _ _ (by omega))) (aq (fun w' h => ex_extern rfl (add64N (a * (b i0) % 18446744073709551616) ((rwt a b t i0) i0) 0 (by decide) w') rfl (mpn rfl)) (ar (ag (ag trivial)))))))))
  intro J w7 l hM hl
  have H7 := keepK H6 hM.below
  clear hM hl l H6 J
  refine zG (l := [10, 11]) rfl ?_
  refine zN (d := 11) rfl rfl rfl rfl ?_
  simp only [Act.put, sa, sz, ss]
  refine zN (d := 12) rfl rfl rfl rfl ?_
  simp only [Act.put, sa, sz, ss]
  refine zE (zA (wp_seq ?_))
  refine zD 3 [.q (U (a * (b i0) / 18446744073709551616)), .q (U (phi (a * (b i0) % 18446744073709551616) ((rwt a b t i0) i0) 0)), .q (U (c64 (a * (b i0) / 18446744073709551616 + phi (a * (b i0) % 18446744073709551616) ((rwt a b t i0) i0) 0)))] (sB H7) ?ho7 ?he7
  case ho7 => exact ar (ar (ak (fun J => ⟨rfl, fun w' _ => ex_add64 rfl rfl rfl⟩) trivial))
  intro J w8 l hM hl
  have H8 := keepK H7 hM.below
  clear hM hl l H7 J
  refine zG (l := [3]) rfl ?_
  refine zN (d := 10) rfl rfl rfl rfl ?_
  simp only [Act.put, sa, sz, ss]
  refine zE (zA (wp_seq ?_))
  refine zD 6 [.q (U (plo (a * (b i0) % 18446744073709551616) ((rwt a b t i0) i0) 0)), .q (U (rwc a b t i0)), .q (.tuple #[U (plo (plo (a * (b i0) % 18446744073709551616) ((rwt a b t i0) i0) 0) (rwc a b t i0) 0), U (phi (plo (a * (b i0) % 18446744073709551616) ((rwt a b t i0) i0) 0) (rwc a b t i0) 0)]), .q (.tuple #[U (plo (plo (a * (b i0) % 18446744073709551616) ((rwt a b t i0) i0) 0) (rwc a b t i0) 0), U (phi (plo (a * (b i0) % 18446744073709551616) ((rwt a b t i0) i0) 0) (rwc a b t i0) 0)]), .q (U (plo (plo (a * (b i0) % 18446744073709551616) ((rwt a b t i0) i0) 0) (rwc a b t i0) 0)), .q (U (phi (plo (a * (b i0) % 18446744073709551616) ((rwt a b t i0) i0) 0) (rwc a b t i0) 0))] (sB H8) ?ho8 ?he8
  case ho8 => exact ar (ar (aq (fun w' h => ex_extern rfl (add64N (plo (a * (b i0) % 18446744073709551616) ((rwt a b t i0) i0) 0) (rwc a b t i0) 0 (by decide) w') rfl (mpn rfl)) (ar (ag (ag trivial)))))
  intro J w9 l hM hl
  have H9 := keepK H8 hM.below
  clear hM hl l H8 J
  refine zG (l := [6, 7]) rfl ?_
  refine zN (d := 11) rfl rfl rfl rfl ?_
  simp only [Act.put, sa, sz, ss]
  refine zN (d := 12) rfl rfl rfl rfl ?_
  simp only [Act.put, sa, sz, ss]
  refine zE (zA (wp_seq ?_))
  refine zD 4 [.q (U (c64 (a * (b i0) / 18446744073709551616 + phi (a * (b i0) % 18446744073709551616) ((rwt a b t i0) i0) 0))), .q (U (phi (plo (a * (b i0) % 18446744073709551616) ((rwt a b t i0) i0) 0) (rwc a b t i0) 0)), .q (U (rwc a b t (i0 + 1))), .q (U (rwc a b t (i0 + 1)))] (sB H9) ?ho9 ?he9
  case ho9 => exact ar (ar (ak (fun J => ⟨rfl, fun w' _ => ex_add64E (rwc_succ (by omega) ha hb ht) rfl rfl rfl⟩) (ar trivial)))
  intro J w10 l hM hl
  have H10 := keepK H9 hM.below
  clear hM hl l H9 J
  refine rN ?_
  refine zD 5 [.q (PT g 0), .q (.int .i64 ((i0 : Nat) : Int)), .q (U (plo (plo (a * (b i0) % 18446744073709551616) ((rwt a b t i0) i0) 0) (rwc a b t i0) 0)), .q (PT g 0), .q (PT g i0)] (sB H10) ?ho10 ?he10
  case ho10 => exact ar (ar (ar (ag (ak (fun J => ⟨rfl, fun w' _ => ex_ix0_63 (j := i0) rfl rfl rfl (by omega)⟩) trivial))))
  intro J w11 l hM hl
  have H11 := keepK H10 hM.below
  clear hM hl l H10 J
  refine zG (l := [5]) rfl ?_
  refine rest_store rfl rfl rfl (ex_storeI H11.out.1 2 rfl rfl As22 rfl rfl (by rw [zL]; omega)) ?_
  have H12 : Hid (Mm (w11.setCells g i0 ([U (plo (plo (a * (b i0) % 18446744073709551616) ((rwt a b t i0) i0) 0) (rwc a b t i0) 0)])) [(J1_0, ints .u64 F 13), (J1_1, ints .u64 b 6), (g, ints .u64 (rwt a b t (i0 + 1)) 8)] ∧ Kp g w (w11.setCells g i0 ([U (plo (plo (a * (b i0) % 18446744073709551616) ((rwt a b t i0) i0) 0) (rwc a b t i0) 0)]))) := ⟨by
   have h := H11.out.1.put 2 (off := i0) (vs := [U (plo (plo (a * (b i0) % 18446744073709551616) ((rwt a b t i0) i0) 0) (rwc a b t i0) 0)]) rfl (by rw [zL]; simp only [List.length_cons, List.length_nil]; omega)
   rw [ints_patch _ _ _ _ (by omega), show ints .u64 (up (rwt a b t i0) i0 (plo (plo (a * (b i0) % 18446744073709551616) ((rwt a b t i0) i0) 0) (rwc a b t i0) 0)) 8 = ints .u64 (rwt a b t (i0 + 1)) 8 by rw [show (up (rwt a b t i0) i0 (plo (plo (a * (b i0) % 18446744073709551616) ((rwt a b t i0) i0) 0) (rwc a b t i0) 0)) = rwt a b t (i0 + 1) from rwt_succ a b t i0]] at h
   exact h, H11.out.2.put (Or.inl rfl)⟩
  clear H11
  generalize hgw : World.setCells _ _ _ _ = w12 at H12 ⊢
  clear hgw
  refine zE (zT (zA ?_))
  refine zD 2 [.q (.int .i64 ((i0 : Nat) : Int)), .q (.int .i64 ((i0 + 1 : Nat) : Int))] (sB H12) ?ho11 ?he11
  case ho11 => exact ar (ak (by refine fun J => ⟨rfl, fun w' h => ?_⟩; clear h; go_simp; rw [IntKind.wrap_i64]; omega) trivial)
  intro J w13 l hM hl
  have H13 := keepK H12 hM.below
  clear hM hl l H12 J
  refine zG (l := [2]) rfl ?_
  refine zN (d := 9) rfl rfl rfl rfl ?_
  simp only [Act.put, sa, sz, ss]
  refine zE (zA ?_)
  exact ⟨i0 + 1, ⟨(yA [ud, ud, ud, ud, ud, ud, ud, ud, ud, ud, U (c64 (a * (b i0) / 18446744073709551616 + phi (a * (b i0) % 18446744073709551616) ((rwt a b t i0) i0) 0)), U (plo (plo (a * (b i0) % 18446744073709551616) ((rwt a b t i0) i0) 0) (rwc a b t i0) 0), U (phi (plo (a * (b i0) % 18446744073709551616) ((rwt a b t i0) i0) 0) (rwc a b t i0) 0), ud, ud, .int .i64 ((i0 : Nat) : Int), .bool true, .int .i64 ((i0 : Nat) : Int), .int .i64 ((i0 + 1 : Nat) : Int), .tuple #[U (a * (b i0) / 18446744073709551616), U (a * (b i0) % 18446744073709551616)], U a, .int .i64 ((i0 : Nat) : Int), PT J1_1 i0, U (b i0), .tuple #[U (a * (b i0) / 18446744073709551616), U (a * (b i0) % 18446744073709551616)], U (a * (b i0) / 18446744073709551616), U (a * (b i0) % 18446744073709551616), .tuple #[U (plo (a * (b i0) % 18446744073709551616) ((rwt a b t i0) i0) 0), U (phi (a * (b i0) % 18446744073709551616) ((rwt a b t i0) i0) 0)], U (a * (b i0) % 18446744073709551616), PT g 0, .int .i64 ((i0 : Nat) : Int), PT g 0, PT g i0, U ((rwt a b t i0) i0), .tuple #[U (plo (a * (b i0) % 18446744073709551616) ((rwt a b t i0) i0) 0), U (phi (a * (b i0) % 18446744073709551616) ((rwt a b t i0) i0) 0)], U (plo (a * (b i0) % 18446744073709551616) ((rwt a b t i0) i0) 0), U (phi (a * (b i0) % 18446744073709551616) ((rwt a b t i0) i0) 0), U (a * (b i0) / 18446744073709551616), U (phi (a * (b i0) % 18446744073709551616) ((rwt a b t i0) i0) 0), U (c64 (a * (b i0) / 18446744073709551616 + phi (a * (b i0) % 18446744073709551616) ((rwt a b t i0) i0) 0)), .tuple #[U (plo (plo (a * (b i0) % 18446744073709551616) ((rwt a b t i0) i0) 0) (rwc a b t i0) 0), U (phi (plo (a * (b i0) % 18446744073709551616) ((rwt a b t i0) i0) 0) (rwc a b t i0) 0)], U (plo (a * (b i0) % 18446744073709551616) ((rwt a b t i0) i0) 0), U (rwc a b t i0), .tuple #[U (plo (plo (a * (b i0) % 18446744073709551616) ((rwt a b t i0) i0) 0) (rwc a b t i0) 0), U (phi (plo (a * (b i0) % 18446744073709551616) ((rwt a b t i0) i0) 0) (rwc a b t i0) 0)], U (plo (plo (a * (b i0) % 18446744073709551616) ((rwt a b t i0) i0) 0) (rwc a b t i0) 0), U (phi (plo (a * (b i0) % 18446744073709551616) ((rwt a b t i0) i0) 0) (rwc a b t i0) 0), U (c64 (a * (b i0) / 18446744073709551616 + phi (a * (b i0) % 18446744073709551616) ((rwt a b t i0) i0) 0)), U (phi (plo (a * (b i0) % 18446744073709551616) ((rwt a b t i0) i0) 0) (rwc a b t i0) 0), U (rwc a b t (i0 + 1)), PT g 0, .int .i64 ((i0 : Nat) : Int), U (plo (plo (a * (b i0) % 18446744073709551616) ((rwt a b t i0) i0) 0) (rwc a b t i0) 0), PT g 0, PT g i0]), rfl, ⟨H13.out.1, H13.out.2⟩, by omega⟩, by omega⟩
 have hi0N : i0 = 6 := by omega
 subst hi0N
 refine wp_seq (wp_seq ?_)
 refine zD 2 [.q (.int .i64 ((6 : Nat) : Int)), .q (.bool false)] (sB H4) ?ho12 ?he12
 case ho12 => exact ar (ak (by refine fun J => ⟨rfl, fun w' h => ?_⟩; clear h; go_simp <;> omega) trivial)
 intro J w14 l hM hl
 have H14 := keepK H4 hM.below
 clear hM hl l H4 J
 refine rN (wp_cond_false rfl ?_)
 refine wp_exit ?_
 repeat refine then_exit ?_
 refine block_exit ?_
 refine zA (wp_seq ?_)
 refine zD 11 [.q (PT g 0), .q (PT g 0), .q (PT g 6), .q (U ((rwt a b t 6) 6)), .q (U (rwc a b t 6)), .q (.tuple #[U (plo ((rwt a b t 6) 6) (rwc a b t 6) 0), U (phi ((rwt a b t 6) 6) (rwc a b t 6) 0)]), .q (.tuple #[U (plo ((rwt a b t 6) 6) (rwc a b t 6) 0), U (phi ((rwt a b t 6) 6) (rwc a b t 6) 0)]), .q (U (plo ((rwt a b t 6) 6) (rwc a b t 6) 0)), .q (U (phi ((rwt a b t 6) 6) (rwc a b t 6) 0)), .q (U (plo ((rwt a b t 6) 6) (rwc a b t 6) 0)), .q (U (phi ((rwt a b t 6) 6) (rwc a b t 6) 0))] (sB H14) ?ho13 ?he13
 case ho13 => exact ar (ag (ak (fun J => ⟨rfl, fun w' _ => ex_ix0_63 (j := 6) rfl rfl rfl (by decide)⟩) (aq (fun w' h => ex_loadC h 2 rfl rfl rfl Ai22 (ints_get _ _ (by decide))) (ar (aq (fun w' h => ex_extern rfl (add64N ((rwt a b t 6) 6) (rwc a b t 6) 0 (by decide) w') rfl (mpn rfl)) (ar (ag (ag (ar (ar trivial))))))))))
 intro J w15 l hM hl
 have H15 := keepK H14 hM.below
 clear hM hl l H14 J
 refine rN (wp_seq ?_)
 refine zD 4 [.q (PT g 0), .q (U (plo ((rwt a b t 6) 6) (rwc a b t 6) 0)), .q (PT g 0), .q (PT g 6)] (sB H15) ?ho14 ?he14
 case ho14 => exact ar (ar (ag (ak (fun J => ⟨rfl, fun w' _ => ex_ix0_63 (j := 6) rfl rfl rfl (by decide)⟩) trivial)))
 intro J w16 l hM hl
 have H16 := keepK H15 hM.below
 clear hM hl l H15 J
 refine zG (l := [4]) rfl ?_
 refine rest_store rfl rfl rfl (ex_storeI H16.out.1 2 rfl rfl As22 rfl rfl (by rw [zL]; decide)) ?_
 have H17 : Hid (Mm (w16.setCells g 6 ([U (plo ((rwt a b t 6) 6) (rwc a b t 6) 0)])) [(J1_0, ints .u64 F 13), (J1_1, ints .u64 b 6), (g, ints .u64 (up (rwt a b t 6) 6 (plo ((rwt a b t 6) 6) (rwc a b t 6) 0)) 8)] ∧ Kp g w (w16.setCells g 6 ([U (plo ((rwt a b t 6) 6) (rwc a b t 6) 0)]))) := ⟨by
  have h := H16.out.1.put 2 (off := 6) (vs := [U (plo ((rwt a b t 6) 6) (rwc a b t 6) 0)]) rfl (by rw [zL]; simp only [List.length_cons, List.length_nil]; decide)
  rw [ints_patch _ _ _ _ (by decide)] at h
  exact h, H16.out.2.put (Or.inl rfl)⟩
 clear H16
 generalize hgw : World.setCells _ _ _ _ = w17 at H17 ⊢
 clear hgw
 refine zE (zA ?_)
 refine zQ 9 [.q (PT g 0), .q (PT g 0), .q (PT g 0), .q (PT g 7), .q (U ((up (rwt a b t 6) 6 (plo ((rwt a b t 6) 6) (rwc a b t 6) 0)) 7)), .q (U (phi ((rwt a b t 6) 6) (rwc a b t 6) 0)), .q (U (c64 ((up (rwt a b t 6) 6 (plo ((rwt a b t 6) 6) (rwc a b t 6) 0)) 7 + phi ((rwt a b t 6) 6) (rwc a b t 6) 0))), .q (PT g 0), .q (PT g 7)] (sB H17) ?ho15 ?he15
 case ho15 => exact ar (ar (ag (ak (fun J => ⟨rfl, fun w' _ => ex_ix0_63 (j := 7) rfl rfl rfl (by decide)⟩) (aq (fun w' h => ex_loadC h 2 rfl rfl rfl Ai22 (ints_get _ _ (by decide))) (ar (ak (fun J => ⟨rfl, fun w' _ => ex_add64 rfl rfl rfl⟩) (ag (ak (fun J => ⟨rfl, fun w' _ => ex_ix0_63 (j := 7) rfl rfl rfl (by decide)⟩) trivial))))))))
 intro J w18 l hM hl
 have H18 := keepK H17 hM.below
 clear hM hl l H17 J
 refine zG (l := [9]) rfl ?_
 refine rest_store rfl rfl rfl (ex_storeI H18.out.1 2 rfl rfl As22 rfl rfl (by rw [zL]; decide)) ?_
 have H19 : Hid (Mm (w18.setCells g 7 ([U (c64 ((up (rwt a b t 6) 6 (plo ((rwt a b t 6) 6) (rwc a b t 6) 0)) 7 + phi ((rwt a b t 6) 6) (rwc a b t 6) 0))])) [(J1_0, ints .u64 F 13), (J1_1, ints .u64 b 6), (g, ints .u64 (up (up (rwt a b t 6) 6 (plo ((rwt a b t 6) 6) (rwc a b t 6) 0)) 7 (c64 ((up (rwt a b t 6) 6 (plo ((rwt a b t 6) 6) (rwc a b t 6) 0)) 7 + phi ((rwt a b t 6) 6) (rwc a b t 6) 0))) 8)] ∧ Kp g w (w18.setCells g 7 ([U (c64 ((up (rwt a b t 6) 6 (plo ((rwt a b t 6) 6) (rwc a b t 6) 0)) 7 + phi ((rwt a b t 6) 6) (rwc a b t 6) 0))]))) := ⟨by
  have h := H18.out.1.put 2 (off := 7) (vs := [U (c64 ((up (rwt a b t 6) 6 (plo ((rwt a b t 6) 6) (rwc a b t 6) 0)) 7 + phi ((rwt a b t 6) 6) (rwc a b t 6) 0))]) rfl (by rw [zL]; simp only [List.length_cons, List.length_nil]; decide)
  rw [ints_patch _ _ _ _ (by decide)] at h
  exact h, H18.out.2.put (Or.inl rfl)⟩
 clear H18
 generalize hgw : World.setCells _ _ _ _ = w19 at H19 ⊢
 clear hgw
 refine zE ?_
 refine bodyPost_end (v := .tuple #[]) (by simp [results, Tryz.results72, go_sem]) rfl ?_
 have hM := H19.out.1.one 2 rfl
 rw [ints_congr (row_end a b t)] at hM
 exact ⟨rfl, hM, H19.out.2⟩
end Fs
end Rg
end Go.Proofs.YtacicklddhehaaaGreatDoor
end
