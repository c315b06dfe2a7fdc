/- Texts of the proof, joined. -/
import Derived.Test.YtacicklddhehaaaGreatDoorP4
import Derived.WalkKit
set_option maxRecDepth 100000
section
namespace Go.Proofs.YtacicklddhehaaaGreatDoor
open Go.RowKit
namespace Rg
set_option maxHeartbeats 1000000 in
theorem root_1 (g n o s a : Nat) (hr : (wd n 0).tmod 4 = 1)
  (c0 : ∀ w, Mm w [(g, zR n o s)] → Calls Tryz.prog 73 #[PT g 0] w (Rt w (.bool true))) (w : World) (hm : Mm w [(g, zR n o s)]) :
  Calls Tryz.prog 56 #[PT g 0, N a] w (Rt w (.tuple #[N 0, .int .i64 2])) := by
 have H0 : Hid (_ ∧ _) := ⟨hm, Below.refl w.heap.size w⟩
 clear hm
 have C0 : Hid _ := c0
 clear c0
 go_enter Tryz.func56, Tryz.ntmps56
 refine wp_seq ?_
 refine zD 3 [.made (zB a) 24, .made zero6 24, .q (.int .i64 0)] (sB H0) ?ho1 ?he1
 case ho1 => exact am (zU rfl rfl) (am (zF rfl) (ar trivial))
 intro J w1 l hM hl
 have H1 : Hid (Mm w1 ([(J 0, zB a), (J 1, zero6)] ++ _) ∧ _) := wB H0 hM hl [0, 1]
 have o1_0 := vB H0 hM hl 0
 have o1_1 := vB H0 hM hl 1
 clear hM hl l
 generalize J 0 = J1_0 at H1 o1_0 ⊢
 generalize J 1 = J1_1 at H1 o1_1 ⊢
 clear J
 refine rN (wp_seq (wp_seq ?_))
 refine zC 3 [.q (PT g 0), .call (.bool true), .q (.bool false)] H1 ?ho2 ?he2
 case ho2 => exact ar (ac (fun w' h => eC call73 (C0.out w' (h.one 2 rfl))) (ag trivial))
 intro _ w2 H2
 clear H1
 refine rN (wp_cond_false rfl ?_)
 refine wp_skip (zA ?_)
 refine wp_seq (wp_seq ?_)
 refine zC 7 [.q (PT g 0), .q (PT g 0), .q (PT g 0), .q (PT g 0), .q (.int .u64 (wd n 0)), .q (.int .u64 1), .q (.bool true)] H2 ?ho3 ?he3
 case ho3 => exact ar (ag (ag (ag (aq (fun w' h => ex_load1 h 2 rfl rfl rfl rfl) (ag (ag trivial))))))
 intro _ w3 H3
 clear H2
 refine rN (wp_cond_true rfl (wp_seq ?_))
 refine zC 1 [.q (N 0)] H3 ?ho4 ?he4
 case ho4 => exact ak (by refine fun J => ⟨rfl, fun w' h => ?_⟩; clear h; exact ex_zero6 rfl) trivial
 intro _ w4 H4
 clear H3
 refine zG (l := [1, 2]) rfl ?_
 refine sG rfl (fun h => zM h 1 rfl rfl rfl rfl (Nat.le_of_ble_eq_true rfl)) 1 [_, (_, zB 0), _] H4 o1_1 fun w5 H5 => ?_
 clear H4
 refine zN (d := 5) rfl rfl rfl rfl ?_
 simp only [Act.put, sa, sz, ss]
 refine zE (zA (wp_ret ?_))
 repeat (first | refine zK ?_ | refine zI ?_)
 have c0 := H5.out.1.get 1 rfl 0 rfl
 have c1 := H5.out.1.get 1 rfl 1 rfl
 have c2 := H5.out.1.get 1 rfl 2 rfl
 have c3 := H5.out.1.get 1 rfl 3 rfl
 have c4 := H5.out.1.get 1 rfl 4 rfl
 have c5 := H5.out.1.get 1 rfl 5 rfl
 refine bodyPost_ret (v := .tuple #[N 0, .int .i64 2]) (by simp [results, Tryz.results56, go_sem, *]) rfl ?_
 exact ⟨rfl, H5.out.2⟩
set_option maxHeartbeats 1000000 in
theorem root_2 (g n o s a x ee c q r : Nat) (hr : (wd n 0).tmod 4 = 3) (cx : Bool) (e1 : ∀ w, (Op.equalIn 10000 24 (N q) (N r)).run Tryz.prog w = .ok false w)
  (c0 : ∀ w, Mm w [(g, zR n o s)] → Calls Tryz.prog 73 #[PT g 0] w (Rt w (.bool true)))
  (c1 : ∀ w, Calls Tryz.prog 65 #[.int .u64 1] w (Rt w (N 1)))
  (c2 : ∀ w, Calls Tryz.prog 46 #[N n, N 1] w (Rt w (.tuple #[N x, .bool cx])))
  (c3 : ∀ w, Calls Tryz.prog 82 #[N x, .int .i64 (-2)] w (Rt w (N ee)))
  (c4 : ∀ w, Mm w [(g, zR n o s)] → Calls Tryz.prog 81 #[PT g 0, N a, N ee] w (Rt w (N c)))
  (c5 : ∀ w, Mm w [(g, zR n o s)] → Calls Tryz.prog 54 #[PT g 0, N c, N c] w (Rt w (N q)))
  (c6 : ∀ w, Mm w [(g, zR n o s)] → Calls Tryz.prog 74 #[PT g 0, N a] w (Rt w (N r))) (w : World) (hm : Mm w [(g, zR n o s)]) :
  Calls Tryz.prog 56 #[PT g 0, N a] w (Rt w (.tuple #[N 0, .int .i64 6])) := by
 have H0 : Hid (_ ∧ _) := ⟨hm, Below.refl w.heap.size w⟩
 clear hm
 have C0 : Hid _ := c0
 have C1 : Hid _ := c1
 have C2 : Hid _ := c2
 have C3 : Hid _ := c3
 have C4 : Hid _ := c4
 have C5 : Hid _ := c5
 have C6 : Hid _ := c6
 clear c0 c1 c2 c3 c4 c5 c6
 go_enter Tryz.func56, Tryz.ntmps56
 refine wp_seq ?_
 refine zD 3 [.made (zB a) 24, .made zero6 24, .q (.int .i64 0)] (sB H0) ?ho1 ?he1
 case ho1 => exact am (zU rfl rfl) (am (zF rfl) (ar trivial))
 intro J w1 l hM hl
 have H1 : Hid (Mm w1 ([(J 0, zB a), (J 1, zero6)] ++ _) ∧ _) := wB H0 hM hl [0, 1]
 have o1_0 := vB H0 hM hl 0
 have o1_1 := vB H0 hM hl 1
 clear hM hl l
 generalize J 0 = J1_0 at H1 o1_0 ⊢
 generalize J 1 = J1_1 at H1 o1_1 ⊢
 clear J
 refine rN (wp_seq (wp_seq ?_))
 refine zC 3 [.q (PT g 0), .call (.bool true), .q (.bool false)] H1 ?ho2 ?he2
 case ho2 => exact ar (ac (fun w' h => eC call73 (C0.out w' (h.one 2 rfl))) (ag trivial))
 intro _ w2 H2
 clear H1
 refine rN (wp_cond_false rfl ?_)
 refine wp_skip (zA ?_)
 refine wp_seq (wp_seq ?_)
 refine zC 7 [.q (PT g 0), .q (PT g 0), .q (PT g 0), .q (PT g 0), .q (.int .u64 (wd n 0)), .q (.int .u64 3), .q (.bool false)] H2 ?ho3 ?he3
 case ho3 => exact ar (ag (ag (ag (aq (fun w' h => ex_load1 h 2 rfl rfl rfl rfl) (ag (ag trivial))))))
 intro _ w3 H3
 clear H2
 refine rN (wp_cond_false rfl ?_)
 refine wp_skip (zA (wp_seq ?_))
 refine zQ 12 [.q (PT g 0), .q (PT g 0), .q (PT g 0), .q (N n), .call (N 1), .call (.tuple #[N x, .bool cx]), .q (.tuple #[N x, .bool cx]), .q (N x), .q (.bool cx), .made zero6 24, .laid 9 zero6 (zB x), .q (.bool cx)] (sB H3) ?ho4 ?he4 (hL := ?hL4)
 case hL4 => exact ⟨⟨_, rfl⟩, trivial⟩
 case ho4 => exact ar (ag (ag (bN 2 (ac (fun w' h => eC call65 (C1.out w')) (ac (fun w' h => eC call46 (C2.out w')) (ar (ag (ag (am (zF rfl) (ak (fun J => ⟨rfl, rfl, rfl, fun w' h => zJ h rfl rfl rfl⟩) (ar trivial)))))))))))
 intro J w4 l hM hl
 have H4 : Hid (Mm w4 ([(J 9, zB x)] ++ _) ∧ _) := wB H3 hM hl [9]
 have o4_9 := vB H3 hM hl 9
 clear hM hl l H3
 generalize J 9 = J4_9 at H4 o4_9 ⊢
 clear J
 refine rN (wp_seq ?_)
 refine zQ 7 [.q (PT g 0), .q (N a), .q (N x), .call (N ee), .call (N c), .made zero6 24, .laid 5 zero6 (zB c)] (sB H4) ?ho5 ?he5 (hL := ?hL5)
 case hL5 => exact ⟨⟨_, rfl⟩, trivial⟩
 case ho5 => exact ar (bN 1 (bN 0 (ac (fun w' h => eC call82 (C3.out w')) (ac (fun w' h => eC call81 (C4.out w' (h.one 3 rfl))) (am (zF rfl) (ak (fun J => ⟨rfl, rfl, rfl, fun w' h => zJ h rfl rfl rfl⟩) trivial))))))
 intro J w5 l hM hl
 have H5 : Hid (Mm w5 ([(J 5, zB c)] ++ _) ∧ _) := wB H4 hM hl [5]
 have o5_5 := vB H4 hM hl 5
 clear hM hl l H4
 generalize J 5 = J5_5 at H5 o5_5 ⊢
 clear J
 refine rN (wp_seq (wp_seq ?_))
 refine zS 8 [.q (PT g 0), .q (N c), .q (N c), .call (N q), .q (PT g 0), .q (N a), .call (N r), .q (.bool true)] H5 ?ho6 ?he6
 case ho6 => exact ar (bN 0 (bN 0 (ac (fun w' h => eC call54 (C5.out w' (h.one 4 rfl))) (ar (bN 2 (ac (fun w' h => eC call74 (C6.out w' (h.one 4 rfl))) (ak (fun J => ⟨rfl, fun w' _ => exec_neq6 e1 rfl rfl rfl⟩) trivial)))))))
 intro _ w6 H6
 clear H5
 refine rN (wp_cond_true rfl (wp_seq ?_))
 refine zC 1 [.q (N 0)] H6 ?ho7 ?he7
 case ho7 => exact ak (by refine fun J => ⟨rfl, fun w' h => ?_⟩; clear h; exact ex_zero6 rfl) trivial
 intro _ w7 H7
 clear H6
 refine zG (l := [1, 2]) rfl ?_
 refine sG rfl (fun h => zM h 3 rfl rfl rfl rfl (Nat.le_of_ble_eq_true rfl)) 3 [_, _, _, (_, zB 0), _] H7 o1_1 fun w8 H8 => ?_
 clear H7
 refine zN (d := 5) rfl rfl rfl rfl ?_
 simp only [Act.put, sa, sz, ss]
 refine zE (zA (wp_ret ?_))
 repeat (first | refine zK ?_ | refine zI ?_)
 have c0 := H8.out.1.get 3 rfl 0 rfl
 have c1 := H8.out.1.get 3 rfl 1 rfl
 have c2 := H8.out.1.get 3 rfl 2 rfl
 have c3 := H8.out.1.get 3 rfl 3 rfl
 have c4 := H8.out.1.get 3 rfl 4 rfl
 have c5 := H8.out.1.get 3 rfl 5 rfl
 refine bodyPost_ret (v := .tuple #[N 0, .int .i64 6]) (by simp [results, Tryz.results56, go_sem, *]) rfl ?_
 exact ⟨rfl, H8.out.2⟩
set_option maxHeartbeats 1000000 in
theorem root_3 (g n o s a x ee c q r d : Nat) (hr : (wd n 0).tmod 4 = 3) (cx : Bool) (e1 : ∀ w, (Op.equalIn 10000 24 (N q) (N r)).run Tryz.prog w = .ok true w) (z : Int) (hz : z < 0)
  (c0 : ∀ w, Mm w [(g, zR n o s)] → Calls Tryz.prog 73 #[PT g 0] w (Rt w (.bool true)))
  (c1 : ∀ w, Calls Tryz.prog 65 #[.int .u64 1] w (Rt w (N 1)))
  (c2 : ∀ w, Calls Tryz.prog 46 #[N n, N 1] w (Rt w (.tuple #[N x, .bool cx])))
  (c3 : ∀ w, Calls Tryz.prog 82 #[N x, .int .i64 (-2)] w (Rt w (N ee)))
  (c4 : ∀ w, Mm w [(g, zR n o s)] → Calls Tryz.prog 81 #[PT g 0, N a, N ee] w (Rt w (N c)))
  (c5 : ∀ w, Mm w [(g, zR n o s)] → Calls Tryz.prog 54 #[PT g 0, N c, N c] w (Rt w (N q)))
  (c6 : ∀ w, Mm w [(g, zR n o s)] → Calls Tryz.prog 74 #[PT g 0, N a] w (Rt w (N r)))
  (c7 : ∀ w, Mm w [(g, zR n o s)] → Calls Tryz.prog 77 #[PT g 0, N c] w (Rt w (N d)))
  (c8 : ∀ w, Calls Tryz.prog 59 #[N d, N c] w (Rt w (.int .i64 z))) (w : World) (hm : Mm w [(g, zR n o s)]) :
  Calls Tryz.prog 56 #[PT g 0, N a] w (Rt w (.tuple #[N d, .int .i64 0])) := by
 have H0 : Hid (_ ∧ _) := ⟨hm, Below.refl w.heap.size w⟩
 clear hm
 have C0 : Hid _ := c0
 have C1 : Hid _ := c1
 have C2 : Hid _ := c2
 have C3 : Hid _ := c3
 have C4 : Hid _ := c4
 have C5 : Hid _ := c5
 have C6 : Hid _ := c6
 have C7 : Hid _ := c7
 have C8 : Hid _ := c8
 clear c0 c1 c2 c3 c4 c5 c6 c7 c8
 go_enter Tryz.func56, Tryz.ntmps56
 refine wp_seq ?_
 refine zD 3 [.made (zB a) 24, .made zero6 24, .q (.int .i64 0)] (sB H0) ?ho1 ?he1
 case ho1 => exact am (zU rfl rfl) (am (zF rfl) (ar trivial))
 intro J w1 l hM hl
 have H1 : Hid (Mm w1 ([(J 0, zB a), (J 1, zero6)] ++ _) ∧ _) := wB H0 hM hl [0, 1]
 have o1_0 := vB H0 hM hl 0
 have o1_1 := vB H0 hM hl 1
 clear hM hl l
 generalize J 0 = J1_0 at H1 o1_0 ⊢
 generalize J 1 = J1_1 at H1 o1_1 ⊢
 clear J
 refine rN (wp_seq (wp_seq ?_))
 refine zC 3 [.q (PT g 0), .call (.bool true), .q (.bool false)] H1 ?ho2 ?he2
 case ho2 => exact ar (ac (fun w' h => eC call73 (C0.out w' (h.one 2 rfl))) (ag trivial))
 intro _ w2 H2
 clear H1
 refine rN (wp_cond_false rfl ?_)
 refine wp_skip (zA ?_)
 refine wp_seq (wp_seq ?_)
 refine zC 7 [.q (PT g 0), .q (PT g 0), .q (PT g 0), .q (PT g 0), .q (.int .u64 (wd n 0)), .q (.int .u64 3), .q (.bool false)] H2 ?ho3 ?he3
 case ho3 => exact ar (ag (ag (ag (aq (fun w' h => ex_load1 h 2 rfl rfl rfl rfl) (ag (ag trivial))))))
 intro _ w3 H3
 clear H2
 refine rN (wp_cond_false rfl ?_)
 refine wp_skip (zA (wp_seq ?_))
 refine zQ 12 [.q (PT g 0), .q (PT g 0), .q (PT g 0), .q (N n), .call (N 1), .call (.tuple #[N x, .bool cx]), .q (.tuple #[N x, .bool cx]), .q (N x), .q (.bool cx), .made zero6 24, .laid 9 zero6 (zB x), .q (.bool cx)] (sB H3) ?ho4 ?he4 (hL := ?hL4)
 case hL4 => exact ⟨⟨_, rfl⟩, trivial⟩
 case ho4 => exact ar (ag (ag (bN 2 (ac (fun w' h => eC call65 (C1.out w')) (ac (fun w' h => eC call46 (C2.out w')) (ar (ag (ag (am (zF rfl) (ak (fun J => ⟨rfl, rfl, rfl, fun w' h => zJ h rfl rfl rfl⟩) (ar trivial)))))))))))
 intro J w4 l hM hl
 have H4 : Hid (Mm w4 ([(J 9, zB x)] ++ _) ∧ _) := wB H3 hM hl [9]
 have o4_9 := vB H3 hM hl 9
 clear hM hl l H3
 generalize J 9 = J4_9 at H4 o4_9 ⊢
 clear J
 refine rN (wp_seq ?_)
 refine zQ 7 [.q (PT g 0), .q (N a), .q (N x), .call (N ee), .call (N c), .made zero6 24, .laid 5 zero6 (zB c)] (sB H4) ?ho5 ?he5 (hL := ?hL5)
 case hL5 => exact ⟨⟨_, rfl⟩, trivial⟩
 case ho5 => exact ar (bN 1 (bN 0 (ac (fun w' h => eC call82 (C3.out w')) (ac (fun w' h => eC call81 (C4.out w' (h.one 3 rfl))) (am (zF rfl) (ak (fun J => ⟨rfl, rfl, rfl, fun w' h => zJ h rfl rfl rfl⟩) trivial))))))
 intro J w5 l hM hl
 have H5 : Hid (Mm w5 ([(J 5, zB c)] ++ _) ∧ _) := wB H4 hM hl [5]
 have o5_5 := vB H4 hM hl 5
 clear hM hl l H4
 generalize J 5 = J5_5 at H5 o5_5 ⊢
 clear J
 refine rN (wp_seq (wp_seq ?_))
 refine zS 8 [.q (PT g 0), .q (N c), .q (N c), .call (N q), .q (PT g 0), .q (N a), .call (N r), .q (.bool false)] H5 ?ho6 ?he6
 case ho6 => exact ar (bN 0 (bN 0 (ac (fun w' h => eC call54 (C5.out w' (h.one 4 rfl))) (ar (bN 2 (ac (fun w' h => eC call74 (C6.out w' (h.one 4 rfl))) (ak (fun J => ⟨rfl, fun w' _ => exec_neq6 e1 rfl rfl rfl⟩) trivial)))))))
 intro _ w6 H6
 clear H5
 refine rN (wp_cond_false rfl ?_)
 refine wp_skip (zA (wp_seq ?_))
 refine zD 5 [.q (PT g 0), .q (N c), .call (N d), .made zero6 24, .laid 3 zero6 (zB d)] (sB H6) ?ho7 ?he7 (hL := ?hL7)
 case hL7 => exact ⟨⟨_, rfl⟩, trivial⟩
 case ho7 => exact ar (bN 0 (ac (fun w' h => eC call77 (C7.out w' (h.one 4 rfl))) (am (zF rfl) (ak (fun J => ⟨rfl, rfl, rfl, fun w' h => zJ h rfl rfl rfl⟩) trivial))))
 intro J w7 l hM hl
 have H7 : Hid (Mm w7 ([(J 3, zB d)] ++ _) ∧ _) := wB H6 hM hl [3]
 have o7_3 := vB H6 hM hl 3
 clear hM hl l H6
 generalize J 3 = J7_3 at H7 o7_3 ⊢
 clear J
 refine rN (wp_seq (wp_seq ?_))
 refine zC 4 [.q (N d), .q (N c), .call (.int .i64 z), .q (.bool true)] H7 ?ho8 ?he8
 case ho8 => exact bN 0 (bN 1 (ac (fun w' h => eC call59 (C8.out w')) (ak (by refine fun J => ⟨rfl, fun w' h => ?_⟩; clear h; go_simp <;> omega) trivial)))
 intro _ w8 H8
 clear H7
 refine rN (wp_cond_true rfl (wp_seq ?_))
 refine zC 1 [.q (N d)] H8 ?ho9 ?he9
 case ho9 => exact bN 0 trivial
 intro _ w9 H9
 clear H8
 refine zG (l := [1, 2]) rfl ?_
 refine sG rfl (fun h => zM h 4 rfl rfl rfl rfl (Nat.le_of_ble_eq_true rfl)) 4 [_, _, _, _, (_, zB d), _] H9 o1_1 fun w10 H10 => ?_
 clear H9
 refine zN (d := 5) rfl rfl rfl rfl ?_
 simp only [Act.put, sa, sz, ss]
 refine zE (zA (wp_ret ?_))
 repeat (first | refine zK ?_ | refine zI ?_)
 have c0 := H10.out.1.get 4 rfl 0 rfl
 have c1 := H10.out.1.get 4 rfl 1 rfl
 have c2 := H10.out.1.get 4 rfl 2 rfl
 have c3 := H10.out.1.get 4 rfl 3 rfl
 have c4 := H10.out.1.get 4 rfl 4 rfl
 have c5 := H10.out.1.get 4 rfl 5 rfl
 refine bodyPost_ret (v := .tuple #[N d, .int .i64 0]) (by simp [results, Tryz.results56, go_sem, *]) rfl ?_
 exact ⟨rfl, H10.out.2⟩
set_option maxHeartbeats 1000000 in
theorem root_4 (g n o s a x ee c q r d : Nat) (hr : (wd n 0).tmod 4 = 3) (cx : Bool) (e1 : ∀ w, (Op.equalIn 10000 24 (N q) (N r)).run Tryz.prog w = .ok true w) (z : Int) (hz : ¬ z < 0)
  (c0 : ∀ w, Mm w [(g, zR n o s)] → Calls Tryz.prog 73 #[PT g 0] w (Rt w (.bool true)))
  (c1 : ∀ w, Calls Tryz.prog 65 #[.int .u64 1] w (Rt w (N 1)))
  (c2 : ∀ w, Calls Tryz.prog 46 #[N n, N 1] w (Rt w (.tuple #[N x, .bool cx])))
  (c3 : ∀ w, Calls Tryz.prog 82 #[N x, .int .i64 (-2)] w (Rt w (N ee)))
  (c4 : ∀ w, Mm w [(g, zR n o s)] → Calls Tryz.prog 81 #[PT g 0, N a, N ee] w (Rt w (N c)))
  (c5 : ∀ w, Mm w [(g, zR n o s)] → Calls Tryz.prog 54 #[PT g 0, N c, N c] w (Rt w (N q)))
  (c6 : ∀ w, Mm w [(g, zR n o s)] → Calls Tryz.prog 74 #[PT g 0, N a] w (Rt w (N r)))
  (c7 : ∀ w, Mm w [(g, zR n o s)] → Calls Tryz.prog 77 #[PT g 0, N c] w (Rt w (N d)))
  (c8 : ∀ w, Calls Tryz.prog 59 #[N d, N c] w (Rt w (.int .i64 z))) (w : World) (hm : Mm w [(g, zR n o s)]) :
  Calls Tryz.prog 56 #[PT g 0, N a] w (Rt w (.tuple #[N c, .int .i64 0])) := by
 have H0 : Hid (_ ∧ _) := ⟨hm, Below.refl w.heap.size w⟩
 clear hm
 have C0 : Hid _ := c0
 have C1 : Hid _ := c1
 have C2 : Hid _ := c2
 have C3 : Hid _ := c3
 have C4 : Hid _ := c4
 have C5 : Hid _ := c5
 have C6 : Hid _ := c6
 have C7 : Hid _ := c7
 have C8 : Hid _ := c8
 clear c0 c1 c2 c3 c4 c5 c6 c7 c8
 go_enter Tryz.func56, Tryz.ntmps56
 refine wp_seq ?_
 refine zD 3 [.made (zB a) 24, .made zero6 24, .q (.int .i64 0)] (sB H0) ?ho1 ?he1
 case ho1 => exact am (zU rfl rfl) (am (zF rfl) (ar trivial))
 intro J w1 l hM hl
 have H1 : Hid (Mm w1 ([(J 0, zB a), (J 1, zero6)] ++ _) ∧ _) := wB H0 hM hl [0, 1]
 have o1_0 := vB H0 hM hl 0
 have o1_1 := vB H0 hM hl 1
 clear hM hl l
 generalize J 0 = J1_0 at H1 o1_0 ⊢
 generalize J 1 = J1_1 at H1 o1_1 ⊢
 clear J
 refine rN (wp_seq (wp_seq ?_))
 refine zC 3 [.q (PT g 0), .call (.bool true), .q (.bool false)] H1 ?ho2 ?he2
 case ho2 => exact ar (ac (fun w' h => eC call73 (C0.out w' (h.one 2 rfl))) (ag trivial))
 intro _ w2 H2
 clear H1
 refine rN (wp_cond_false rfl ?_)
 refine wp_skip (zA ?_)
 refine wp_seq (wp_seq ?_)
 refine zC 7 [.q (PT g 0), .q (PT g 0), .q (PT g 0), .q (PT g 0), .q (.int .u64 (wd n 0)), .q (.int .u64 3), .q (.bool false)] H2 ?ho3 ?he3
 case ho3 => exact ar (ag (ag (ag (aq (fun w' h => ex_load1 h 2 rfl rfl rfl rfl) (ag (ag trivial))))))
 intro _ w3 H3
 clear H2
 refine rN (wp_cond_false rfl ?_)
 refine wp_skip (zA (wp_seq ?_))
 refine zQ 12 [.q (PT g 0), .q (PT g 0), .q (PT g 0), .q (N n), .call (N 1), .call (.tuple #[N x, .bool cx]), .q (.tuple #[N x, .bool cx]), .q (N x), .q (.bool cx), .made zero6 24, .laid 9 zero6 (zB x), .q (.bool cx)] (sB H3) ?ho4 ?he4 (hL := ?hL4)
 case hL4 => exact ⟨⟨_, rfl⟩, trivial⟩
 case ho4 => exact ar (ag (ag (bN 2 (ac (fun w' h => eC call65 (C1.out w')) (ac (fun w' h => eC call46 (C2.out w')) (ar (ag (ag (am (zF rfl) (ak (fun J => ⟨rfl, rfl, rfl, fun w' h => zJ h rfl rfl rfl⟩) (ar trivial)))))))))))
 intro J w4 l hM hl
 have H4 : Hid (Mm w4 ([(J 9, zB x)] ++ _) ∧ _) := wB H3 hM hl [9]
 have o4_9 := vB H3 hM hl 9
 clear hM hl l H3
 generalize J 9 = J4_9 at H4 o4_9 ⊢
 clear J
 refine rN (wp_seq ?_)
 refine zQ 7 [.q (PT g 0), .q (N a), .q (N x), .call (N ee), .call (N c), .made zero6 24, .laid 5 zero6 (zB c)] (sB H4) ?ho5 ?he5 (hL := ?hL5)
 case hL5 => exact ⟨⟨_, rfl⟩, trivial⟩
 case ho5 => exact ar (bN 1 (bN 0 (ac (fun w' h => eC call82 (C3.out w')) (ac (fun w' h => eC call81 (C4.out w' (h.one 3 rfl))) (am (zF rfl) (ak (fun J => ⟨rfl, rfl, rfl, fun w' h => zJ h rfl rfl rfl⟩) trivial))))))
 intro J w5 l hM hl
 have H5 : Hid (Mm w5 ([(J 5, zB c)] ++ _) ∧ _) := wB H4 hM hl [5]
 have o5_5 := vB H4 hM hl 5
 clear hM hl l H4
 generalize J 5 = J5_5 at H5 o5_5 ⊢
 clear J
 refine rN (wp_seq (wp_seq ?_))
 refine zS 8 [.q (PT g 0), .q (N c), .q (N c), .call (N q), .q (PT g 0), .q (N a), .call (N r), .q (.bool false)] H5 ?ho6 ?he6
 case ho6 => exact ar (bN 0 (bN 0 (ac (fun w' h => eC call54 (C5.out w' (h.one 4 rfl))) (ar (bN 2 (ac (fun w' h => eC call74 (C6.out w' (h.one 4 rfl))) (ak (fun J => ⟨rfl, fun w' _ => exec_neq6 e1 rfl rfl rfl⟩) trivial)))))))
 intro _ w6 H6
 clear H5
 refine rN (wp_cond_false rfl ?_)
 refine wp_skip (zA (wp_seq ?_))
 refine zD 5 [.q (PT g 0), .q (N c), .call (N d), .made zero6 24, .laid 3 zero6 (zB d)] (sB H6) ?ho7 ?he7 (hL := ?hL7)
 case hL7 => exact ⟨⟨_, rfl⟩, trivial⟩
 case ho7 => exact ar (bN 0 (ac (fun w' h => eC call77 (C7.out w' (h.one 4 rfl))) (am (zF rfl) (ak (fun J => ⟨rfl, rfl, rfl, fun w' h => zJ h rfl rfl rfl⟩) trivial))))
 intro J w7 l hM hl
 have H7 : Hid (Mm w7 ([(J 3, zB d)] ++ _) ∧ _) := wB H6 hM hl [3]
 have o7_3 := vB H6 hM hl 3
 clear hM hl l H6
 generalize J 3 = J7_3 at H7 o7_3 ⊢
 clear J
 refine rN (wp_seq (wp_seq ?_))
 refine zC 4 [.q (N d), .q (N c), .call (.int .i64 z), .q (.bool false)] H7 ?ho8 ?he8
 case ho8 => exact bN 0 (bN 1 (ac (fun w' h => eC call59 (C8.out w')) (ak (by refine fun J => ⟨rfl, fun w' h => ?_⟩; clear h; go_simp <;> omega) trivial)))
 intro _ w8 H8
 clear H7
 refine rN (wp_cond_false rfl ?_)
 refine wp_skip (zA (wp_seq ?_))
 refine zC 1 [.q (N c)] H8 ?ho9 ?he9
 case ho9 => exact bN 1 trivial
 intro _ w9 H9
 clear H8
 refine zG (l := [1, 2]) rfl ?_
 refine sG rfl (fun h => zM h 4 rfl rfl rfl rfl (Nat.le_of_ble_eq_true rfl)) 4 [_, _, _, _, (_, zB c), _] H9 o1_1 fun w10 H10 => ?_
 clear H9
 refine zN (d := 5) rfl rfl rfl rfl ?_
 simp only [Act.put, sa, sz, ss]
 refine zE (zA (wp_ret ?_))
 repeat (first | refine zK ?_ | refine zI ?_)
 have c0 := H10.out.1.get 4 rfl 0 rfl
 have c1 := H10.out.1.get 4 rfl 1 rfl
 have c2 := H10.out.1.get 4 rfl 2 rfl
 have c3 := H10.out.1.get 4 rfl 3 rfl
 have c4 := H10.out.1.get 4 rfl 4 rfl
 have c5 := H10.out.1.get 4 rfl 5 rfl
 refine bodyPost_ret (v := .tuple #[N c, .int .i64 0]) (by simp [results, Tryz.results56, go_sem, *]) rfl ?_
 exact ⟨rfl, H10.out.2⟩
/-- What Root tells: the number and the error. -/
def rtc (n a : Nat) : Nat := a ^ ((n + 1) / 4) % n
def rtv (n a : Nat) : Nat := if n % 4 = 1 then 0 else if rtc n a * rtc n a % n = a % n then (if subm n 0 (rtc n a) < rtc n a then subm n 0 (rtc n a) else rtc n a) else 0
def rte (n a : Nat) : Int := if n % 4 = 1 then 2 else if rtc n a * rtc n a % n = a % n then 0 else 6
theorem word_mod4 (n : Nat) : (wd n 0).tmod 4 = ((n % 4 : Nat) : Int) := by
 have h0 : wd n 0 = ((n % 18446744073709551616 : Nat) : Int) := by unfold wd; rw [Nat.mul_zero, Nat.pow_zero, Nat.div_one]
 rw [h0]
 rw [Int.tmod_eq_emod_of_nonneg (by omega)]; omega
theorem root_any {g n : Nat} (ok : Ok n) {a : Nat} (ha : a < big) (w : World) (hm : Mm w [(g, modc n)]) : Calls Tryz.prog 56 #[PT g 0, N a] w (Rt w (.tuple #[N (rtv n a), .int .i64 (rte n a)])) := by
 have hw := word_mod4 n
 have cm := fun w hm => madeC (g := g) ok w hm
 unfold rtv rte
 by_cases h : n % 4 = 1
 ·rw [if_pos h, if_pos h]
  rw [h] at hw
  exact root_1 g n _ _ a hw cm w hm
 ·rw [if_neg h, if_neg h]
  rw [show n % 4 = 3 by have := ok.odd; omega] at hw
  have ht := ok.top
  have ht3 := ok.three
  have ca := fun w => add_any n 1 ok.big (small_big 1 (by decide)) w
  rw [Nat.mod_eq_of_lt (show n + 1 < big by omega)] at ca
  have cs := fun w => shift_down (n + 1) (-2) (by omega) (by omega) (by omega) w
  have e4 : (n + 1) / 2 ^ (- (-2 : Int)).toNat = (n + 1) / 4 := rfl
  rw [e4] at cs
  have he : (n + 1) / 4 < big := by omega
  have cp := fun w hm => powm_any (g := g) ok ha he w hm
  have hc : rtc n a < n := Nat.mod_lt _ ok.pos
  have hcb : rtc n a < big := Nat.lt_trans hc ok.big
  have e5 : a ^ ((n + 1) / 4) % n = rtc n a := rfl
  rw [e5] at cp
  have cq := fun w hm => mulm_any (g := g) ok hcb hcb w hm
  have cr := fun w hm => reduce_any (g := g) ok ha w hm
  have cn := fun w hm => negm_any (g := g) ok hcb w hm
  have e1 := fun w => run_eqN (rtc n a * rtc n a % n) (a % n) (okLt ok _) (okLt ok _) w
  by_cases h2 : rtc n a * rtc n a % n = a % n
  ·rw [if_pos h2, if_pos h2]
   rw [decide_eq_true h2] at e1
   have cc := fun w => compare_any (subm n 0 (rtc n a)) (rtc n a) (Nat.lt_trans (subm_lt_n ok.pos _ _) ok.big) hcb w
   by_cases h3 : subm n 0 (rtc n a) < rtc n a
   ·rw [if_pos h3]
    rw [cmp_lt h3] at cc
    exact root_3 g n _ _ a _ _ _ _ _ _ hw _ e1 _ (by decide) cm (fun w => of_any 1 (by decide) w) ca cs cp cq cr cn cc w hm
   ·rw [if_neg h3]
    exact root_4 g n _ _ a _ _ _ _ _ _ hw _ e1 _ (cmp_ge h3) cm (fun w => of_any 1 (by decide) w) ca cs cp cq cr cn cc w hm
  ·rw [if_neg h2, if_neg h2]
   rw [decide_eq_false h2] at e1
   exact root_2 g n _ _ a _ _ _ _ _ hw _ e1 cm (fun w => of_any 1 (by decide) w) ca cs cp cq cr w hm
/-! Numbers side by side. -/
def cel : List Nat → List Value
  | [] => []
  | a :: l => zB a ++ cel l
abbrev V (l : List Nat) : Value := .agg (cel l).toArray
theorem cel_len : ∀ l : List Nat, (cel l).length = 6 * l.length
  | [] => rfl
  | a :: l => by
    show (zB a ++ cel l).length = _
    rw [List.length_append, cel_len l]
    show 6 + 6 * l.length = 6 * (l.length + 1)
    omega
theorem cel_app : ∀ l m : List Nat, cel (l ++ m) = cel l ++ cel m
  | [], _ => rfl
  | a :: l, m => by
    show zB a ++ cel (l ++ m) = zB a ++ cel l ++ cel m
    rw [cel_app l m, List.append_assoc]
theorem cel_drop : ∀ (i : Nat) (l : List Nat), (cel l).drop (6 * i) = cel (l.drop i)
  | 0, _ => by rw [Nat.mul_zero, List.drop_zero, List.drop_zero]
  | i + 1, [] => by simp [cel]
  | i + 1, a :: l => by
    show (zB a ++ cel l).drop (6 * (i + 1)) = cel (l.drop i)
    rw [← cel_drop i l, show 6 * (i + 1) = (zB a).length + 6 * i by show _ = 6 + 6 * i; omega, List.drop_length_add_append]
theorem cel_take : ∀ (i : Nat) (l : List Nat), (cel l).take (6 * i) = cel (l.take i)
  | 0, _ => by rw [Nat.mul_zero, List.take_zero, List.take_zero]; rfl
  | i + 1, [] => by simp [cel]
  | i + 1, a :: l => by
    show (zB a ++ cel l).take (6 * (i + 1)) = zB a ++ cel (l.take i)
    rw [← cel_take i l, show 6 * (i + 1) = (zB a).length + 6 * i by show _ = 6 + 6 * i; omega, List.take_length_add_append]
theorem cel_one (l : List Nat) : (cel l).all Value.oneCell' = true := by
  induction l with
  | nil => rfl
  | cons a l ih =>
    show (zB a ++ cel l).all Value.oneCell' = true
    rw [List.all_append, ih, Bool.and_true]
    rfl
theorem cel_patch (l m : List Nat) (i : Nat) : patch (cel l) (6 * i) (cel m) = cel (l.take i ++ m ++ l.drop (i + m.length)) := by
  unfold patch
  rw [cel_app, cel_app, cel_take, cel_len, ← Nat.mul_add, cel_drop]
theorem cel_zero (k : Nat) : cel (List.replicate k 0) = List.replicate (6 * k) (.int .u64 0) := by
  induction k with
  | zero => rfl
  | succ k ih =>
    rw [List.replicate_succ]
    show zB 0 ++ cel (List.replicate k 0) = _
    rw [ih, cells_zero, show 6 * (k + 1) = 6 + 6 * k by omega, ← List.replicate_append_replicate]
    rfl
theorem ex_loadA {ρ : Operand → Value} {o : Oper} {x : Operand} {g i k : Nat} {t : TypeId} {ns ms : List Nat} {w : World} {l : List (Nat × List Value)} (h : Mm w l) (q : Nat) (hk : l[q]? = some (g, cel ns)) (ho : o.op = .load t x) (hx : ρ x = PT g (6 * i)) (ha : ∀ w, (isAgg t).run Tryz.prog w = .ok true w) (hs : ∀ w, (sizeOf t).run Tryz.prog w = .ok (6 * k) w) (hc : (ns.drop i).take k = ms) (hl : ms.length = k) :
    (execOp ρ o).run Tryz.prog w = .ok (.value (V ms)) w := by
  have hm := List.mem_of_getElem? hk
  have hcell := run_loadCells_list (P := Tryz.prog) (w := w) ⟨g, 6 * i, none⟩ (cel ms) (fun j v hv => by
    have e : (cel ns)[6 * i + j]? = some v := by
      rw [← List.getElem?_drop, cel_drop]
      rw [← hc, ← cel_take, List.getElem?_take] at hv
      split at hv
      · exact hv
      · cases hv
    have e2 := h.cell hm e
    rw [show (⟨g, 6 * i, none⟩ : Addr).add j = ⟨g, 6 * i + j, none⟩ from by unfold Addr.add; split <;> simp_all]
    exact e2)
  rw [cel_len, hl] at hcell
  have hf : (loadCellsFrom ⟨g, 6 * i, none⟩ 0 (6 * k) #[]).run Tryz.prog w = .ok (cel ms).toArray w := hcell
  clear hcell hc hk hm h
  simp only [execOp, ho, hx]
  go_simp
theorem lA {ρ : Operand → Value} {o : Oper} {x : Operand} {g : Nat} {t : TypeId} {ns ms : List Nat} {w : World} {l : List (Nat × List Value)} (i k : Nat) (h : Mm w l) (q : Nat) (ha : ∀ w, (isAgg t).run Tryz.prog w = .ok true w) (hs : ∀ w, (sizeOf t).run Tryz.prog w = .ok (6 * k) w) (hk : l[q]? = some (g, cel ns) := by exact rfl) (ho : o.op = .load t x := by exact rfl) (hx : ρ x = PT g (6 * i) := by exact rfl) (hc : (ns.drop i).take k = ms := by exact rfl) (hl : ms.length = k := by exact rfl) : (execOp ρ o).run Tryz.prog w = .ok (.value (V ms)) w := ex_loadA h q hk ho hx ha hs hc hl
theorem bA {ops : Array Oper} {L : List (Nat × List Value)} {F : (Nat → Nat) → Act} {o : Oper} {os : List Oper} {ks : List Kind} {x : Operand} {g : Nat} {t : TypeId} {ns ms : List Nat} (i n k : Nat) (ha : ∀ w, (isAgg t).run Tryz.prog w = .ok true w) (hz : ∀ w, (sizeOf t).run Tryz.prog w = .ok (6 * n) w) (hs : yD Tryz.prog ops (fun w' => Mm w' L) F os ks) (hw : ∀ J, Region.wanted o (yielded ops (F J).tmps) = true := by exact fun _ => rfl) (hk : L[k]? = some (g, cel ns) := by exact rfl) (ho : o.op = .load t x := by exact rfl) (hx : ∀ J, (F J).eval x = PT g (6 * i) := by exact fun _ => rfl) (hc : (ns.drop i).take n = ms := by exact rfl) (hl : ms.length = n := by exact rfl) : yD Tryz.prog ops (fun w' => Mm w' L) F (o :: os) (.q (V ms) :: ks) := ⟨fun J => ⟨hw J, fun _ h => ex_loadA h k hk ho (hx J) ha hz hc hl⟩, hs⟩
theorem zV {ρ : Operand → Value} {o : Oper} {x : Operand} {t : TypeId} {ns : List Nat} {w : World} (ho : o.op = .box t x) (hx : ρ x = V ns) :
    (execOp ρ o).run Tryz.prog w = .ok (.value (.pointer (some ⟨w.heap.size, 0, none⟩))) (w.alloc (.cells (cel ns).toArray t)) := by
  simp only [execOp, ho, hx]
  go_simp
theorem ex_storeA {ρ : Operand → Value} {o : Oper} {x y : Operand} {g i : Nat} {t : TypeId} {ns ms : List Nat} {w : World} {l : List (Nat × List Value)} (h : Mm w l) (q : Nat) (hk : l[q]? = some (g, cel ns)) (ho : o.op = .store t x y) (hx : ρ x = PT g (6 * i)) (hy : ρ y = V ms) (hs : ∀ w, (sizeOf t).run Tryz.prog w = .ok (6 * ms.length) w) (hb : i + ms.length ≤ ns.length) :
    (execOp ρ o).run Tryz.prog w = .ok .skip (w.setCells g (6 * i) (cel ms)) := by
  have hm := List.mem_of_getElem? hk
  have hq : ∀ j, j < (cel ms).length → ∃ u, (cel ns)[6 * i + j]? = some u := fun j hj => by
    rw [cel_len] at hj
    exact ⟨_, List.getElem?_eq_getElem (by rw [cel_len]; omega)⟩
  have hst := run_storeCells_cells (P := Tryz.prog) g (6 * i) (cel ms) 0 w (fun j hj => by
    obtain ⟨u, hu⟩ := hq j hj
    rw [show 6 * i + 0 + j = 6 * i + j by omega, h.cell hm hu]; rfl) (fun j hj => by
    obtain ⟨u, hu⟩ := hq j hj
    rw [show 6 * i + 0 + j = 6 * i + j by omega]; exact h.free hm hu) (List.all_eq_true.1 (cel_one ms))
  have hl := cel_len ms
  clear h hm hq hb hk
  simp only [execOp, ho, hx, hy]
  go_simp
theorem sA {Q : Exit → Act → World → Prop} {full : Array Oper} {a : Act} {w w0 : World} {j B g : Nat} {r : List Nat} {o : Oper} {l : List (Nat × List Value)} {x y : Operand} {t : TypeId} {ns : List Nat} (k i : Nat) (ms : List Nat) (l' : List (Nat × List Value)) (H : Hid (Mm w l ∧ Below B w0 w)) (hg : Hid (B ≤ g)) (hs : ∀ w, (sizeOf t).run Tryz.prog w = .ok (6 * ms.length) w) (h : ∀ w', Hid (Mm w' l' ∧ Below B w0 w') → wpOps Tryz.prog full Q r a w') (ho : full[j]? = some o := by exact rfl) (hd : o.dst = none := by exact rfl) (hw : Region.wanted o (yielded full a.tmps) = true := by exact rfl) (hk : l[k]? = some (g, cel ns) := by exact rfl) (hp : o.op = .store t x y := by exact rfl) (hx : a.eval x = PT g (6 * i) := by exact rfl) (hy : a.eval y = V ms := by exact rfl) (hb : i + ms.length ≤ ns.length := by exact Nat.le_of_ble_eq_true rfl) (hl : l.set k (g, cel (ns.take i ++ ms ++ ns.drop (i + ms.length))) = l' := by exact rfl) : wpOps Tryz.prog full Q (j :: r) a w :=
 rest_store ho hd hw (ex_storeA H.out.1 k hk hp hx hy hs (by omega)) (h _ ⟨(hl ▸ by have h := H.out.1.put k (off := 6 * i) (vs := cel ms) hk (by simp only [cel_len]; omega); rw [cel_patch] at h; exact h), zP _ hg.out _ _ _ H.out.2⟩)
theorem sK {Q : Exit → Act → World → Prop} {full : Array Oper} {a : Act} {w w0 : World} {j q g : Nat} {r : List Nat} {o : Oper} {l : List (Nat × List Value)} {x y : Operand} {t : TypeId} {ns : List Nat} (k i : Nat) (ms : List Nat) (l' : List (Nat × List Value)) (H : Hid (Mm w l ∧ Kp q w0 w)) (hg : Hid (w0.heap.size ≤ g)) (hs : ∀ w, (sizeOf t).run Tryz.prog w = .ok (6 * ms.length) w) (h : ∀ w', Hid (Mm w' l' ∧ Kp q w0 w') → wpOps Tryz.prog full Q r a w') (ho : full[j]? = some o := by exact rfl) (hd : o.dst = none := by exact rfl) (hw : Region.wanted o (yielded full a.tmps) = true := by exact rfl) (hk : l[k]? = some (g, cel ns) := by exact rfl) (hp : o.op = .store t x y := by exact rfl) (hx : a.eval x = PT g (6 * i) := by exact rfl) (hy : a.eval y = V ms := by exact rfl) (hb : i + ms.length ≤ ns.length := by exact Nat.le_of_ble_eq_true rfl) (hl : l.set k (g, cel (ns.take i ++ ms ++ ns.drop (i + ms.length))) = l' := by exact rfl) : wpOps Tryz.prog full Q (j :: r) a w :=
 rest_store ho hd hw (ex_storeA H.out.1 k hk hp hx hy hs (by omega)) (h _ ⟨(hl ▸ by have h := H.out.1.put k (off := 6 * i) (vs := cel ms) hk (by simp only [cel_len]; omega); rw [cel_patch] at h; exact h), H.out.2.put (Or.inr hg.out)⟩)
theorem sF {Q : Exit → Act → World → Prop} {full : Array Oper} {a : Act} {w w0 : World} {j B g : Nat} {r : List Nat} {o : Oper} {l : List (Nat × List Value)} {x y : Operand} {t : TypeId} {ns : List Nat} (k : Nat) (ms : List Nat) (l' : List (Nat × List Value)) (H : Hid (Mm w l ∧ Below B w0 w)) (hg : Hid (B ≤ g)) (hs : ∀ w, (sizeOf t).run Tryz.prog w = .ok (6 * ms.length) w) (h : ∀ w', Hid (Mm w' l' ∧ Below B w0 w') → wpOps Tryz.prog full Q r a w') (ho : full[j]? = some o := by exact rfl) (hd : o.dst = none := by exact rfl) (hw : Region.wanted o (yielded full a.tmps) = true := by exact rfl) (hk : l[k]? = some (g, cel ns) := by exact rfl) (hp : o.op = .store t x y := by exact rfl) (hx : a.eval x = PT g (6 * 0) := by exact rfl) (hy : a.eval y = V ms := by exact rfl) (hb : ms.length = ns.length := by exact rfl) (hl : l.set k (g, cel ms) = l' := by exact rfl) : wpOps Tryz.prog full Q (j :: r) a w :=
 rest_store ho hd hw (ex_storeA H.out.1 k hk hp hx hy hs (by omega)) (h _ ⟨(hl ▸ by have h := H.out.1.put k (off := 6 * 0) (vs := cel ms) hk (by simp only [cel_len]; omega); rw [cel_patch] at h; simpa [hb] using h), zP _ hg.out _ _ _ H.out.2⟩)
theorem sL {Q : Exit → Act → World → Prop} {full : Array Oper} {a : Act} {w w0 : World} {j q g : Nat} {r : List Nat} {o : Oper} {l : List (Nat × List Value)} {x y : Operand} {t : TypeId} {ns : List Nat} (k : Nat) (ms : List Nat) (l' : List (Nat × List Value)) (H : Hid (Mm w l ∧ Kp q w0 w)) (hg : Hid (w0.heap.size ≤ g)) (hs : ∀ w, (sizeOf t).run Tryz.prog w = .ok (6 * ms.length) w) (h : ∀ w', Hid (Mm w' l' ∧ Kp q w0 w') → wpOps Tryz.prog full Q r a w') (ho : full[j]? = some o := by exact rfl) (hd : o.dst = none := by exact rfl) (hw : Region.wanted o (yielded full a.tmps) = true := by exact rfl) (hk : l[k]? = some (g, cel ns) := by exact rfl) (hp : o.op = .store t x y := by exact rfl) (hx : a.eval x = PT g (6 * 0) := by exact rfl) (hy : a.eval y = V ms := by exact rfl) (hb : ms.length = ns.length := by exact rfl) (hl : l.set k (g, cel ms) = l' := by exact rfl) : wpOps Tryz.prog full Q (j :: r) a w :=
 rest_store ho hd hw (ex_storeA H.out.1 k hk hp hx hy hs (by omega)) (h _ ⟨(hl ▸ by have h := H.out.1.put k (off := 6 * 0) (vs := cel ms) hk (by simp only [cel_len]; omega); rw [cel_patch] at h; simpa [hb] using h), H.out.2.put (Or.inr hg.out)⟩)
theorem ex_laidA {ρ : Operand → Value} {o : Oper} {x y : Operand} {g : Nat} {t : TypeId} {zs ms : List Nat} {w : World} (hb : Blk w g (cel zs)) (hz : zs.length = ms.length) (hs : ∀ w, (sizeOf t).run Tryz.prog w = .ok (6 * ms.length) w) (ho : o.op = .store t x y) (hx : ρ x = .pointer (some ⟨g, 0, none⟩)) (hy : ρ y = V ms) :
    (execOp ρ o).run Tryz.prog w = .ok .skip (w.setCells g 0 (cel ms)) :=
  ex_laidT hb (by rw [cel_len, cel_len, hz]) (cel_one ms) (by rw [cel_len]; exact hs) ho hx hy
theorem zH {ρ : Operand → Value} {o : Oper} {x : Operand} {g i v : Nat} {ns : List Nat} {w : World} {l : List (Nat × List Value)} (h : Mm w l) (q : Nat) (hk : l[q]? = some (g, cel ns)) (ho : o.op = .load 24 x) (hx : ρ x = PT g (6 * i)) (hc : ns[i]? = some v) :
    (execOp ρ o).run Tryz.prog w = .ok (.value (N v)) w := by
  refine zY h q hk ho hx ?_
  rw [cel_drop, show 6 = 6 * 1 from rfl, cel_take]
  obtain ⟨hlt, e⟩ := List.getElem?_eq_some_iff.1 hc
  rw [List.drop_eq_getElem_cons hlt, e]
  rfl
theorem zO {ρ : Operand → Value} {o : Oper} {w : World} (ho : o.op = .alloc 26) :
    (execOp ρ o).run Tryz.prog w = .ok (.value (.pointer (some ⟨w.heap.size, 0, none⟩))) (w.alloc (.cells (cel [0, 0]).toArray 26)) := by
  rw [show cel [0, 0] = [.int .u64 0, .int .u64 0, .int .u64 0, .int .u64 0, .int .u64 0, .int .u64 0, .int .u64 0, .int .u64 0, .int .u64 0, .int .u64 0, .int .u64 0, .int .u64 0] from cel_zero 2]
  simp only [execOp, ho]
  go_simp
theorem ex_madeWD {ρ : Operand → Value} {o : Oper} {w : World} (ho : o.op = .alloc 53) :
    (execOp ρ o).run Tryz.prog w = .ok (.value (.pointer (some ⟨w.heap.size, 0, none⟩))) (w.alloc (.cells (cel [0, 0]).toArray 53)) := by
  rw [show cel [0, 0] = [.int .u64 0, .int .u64 0, .int .u64 0, .int .u64 0, .int .u64 0, .int .u64 0, .int .u64 0, .int .u64 0, .int .u64 0, .int .u64 0, .int .u64 0, .int .u64 0] from cel_zero 2]
  simp only [execOp, ho]
  go_simp
theorem ex_madeW2 {ρ : Operand → Value} {o : Oper} {w : World} (ho : o.op = .alloc 55) :
    (execOp ρ o).run Tryz.prog w = .ok (.value (.pointer (some ⟨w.heap.size, 0, none⟩))) (w.alloc (.cells (cel [0, 0, 0, 0]).toArray 55)) := by
  rw [show cel [0, 0, 0, 0] = [.int .u64 0, .int .u64 0, .int .u64 0, .int .u64 0, .int .u64 0, .int .u64 0, .int .u64 0, .int .u64 0, .int .u64 0, .int .u64 0, .int .u64 0, .int .u64 0, .int .u64 0, .int .u64 0, .int .u64 0, .int .u64 0, .int .u64 0, .int .u64 0, .int .u64 0, .int .u64 0, .int .u64 0, .int .u64 0, .int .u64 0, .int .u64 0] from cel_zero 4]
  simp only [execOp, ho]
  go_simp
theorem yC {ρ : Operand → Value} {o : Oper} {x0 x1 : Operand} {a b : Nat} {w : World} (ho : o.op = .build 26 #[(0, x0), (1, x1)]) (h0 : ρ x0 = N a) (h1 : ρ x1 = N b) : (execOp ρ o).run Tryz.prog w = .ok (.value (V [a, b])) w := by
  simp only [execOp, ho, V, cel, List.cons_append, List.nil_append]
  go_simp
theorem ex_buildE2a {ρ : Operand → Value} {o : Oper} {x0 : Operand} {a : Nat} {w : World} (ho : o.op = .build 26 #[(0, x0)]) (h0 : ρ x0 = N a) : (execOp ρ o).run Tryz.prog w = .ok (.value (V [a, 0])) w := by
  simp only [execOp, ho, V, cel, List.cons_append, List.nil_append]
  go_simp
  simp [wd_zero]
theorem ex_buildE2z {ρ : Operand → Value} {o : Oper} {w : World} (ho : o.op = .build 26 #[])  : (execOp ρ o).run Tryz.prog w = .ok (.value (V [0, 0])) w := by
  simp only [execOp, ho, V, cel, List.cons_append, List.nil_append]
  go_simp
  simp [wd_zero]
theorem ex_buildWD {ρ : Operand → Value} {o : Oper} {x0 x1 : Operand} {a b : Nat} {w : World} (ho : o.op = .build 53 #[(0, x0), (1, x1)]) (h0 : ρ x0 = N a) (h1 : ρ x1 = N b) : (execOp ρ o).run Tryz.prog w = .ok (.value (V [a, b])) w := by
  simp only [execOp, ho, V, cel, List.cons_append, List.nil_append]
  go_simp
theorem ex_buildW2 {ρ : Operand → Value} {o : Oper} {x0 x1 : Operand} {a0 a1 b0 b1 : Nat} {w : World} (ho : o.op = .build 55 #[(0, x0), (1, x1)]) (h0 : ρ x0 = V [a0, a1]) (h1 : ρ x1 = V [b0, b1]) : (execOp ρ o).run Tryz.prog w = .ok (.value (V [a0, a1, b0, b1])) w := by
  simp only [V, cel, List.cons_append, List.nil_append] at h0
  simp only [V, cel, List.cons_append, List.nil_append] at h1
  simp only [execOp, ho, V, cel, List.cons_append, List.nil_append]
  go_simp
theorem cel_load {n g : Nat} {ns : List Nat} {w : World} {l : List (Nat × List Value)} (h : Mm w l) (q : Nat) (hk : l[q]? = some (g, cel ns)) (hn : 6 * ns.length = n) : (loadCellsFrom ⟨g, 0, none⟩ 0 n #[]).run Tryz.prog w = .ok (cel ns).toArray w := by
  have hm := List.mem_of_getElem? hk
  have hcell := run_loadCells_list (P := Tryz.prog) (w := w) ⟨g, 0, none⟩ (cel ns) (fun j v hv => by
    have e2 := h.cell hm hv
    rw [show (⟨g, 0, none⟩ : Addr).add j = ⟨g, j, none⟩ from by unfold Addr.add; split <;> simp_all]
    exact e2)
  rw [cel_len, hn] at hcell
  exact hcell
theorem cel_var {g k : Nat} {t : TypeId} {ns : List Nat} {w : World} {l : List (Nat × List Value)} (h : Mm w l) (q : Nat) (hk : l[q]? = some (g, cel ns)) (ha : ∀ w, (isAgg t).run Tryz.prog w = .ok true w) (hs : ∀ w, (sizeOf t).run Tryz.prog w = .ok (6 * k) w) (hn : ns.length = k) : (loadVar t ⟨g, 0, none⟩).run Tryz.prog w = .ok (V ns) w := by
  have hf := cel_load (n := 6 * k) h q hk (by rw [hn])
  clear h hk
  simp only [loadVar]
  go_simp
theorem ex_loadF {ρ : Operand → Value} {o : Oper} {x : Operand} {g h0 : Nat} {cs : List Value} {w : World} {l : List (Nat × List Value)} (h : Mm w l) (k : Nat) (hk : l[k]? = some (g, cs)) (ho : o.op = .load 42 x) (hx : ρ x = PT g 0) (hc : cs[0]? = some (PT h0 0)) :
    (execOp ρ o).run Tryz.prog w = .ok (.value (.agg #[PT h0 0])) w := by
  have c0 := h.cell (List.mem_of_getElem? hk) hc
  clear h hk hc
  simp only [execOp, ho, hx]
  go_simp
theorem ex_loadQ {ρ : Operand → Value} {o : Oper} {x : Operand} {g : Nat} {v : Value} {cs : List Value} {w : World} {l : List (Nat × List Value)} (h : Mm w l) (k : Nat) (hk : l[k]? = some (g, cs)) (ho : o.op = .load 40 x) (hx : ρ x = PT g 0) (hc : cs[0]? = some v) :
    (execOp ρ o).run Tryz.prog w = .ok (.value v) w := by
  have c0 := h.cell (List.mem_of_getElem? hk) hc
  clear h hk hc
  simp only [execOp, ho, hx]
  go_simp
theorem ex_boxF {ρ : Operand → Value} {o : Oper} {x : Operand} {g : Nat} {w : World} (ho : o.op = .box 42 x) (hx : ρ x = .agg #[PT g 0]) :
    (execOp ρ o).run Tryz.prog w = .ok (.value (.pointer (some ⟨w.heap.size, 0, none⟩))) (w.alloc (.cells [PT g 0].toArray 42)) := by
  simp only [execOp, ho, hx]
  go_simp
end Rg
end Go.Proofs.YtacicklddhehaaaGreatDoor
end
section
namespace Go.Proofs.YtacicklddhehaaaGreatDoor
namespace NT
/-- A prime. -/
def Prm (p : Nat) : Prop := 1 < p ∧ ∀ d, d ∣ p → d = 1 ∨ d = p
theorem Prm.cop {p : Nat} (h : Prm p) {a : Nat} (ha : ¬ p ∣ a) : Nat.Coprime p a := by
 rcases h.2 (Nat.gcd p a) (Nat.gcd_dvd_left p a) with h1 | h1
 ·exact h1
 ·exact absurd (h1 ▸ Nat.gcd_dvd_right p a) ha
theorem Prm.mul {p a b : Nat} (h : Prm p) (hd : p ∣ a * b) : p ∣ a ∨ p ∣ b := by
 by_cases ha : p ∣ a
 ·exact Or.inl ha
 ·exact Or.inr ((h.cop ha).dvd_of_dvd_mul_left hd)
theorem Prm.pos {p : Nat} (h : Prm p) : 0 < p := by have := h.1; omega
/-- Each number above 1 has a prime that divides it. -/
theorem prm_dvd (n : Nat) (h : 1 < n) : ∃ q, Prm q ∧ q ∣ n := by
 induction n using Nat.strongRecOn with
 | ind n ih =>
  by_cases hp : ∃ d, d ∣ n ∧ d ≠ 1 ∧ d ≠ n
  ·obtain ⟨d, hd, h1, h2⟩ := hp
   have hle := Nat.le_of_dvd (by omega) hd
   have h0 : d ≠ 0 := by
    intro e; rw [e] at hd; have := Nat.eq_zero_of_zero_dvd hd; omega
   obtain ⟨q, hq, hqd⟩ := ih d (by omega) (by omega)
   exact ⟨q, hq, Nat.dvd_trans hqd hd⟩
  ·refine ⟨n, ⟨h, ?_⟩, Nat.dvd_refl n⟩
   intro d hd
   by_cases h1 : d = 1
   ·exact Or.inl h1
   ·by_cases h2 : d = n
    ·exact Or.inr h2
    ·exact absurd ⟨d, hd, h1, h2⟩ hp
/-! Binomials. -/
def ch : Nat → Nat → Nat
 | _, 0 => 1
 | 0, _ + 1 => 0
 | n + 1, k + 1 => ch n k + ch n (k + 1)
theorem ch_zero (n : Nat) : ch n 0 = 1 := by cases n <;> rfl
theorem ch_big (n : Nat) : ∀ k, n < k → ch n k = 0 := by
 induction n with
 | zero => intro k hk; cases k with
  | zero => omega
  | succ k => rfl
 | succ n ih => intro k hk; cases k with
  | zero => omega
  | succ k => show ch n k + ch n (k + 1) = 0; rw [ih k (by omega), ih (k + 1) (by omega)]
theorem ch_self (n : Nat) : ch n n = 1 := by
 induction n with
 | zero => rfl
 | succ n ih => show ch n n + ch n (n + 1) = 1; rw [ih, ch_big n (n + 1) (by omega)]
theorem ch_absorb (n : Nat) : ∀ k, (k + 1) * ch (n + 1) (k + 1) = (n + 1) * ch n k := by
 induction n with
 | zero =>
  intro k
  cases k with
  | zero => rfl
  | succ k =>
   rw [ch_big 1 (k + 1 + 1) (by omega), ch_big 0 (k + 1) (by omega)]; omega
 | succ n ih =>
  intro k
  cases k with
  | zero =>
   have h := ih 0
   show (0 + 1) * (ch (n + 1) 0 + ch (n + 1) (0 + 1)) = _
   rw [Nat.mul_add, h, ch_zero, ch_zero]; omega
  | succ k =>
   have h1 := ih k
   have h2 := ih (k + 1)
   show (k + 1 + 1) * (ch (n + 1) (k + 1) + ch (n + 1) (k + 1 + 1)) = (n + 1 + 1) * (ch (n + 1) (k + 1))
   rw [Nat.mul_add, h2]
   have e : ch (n + 1) (k + 1) = ch n k + ch n (k + 1) := rfl
   rw [Nat.add_mul (k + 1) 1, h1, Nat.add_mul (n + 1) 1 (ch (n + 1) (k + 1))]
   have e' : (n + 1) * ch (n + 1) (k + 1) = (n + 1) * ch n k + (n + 1) * ch n (k + 1) := by rw [e, Nat.mul_add]
   omega
theorem ch_dvd {p : Nat} (hp : Prm p) (k : Nat) (h0 : 0 < k) (hk : k < p) : p ∣ ch p k := by
 obtain ⟨k, rfl⟩ : ∃ j, k = j + 1 := ⟨k - 1, by omega⟩
 obtain ⟨n, rfl⟩ : ∃ j, p = j + 1 := ⟨p - 1, by omega⟩
 have h : n + 1 ∣ (k + 1) * ch (n + 1) (k + 1) := ⟨ch n k, ch_absorb n k⟩
 rcases hp.mul h with h1 | h1
 ·have := Nat.le_of_dvd (by omega) h1; omega
 ·exact h1
def sm (f : Nat → Nat) : Nat → Nat
 | 0 => 0
 | n + 1 => sm f n + f n
theorem sm_first (f : Nat → Nat) (n : Nat) : sm f (n + 1) = f 0 + sm (fun k => f (k + 1)) n := by
 induction n with
 | zero => simp [sm]
 | succ n ih => rw [sm, ih]; simp only [sm]; omega
theorem sm_add (f g : Nat → Nat) (n : Nat) : sm (fun k => f k + g k) n = sm f n + sm g n := by
 induction n with
 | zero => rfl
 | succ n ih => simp only [sm]; rw [ih]; omega
theorem sm_mul (f : Nat → Nat) (c n : Nat) : sm (fun k => c * f k) n = c * sm f n := by
 induction n with
 | zero => rfl
 | succ n ih => simp only [sm]; rw [ih, Nat.mul_add]
theorem sm_congr (f g : Nat → Nat) (n : Nat) (h : ∀ k, k < n → f k = g k) : sm f n = sm g n := by
 induction n with
 | zero => rfl
 | succ n ih => simp only [sm]; rw [ih (fun k hk => h k (by omega)), h n (by omega)]
theorem sm_dvd (f : Nat → Nat) (p n : Nat) (h : ∀ k, k < n → p ∣ f k) : p ∣ sm f n := by
 induction n with
 | zero => exact Nat.dvd_zero p
 | succ n ih => exact Nat.dvd_add (ih (fun k hk => h k (by omega))) (h n (by omega))
theorem binom (a n : Nat) : (a + 1) ^ n = sm (fun k => ch n k * a ^ k) (n + 1) := by
 induction n with
 | zero => simp [sm, ch]
 | succ n ih =>
  rw [Nat.pow_succ, ih, Nat.mul_add, Nat.mul_one]
  rw [sm_first (fun k => ch (n + 1) k * a ^ k) (n + 1)]
  have e : ∀ k, ch (n + 1) (k + 1) * a ^ (k + 1) = a * (ch n k * a ^ k) + ch n (k + 1) * a ^ (k + 1) := by
   intro k
   show (ch n k + ch n (k + 1)) * a ^ (k + 1) = _
   rw [Nat.add_mul, Nat.pow_succ]
   congr 1
   rw [Nat.mul_comm (a ^ k) a, Nat.mul_left_comm]
  have e1 : sm (fun k => ch (n + 1) (k + 1) * a ^ (k + 1)) (n + 1)
    = a * sm (fun k => ch n k * a ^ k) (n + 1) + sm (fun k => ch n (k + 1) * a ^ (k + 1)) (n + 1) := by
   rw [← sm_mul, ← sm_add]
   exact sm_congr _ _ _ (fun k _ => e k)
  rw [e1]
  have e2 : sm (fun k => ch n k * a ^ k) (n + 1) = 1 + sm (fun k => ch n (k + 1) * a ^ (k + 1)) (n + 1) := by
   rw [sm_first (fun k => ch n k * a ^ k) n]
   have : sm (fun k => ch n (k + 1) * a ^ (k + 1)) (n + 1) = sm (fun k => ch n (k + 1) * a ^ (k + 1)) n + ch n (n + 1) * a ^ (n + 1) := rfl
   rw [this, ch_big n (n + 1) (by omega), ch_zero]
   simp
  rw [ch_zero, Nat.pow_zero, Nat.mul_comm _ a]
  omega
theorem dream {p : Nat} (hp : Prm p) (a : Nat) : (a + 1) ^ p % p = (a ^ p + 1) % p := by
 obtain ⟨n, rfl⟩ : ∃ j, p = j + 1 := ⟨p - 1, by have := hp.1; omega⟩
 rw [binom, sm, sm_first]
 obtain ⟨c, hc⟩ := sm_dvd (fun k => ch (n + 1) (k + 1) * a ^ (k + 1)) (n + 1) n
  (fun k hk => Nat.dvd_trans (ch_dvd hp (k + 1) (by omega) (by omega)) (Nat.dvd_mul_right _ _))
 rw [hc, ch_self, ch_zero, Nat.pow_zero]
 have : 1 * 1 + (n + 1) * c + 1 * a ^ (n + 1) = (a ^ (n + 1) + 1) + (n + 1) * c := by omega
 rw [this, Nat.add_mul_mod_self_left]
theorem fermat {p : Nat} (hp : Prm p) (a : Nat) : a ^ p % p = a % p := by
 induction a with
 | zero => rw [Nat.zero_pow hp.pos]
 | succ a ih => rw [dream hp, Nat.add_mod, ih, ← Nat.add_mod]
theorem fermat1 {p : Nat} (hp : Prm p) (a : Nat) (ha : ¬ p ∣ a) : a ^ (p - 1) % p = 1 := by
 have h := fermat hp a
 obtain ⟨n, rfl⟩ : ∃ j, p = j + 1 := ⟨p - 1, by have := hp.1; omega⟩
 rw [Nat.add_sub_cancel]
 rw [Nat.pow_succ] at h
 have hn : 0 < n := by have := hp.1; omega
 have h1 : 1 ≤ a ^ n := Nat.one_le_iff_ne_zero.mpr (fun e => by
  rcases Nat.pow_eq_zero.mp e with ⟨e1, -⟩
  rw [e1] at ha; exact ha (Nat.dvd_zero _))
 have h2 : n + 1 ∣ (a ^ n - 1) * a := by
  rw [Nat.sub_mul, Nat.one_mul]
  exact Nat.dvd_of_mod_eq_zero (Nat.sub_mod_eq_zero_of_mod_eq h)
 rcases hp.mul h2 with h3 | h3
 ·obtain ⟨c, hc⟩ := h3
  have : a ^ n = 1 + (n + 1) * c := by omega
  rw [this, Nat.add_mul_mod_self_left, Nat.mod_eq_of_lt hp.1]
 ·exact absurd h3 ha
/-! Orders. -/
theorem least (P : Nat → Prop) (n : Nat) (h : P n) : ∃ m, P m ∧ ∀ k, k < m → ¬ P k := by
 induction n using Nat.strongRecOn with
 | ind n ih =>
  by_cases hk : ∃ k, k < n ∧ P k
  ·obtain ⟨k, h1, h2⟩ := hk
   exact ih k h1 h2
  ·exact ⟨n, h, fun k h1 h2 => hk ⟨k, h1, h2⟩⟩
theorem order {d : Nat} (hd : Prm d) (a : Nat) (ha : ¬ d ∣ a) :
  ∃ e, e ∣ d - 1 ∧ a ^ e % d = 1 ∧ ∀ m, a ^ m % d = 1 → e ∣ m := by
 obtain ⟨e, ⟨h0, h1⟩, h2⟩ := least (fun e => 0 < e ∧ a ^ e % d = 1) (d - 1) ⟨by have := hd.1; omega, fermat1 hd a ha⟩
 have h3 : ∀ m, a ^ m % d = 1 → e ∣ m := by
  intro m hm
  by_cases hr : m % e = 0
  ·exact Nat.dvd_of_mod_eq_zero hr
  ·exfalso
   refine h2 (m % e) (Nat.mod_lt _ h0) ⟨by omega, ?_⟩
   have e1 : a ^ m = (a ^ e) ^ (m / e) * a ^ (m % e) := by
    rw [← Nat.pow_mul, ← Nat.pow_add, Nat.div_add_mod]
   rw [e1, Nat.mul_mod, Nat.pow_mod, h1, Nat.one_pow, Nat.mod_eq_of_lt hd.1, Nat.one_mul, Nat.mod_mod] at hm
   exact hm
 exact ⟨e, h3 _ (fermat1 hd a ha), h1, h3⟩
/-- Pocklington: each prime that divides N leaves 1 by F. -/
theorem pock {N M F a d : Nat} (qs : List Nat) (hM : N = M + 1) (hF : F ∣ M) (hd : Prm d) (hdN : d ∣ N) (h1 : a ^ M % N = 1)
  (hc : ∀ t, (∀ q, q ∈ qs → Nat.Coprime q t) → Nat.Coprime F t)
  (hq : ∀ q, q ∈ qs → Prm q ∧ q ∣ M ∧ Nat.Coprime (a ^ (M / q) % N + M) N) : F ∣ d - 1 := by
 have hmod : ∀ x, x % N % d = x % d := fun x => Nat.mod_mod_of_dvd x hdN
 have h1d : a ^ M % d = 1 := by rw [← hmod, h1, Nat.mod_eq_of_lt hd.1]
 have hM0 : M ≠ 0 := by
  intro e; rw [e] at hM; rw [hM] at hdN; have := Nat.dvd_one.mp hdN; have := hd.1; omega
 have ha : ¬ d ∣ a := by
  intro h
  have h2 : d ∣ a ^ M := Nat.dvd_trans h (by
   obtain ⟨k, hk⟩ : ∃ k, M = k + 1 := ⟨M - 1, by omega⟩
   rw [hk, Nat.pow_succ]; exact Nat.dvd_mul_left _ _)
  have := Nat.mod_eq_zero_of_dvd h2
  omega
 obtain ⟨e, h2, h3, h4⟩ := order hd a ha
 obtain ⟨t, ht⟩ := h4 M h1d
 have hcop : Nat.Coprime F t := by
  refine hc t (fun q hqm => ?_)
  obtain ⟨g1, g2, g3⟩ := hq q hqm
  refine g1.cop (fun hqt => ?_)
  obtain ⟨s, hs⟩ := hqt
  have g4 : M / q = e * s := by
   rw [ht, hs, Nat.mul_left_comm, Nat.mul_div_cancel_left _ g1.pos]
  have g5 : a ^ (M / q) % d = 1 := by
   rw [g4, Nat.pow_mul, Nat.pow_mod, h3, Nat.one_pow, Nat.mod_eq_of_lt hd.1]
  have g6 : d ∣ a ^ (M / q) % N + M := by
   refine Nat.dvd_of_mod_eq_zero ?_
   rw [Nat.add_mod, hmod, g5, ← Nat.mod_eq_of_lt hd.1, ← Nat.add_mod, Nat.add_comm 1 M, ← hM]
   exact Nat.mod_eq_zero_of_dvd hdN
  have g7 := Nat.dvd_gcd g6 hdN
  rw [g3] at g7
  have := Nat.dvd_one.mp g7; have := hd.1; omega
 have h5 : F ∣ e := hcop.dvd_of_dvd_mul_right (ht ▸ hF)
 exact Nat.dvd_trans h5 h2
/-- A number whose prime divisors all leave 1 by F, F F above it, is prime. -/
theorem prm_of {N F : Nat} (hN : 1 < N) (hF : N < F * F) (h : ∀ d, Prm d → d ∣ N → F ∣ d - 1) : Prm N := by
 obtain ⟨d, hd, hdN⟩ := prm_dvd N hN
 by_cases e : d = N
 ·exact e ▸ hd
 ·exfalso
  obtain ⟨c, hc⟩ := hdN
  have hc1 : 1 < c := by
   rcases c with _ | _ | c
   ·omega
   ·omega
   ·omega
  obtain ⟨d', hd', hdc⟩ := prm_dvd c hc1
  have g1 : F ≤ d - 1 := Nat.le_of_dvd (by have := hd.1; omega) (h d hd ⟨c, hc⟩)
  have g2 : F ≤ d' - 1 := Nat.le_of_dvd (by have := hd'.1; omega) (h d' hd' (Nat.dvd_trans hdc ⟨d, by rw [hc, Nat.mul_comm]⟩))
  have g3 := Nat.le_of_dvd (by omega) hdc
  have g4 : F * F ≤ d * c := Nat.mul_le_mul (by omega) (by omega)
  omega
/-- All divisors leave 1 by F. -/
theorem all_one {N F : Nat} (h : ∀ d, Prm d → d ∣ N → F ∣ d - 1) : ∀ c, 0 < c → c ∣ N → F ∣ c - 1 := by
 intro c
 induction c using Nat.strongRecOn with
 | ind c ih =>
  intro h0 hc
  by_cases h1 : c = 1
  ·rw [h1]; exact Nat.dvd_zero F
  ·obtain ⟨d, hd, hdc⟩ := prm_dvd c (by omega)
   obtain ⟨b, hb⟩ := hdc
   have hb0 : 0 < b := by
    rcases b with _ | b
    ·omega
    ·omega
   have g1 := h d hd (Nat.dvd_trans ⟨b, hb⟩ hc)
   have hlt : b < c := by
    have := hd.1
    have : 2 * b ≤ d * b := Nat.mul_le_mul (by omega) (Nat.le_refl b)
    omega
   have g2 := ih b hlt hb0 (Nat.dvd_trans ⟨d, by rw [hb, Nat.mul_comm]⟩ hc)
   obtain ⟨x, hx⟩ := g1
   obtain ⟨y, hy⟩ := g2
   have ed : d = F * x + 1 := by have := hd.1; omega
   have eb : b = F * y + 1 := by omega
   refine ⟨F * x * y + x + y, ?_⟩
   have : (F * x + 1) * (F * y + 1) = F * (F * x * y + x + y) + 1 := by grind
   rw [hb, ed, eb, this, Nat.add_sub_cancel]
/-- Of a number below F F F: with c1, c2 its digits by F, and c1 c1 - 4 c2 no square, it is prime. -/
theorem prm_cube {N F c1 c2 s : Nat} (hN : 1 < N) (hF : 1 < F) (e : N = 1 + F * c1 + F * F * c2) (h1 : c1 < F) (h2 : c2 + 1 < F)
  (hs : s * s + 4 * c2 < c1 * c1) (hs2 : c1 * c1 < (s + 1) * (s + 1) + 4 * c2)
  (h : ∀ d, Prm d → d ∣ N → F ∣ d - 1) : Prm N := by
 have hall := all_one h
 refine ⟨hN, fun d hd => ?_⟩
 obtain ⟨c, hc⟩ := hd
 have hd0 : 0 < d := by
  rcases d with _ | d
  ·rw [Nat.zero_mul] at hc; omega
  ·omega
 have hc0 : 0 < c := by
  rcases c with _ | c
  ·rw [Nat.mul_zero] at hc; omega
  ·omega
 obtain ⟨x, hx⟩ := hall d hd0 ⟨c, hc⟩
 obtain ⟨y, hy⟩ := hall c hc0 ⟨d, by rw [hc, Nat.mul_comm]⟩
 have ed : d = F * x + 1 := by omega
 have ec : c = F * y + 1 := by omega
 by_cases hx0 : x = 0
 ·left; rw [ed, hx0]; omega
 by_cases hy0 : y = 0
 ·right; rw [hc, ec, hy0]; simp
 exfalso
 have e1 : 1 + F * c1 + F * F * c2 = 1 + F * (x + y) + F * F * (x * y) := by
  rw [← e, hc, ed, ec]
  grind
 have e2 : c1 + F * c2 = (x + y) + F * (x * y) := by
  have : F * (c1 + F * c2) = F * ((x + y) + F * (x * y)) := by
   grind
  exact Nat.eq_of_mul_eq_mul_left (by omega) this
 -- x y is at most c2 + something: bring both below F
 have hxy : x * y ≤ c2 := by
  rcases Nat.lt_or_ge c2 (x * y) with h5 | h5
  ·exfalso
   have : F * (c2 + 1) ≤ F * (x * y) := Nat.mul_le_mul (Nat.le_refl F) h5
   have : F * (c2 + 1) = F * c2 + F := by rw [Nat.mul_add, Nat.mul_one]
   omega
  ·exact h5
 have hsum : x + y ≤ x * y + 1 := by
  obtain ⟨x', rfl⟩ : ∃ k, x = k + 1 := ⟨x - 1, by omega⟩
  obtain ⟨y', rfl⟩ : ∃ k, y = k + 1 := ⟨y - 1, by omega⟩
  have : (x' + 1) * (y' + 1) = x' * y' + x' + y' + 1 := by grind
  omega
 have hxye : x * y = c2 := by
  rcases Nat.lt_or_ge (x * y) c2 with h5 | h5
  ·exfalso
   have : F * (x * y + 1) ≤ F * c2 := Nat.mul_le_mul (Nat.le_refl F) h5
   have : F * (x * y + 1) = F * (x * y) + F := by rw [Nat.mul_add, Nat.mul_one]
   omega
  ·omega
 have hs1 : x + y = c1 := by rw [hxye] at e2; omega
 -- (x - y)^2 = c1 c1 - 4 c2
 rcases Nat.le_total x y with hle | hle
 ·obtain ⟨k, hk⟩ : ∃ k, y = x + k := ⟨y - x, by omega⟩
  have hsq : c1 * c1 = k * k + 4 * c2 := by rw [← hs1, ← hxye, hk]; grind
  have a1 : s * s < k * k := by omega
  have a2 : k * k < (s + 1) * (s + 1) := by omega
  have b1 : s < k := Nat.mul_self_lt_mul_self_iff.mp a1
  have b2 : k < s + 1 := Nat.mul_self_lt_mul_self_iff.mp a2
  omega
 ·obtain ⟨k, hk⟩ : ∃ k, x = y + k := ⟨x - y, by omega⟩
  have hsq : c1 * c1 = k * k + 4 * c2 := by rw [← hs1, ← hxye, hk]; grind
  have a1 : s * s < k * k := by omega
  have a2 : k * k < (s + 1) * (s + 1) := by omega
  have b1 : s < k := Nat.mul_self_lt_mul_self_iff.mp a1
  have b2 : k < s + 1 := Nat.mul_self_lt_mul_self_iff.mp a2
  omega
/-! Powers by squaring, for the kernel. -/
def pm (N : Nat) : Nat → Nat → Nat → Nat → Nat
 | 0, _, _, acc => acc
 | f + 1, b, e, acc => pm N f (b * b % N) (e / 2) (if e % 2 = 1 then acc * b % N else acc)
theorem pm_spec (N : Nat) (f : Nat) : ∀ b e acc, e < 2 ^ f → pm N f b e acc % N = acc * b ^ e % N := by
 induction f with
 | zero =>
  intro b e acc h
  have : e = 0 := by simpa using h
  rw [this, Nat.pow_zero, Nat.mul_one]; rfl
 | succ f ih =>
  intro b e acc h
  show pm N f (b * b % N) (e / 2) (if e % 2 = 1 then acc * b % N else acc) % N = _
  rw [ih _ _ _ (by rw [Nat.pow_succ] at h; omega)]
  have h1 : (b * b % N) ^ (e / 2) % N = b ^ (2 * (e / 2)) % N := by
   rw [← Nat.pow_mod, Nat.pow_mul, Nat.pow_two]
  rw [Nat.mul_mod, h1, ← Nat.mul_mod]
  by_cases he : e % 2 = 1
  ·rw [if_pos he, Nat.mul_mod, Nat.mod_mod, ← Nat.mul_mod, Nat.mul_assoc, ← Nat.pow_add_one']
   have : 2 * (e / 2) + 1 = e := by omega
   rw [this]
  ·rw [if_neg he]
   have : 2 * (e / 2) = e := by omega
   rw [this]
theorem pm_spec2 (N g h b e acc : Nat) (hh : e < 2 ^ g * 2 ^ h) : pm N (g + h) b e acc % N = acc * b ^ e % N :=
 pm_spec N (g + h) b e acc (by rw [Nat.pow_add]; exact hh)
theorem pm_eq {N a e c : Nat} (h : e < 2 ^ 256 * 2 ^ 256 ∧ pm N 512 a e 1 % N = c) : a ^ e % N = c := by
 have := pm_spec2 N 256 256 a e 1 h.1
 rw [Nat.one_mul] at this
 rw [← this]; exact h.2
theorem cop_pm {N a e M : Nat} (h : e < 2 ^ 256 * 2 ^ 256 ∧ Nat.gcd (pm N 512 a e 1 % N + M) N = 1) : Nat.Coprime (a ^ e % N + M) N := by
 have := pm_eq (N := N) (a := a) (e := e) ⟨h.1, rfl⟩
 rw [this]; exact h.2
/-! Trial division. -/
def tr (n : Nat) : Nat → Nat → Bool
 | 0, _ => true
 | f + 1, d => if n % d = 0 then false else tr n f (d + 1)
theorem tr_spec (n : Nat) (f : Nat) : ∀ d, tr n f d = true → ∀ c, d ≤ c → c < d + f → ¬ c ∣ n := by
 induction f with
 | zero => intro d _ c h1 h2; omega
 | succ f ih =>
  intro d h c h1 h2 hc
  unfold tr at h
  by_cases h0 : n % d = 0
  ·rw [if_pos h0] at h; exact absurd h (by decide)
  ·rw [if_neg h0] at h
   by_cases e : c = d
   ·rw [e] at hc; exact h0 (Nat.mod_eq_zero_of_dvd hc)
   ·exact ih (d + 1) h c (by omega) (by omega) hc
theorem prm_trial (n f : Nat) (h1 : 1 < n) (h2 : n < (f + 2) * (f + 2)) (h : n < 4 ∨ tr n f 2 = true) : Prm n := by
 refine ⟨h1, fun d hd => ?_⟩
 obtain ⟨c, hc⟩ := hd
 rcases h with h | h
 ·have hd2 : d = 1 ∨ d = n := by
   have hle := Nat.le_of_dvd (by omega) (⟨c, hc⟩ : d ∣ n)
   have h0 : d ≠ 0 := by
    intro e; rw [e, Nat.zero_mul] at hc; omega
   rcases d with _ | _ | _ | d
   ·exact absurd rfl h0
   ·left; rfl
   ·right
    have : n = 2 ∨ n = 3 := by omega
    rcases this with e | e
    ·omega
    ·omega
   ·right; omega
  exact hd2
 ·have key : ∀ x y, n = x * y → x ≤ y → x = 1 ∨ x = 0 := by
   intro x y e hle
   rcases Nat.lt_or_ge x 2 with g | g
   ·omega
   ·exfalso
    refine tr_spec n f 2 h x g ?_ ⟨y, e⟩
    rcases Nat.lt_or_ge x (2 + f) with g2 | g2
    ·exact g2
    ·exfalso
     have : (f + 2) * (f + 2) ≤ x * y := Nat.mul_le_mul (by omega) (by omega)
     omega
  rcases Nat.le_total d c with hle | hle
  ·rcases key d c hc hle with e | e
   ·exact Or.inl e
   ·rw [e, Nat.zero_mul] at hc; omega
  ·rcases key c d (by rw [hc, Nat.mul_comm]) hle with e | e
   ·right; rw [hc, e, Nat.mul_one]
   ·rw [e, Nat.mul_zero] at hc; omega
theorem pockp {N M F a d : Nat} (qs : List Nat) (hM : N = M + 1) (hF : F ∣ M) (hd : Prm d) (hdN : d ∣ N) (h1 : M < 2 ^ 256 * 2 ^ 256 ∧ pm N 512 a M 1 % N = 1)
  (hc : ∀ t, (∀ q, q ∈ qs → Nat.Coprime q t) → Nat.Coprime F t)
  (hq : ∀ q, q ∈ qs → Prm q ∧ q ∣ M ∧ M / q < 2 ^ 256 * 2 ^ 256 ∧ Nat.gcd (pm N 512 a (M / q) 1 % N + M) N = 1) : F ∣ d - 1 :=
 pock qs hM hF hd hdN (pm_eq h1) hc (fun q h => ⟨(hq q h).1, (hq q h).2.1, cop_pm (hq q h).2.2⟩)
theorem prm_7577 : Prm 7577 := prm_trial 7577 88 (by decide) (by decide) (by decide +kernel)
theorem prm_582767 : Prm 582767 := prm_trial 582767 764 (by decide) (by decide) (by decide +kernel)
theorem fac_9272813673901 : ∀ d, Prm d → d ∣ 9272813673901 → 4415625559 ∣ d - 1 := by
 intro d hd hdN
 refine pockp (N := 9272813673901) (M := 9272813673900) (F := 4415625559) (a := 2) [7577, 582767] (by decide) (by decide +kernel) hd hdN (by decide +kernel) ?_ ?_
 ·intro t h
  have e : 4415625559 = (7577 * 582767) := by decide
  rw [e]
  exact Nat.Coprime.mul_left ((h 7577 (by decide))) ((h 582767 (by decide)))
 ·intro q hq
  simp only [List.mem_cons, List.not_mem_nil, or_false] at hq
  rcases hq with rfl | rfl
  ·exact ⟨prm_7577, by decide +kernel, by decide +kernel⟩
  ·exact ⟨prm_582767, by decide +kernel, by decide +kernel⟩
theorem prm_9272813673901 : Prm 9272813673901 := prm_of (by decide) (by decide) fac_9272813673901
theorem fac_1928745244171409 : ∀ d, Prm d → d ∣ 1928745244171409 → 9272813673901 ∣ d - 1 := by
 intro d hd hdN
 refine pockp (N := 1928745244171409) (M := 1928745244171408) (F := 9272813673901) (a := 2) [9272813673901] (by decide) (by decide +kernel) hd hdN (by decide +kernel) ?_ ?_
 ·intro t h
  have e : 9272813673901 = 9272813673901 := by decide
  rw [e]
  exact (h 9272813673901 (by decide))
 ·intro q hq
  simp only [List.mem_cons, List.not_mem_nil, or_false] at hq
  subst hq
  ·exact ⟨prm_9272813673901, by decide +kernel, by decide +kernel⟩
theorem prm_1928745244171409 : Prm 1928745244171409 := prm_of (by decide) (by decide) fac_1928745244171409
theorem fac_7259797099061183477 : ∀ d, Prm d → d ∣ 7259797099061183477 → 1928745244171409 ∣ d - 1 := by
 intro d hd hdN
 refine pockp (N := 7259797099061183477) (M := 7259797099061183476) (F := 1928745244171409) (a := 2) [1928745244171409] (by decide) (by decide +kernel) hd hdN (by decide +kernel) ?_ ?_
 ·intro t h
  have e : 1928745244171409 = 1928745244171409 := by decide
  rw [e]
  exact (h 1928745244171409 (by decide))
 ·intro q hq
  simp only [List.mem_cons, List.not_mem_nil, or_false] at hq
  subst hq
  ·exact ⟨prm_1928745244171409, by decide +kernel, by decide +kernel⟩
theorem prm_7259797099061183477 : Prm 7259797099061183477 := prm_of (by decide) (by decide) fac_7259797099061183477
theorem fac_2584487767265781317813 : ∀ d, Prm d → d ∣ 2584487767265781317813 → 7259797099061183477 ∣ d - 1 := by
 intro d hd hdN
 refine pockp (N := 2584487767265781317813) (M := 2584487767265781317812) (F := 7259797099061183477) (a := 2) [7259797099061183477] (by decide) (by decide +kernel) hd hdN (by decide +kernel) ?_ ?_
 ·intro t h
  have e : 7259797099061183477 = 7259797099061183477 := by decide
  rw [e]
  exact (h 7259797099061183477 (by decide))
 ·intro q hq
  simp only [List.mem_cons, List.not_mem_nil, or_false] at hq
  subst hq
  ·exact ⟨prm_7259797099061183477, by decide +kernel, by decide +kernel⟩
theorem prm_2584487767265781317813 : Prm 2584487767265781317813 := prm_of (by decide) (by decide) fac_2584487767265781317813
theorem prm_2 : Prm 2 := prm_trial 2 2 (by decide) (by decide) (by decide +kernel)
theorem prm_3 : Prm 3 := prm_trial 3 2 (by decide) (by decide) (by decide +kernel)
theorem prm_11 : Prm 11 := prm_trial 11 4 (by decide) (by decide) (by decide +kernel)
theorem prm_23 : Prm 23 := prm_trial 23 5 (by decide) (by decide) (by decide +kernel)
theorem prm_47 : Prm 47 := prm_trial 47 7 (by decide) (by decide) (by decide +kernel)
theorem prm_10177 : Prm 10177 := prm_trial 10177 101 (by decide) (by decide) (by decide +kernel)
theorem prm_859267 : Prm 859267 := prm_trial 859267 927 (by decide) (by decide) (by decide +kernel)
theorem prm_52437899 : Prm 52437899 := prm_trial 52437899 7242 (by decide) (by decide) (by decide +kernel)
theorem fac_p : ∀ d, Prm d → d ∣ 4002409555221667393417789825735904156556882819939007885332058136124031650490837864442687629129015664037894272559787 → 253663835868735594330404923636534084567099854 ∣ d - 1 := by
 intro d hd hdN
 refine pockp (N := 4002409555221667393417789825735904156556882819939007885332058136124031650490837864442687629129015664037894272559787) (M := 4002409555221667393417789825735904156556882819939007885332058136124031650490837864442687629129015664037894272559786) (F := 253663835868735594330404923636534084567099854) (a := 2) [2, 3, 11, 23, 47, 10177, 859267, 52437899, 2584487767265781317813] (by decide) (by decide +kernel) hd hdN (by decide +kernel) ?_ ?_
 ·intro t h
  have e : 253663835868735594330404923636534084567099854 = (2 * (3 ^ 2 * (11 * (23 * (47 * (10177 * (859267 * (52437899 * 2584487767265781317813)))))))) := by decide
  rw [e]
  exact Nat.Coprime.mul_left ((h 2 (by decide))) (Nat.Coprime.mul_left (Nat.Coprime.pow_left 2 (h 3 (by decide))) (Nat.Coprime.mul_left ((h 11 (by decide))) (Nat.Coprime.mul_left ((h 23 (by decide))) (Nat.Coprime.mul_left ((h 47 (by decide))) (Nat.Coprime.mul_left ((h 10177 (by decide))) (Nat.Coprime.mul_left ((h 859267 (by decide))) (Nat.Coprime.mul_left ((h 52437899 (by decide))) ((h 2584487767265781317813 (by decide))))))))))
 ·intro q hq
  simp only [List.mem_cons, List.not_mem_nil, or_false] at hq
  rcases hq with rfl | rfl | rfl | rfl | rfl | rfl | rfl | rfl | rfl
  ·exact ⟨prm_2, by decide +kernel, by decide +kernel⟩
  ·exact ⟨prm_3, by decide +kernel, by decide +kernel⟩
  ·exact ⟨prm_11, by decide +kernel, by decide +kernel⟩
  ·exact ⟨prm_23, by decide +kernel, by decide +kernel⟩
  ·exact ⟨prm_47, by decide +kernel, by decide +kernel⟩
  ·exact ⟨prm_10177, by decide +kernel, by decide +kernel⟩
  ·exact ⟨prm_859267, by decide +kernel, by decide +kernel⟩
  ·exact ⟨prm_52437899, by decide +kernel, by decide +kernel⟩
  ·exact ⟨prm_2584487767265781317813, by decide +kernel, by decide +kernel⟩
theorem prm_p : Prm 4002409555221667393417789825735904156556882819939007885332058136124031650490837864442687629129015664037894272559787 := prm_cube (F := 253663835868735594330404923636534084567099854) (c1 := 41045055325326579460269857981194636858402675) (c2 := 62202009562450627810769096) (s := 41045055325326579460269857981194636858402674) (by decide) (by decide) (by decide) (by decide) (by decide) (by decide) (by decide) fac_p
theorem sq_mod {p z : Nat} (hp : Prm p) (h : z * z % p = 1) : z % p = 1 ∨ (z + 1) % p = 0 := by
 have h1 : 1 ≤ z := by
  rcases Nat.eq_zero_or_pos z with e | e
  ·rw [e, Nat.mul_zero, Nat.zero_mod] at h; cases h
  ·exact e
 have h2 : p ∣ (z - 1) * (z + 1) := by
  have e : (z - 1) * (z + 1) = z * z - 1 := by
   obtain ⟨y, rfl⟩ : ∃ y, z = y + 1 := ⟨z - 1, by omega⟩
   rw [Nat.add_sub_cancel]
   have : (y + 1) * (y + 1) = y * (y + 1 + 1) + 1 := by grind
   omega
  rw [e]
  refine Nat.dvd_of_mod_eq_zero (Nat.sub_mod_eq_zero_of_mod_eq ?_)
  rw [h, Nat.mod_eq_of_lt hp.1]
 rcases hp.mul h2 with h3 | h3
 ·left
  obtain ⟨c, hc⟩ := h3
  rw [show z = 1 + p * c by omega, Nat.add_mul_mod_self_left, Nat.mod_eq_of_lt hp.1]
 ·right; exact Nat.mod_eq_zero_of_dvd h3
/-- By a prime that leaves 3 by 4 the power is the number or the negated one. -/
theorem half_pow {p a j : Nat} (hp : Prm p) (h4 : p + 1 = 4 * (j + 1)) (ha : ¬ p ∣ a) : a ^ (2 * j + 2) % p = a % p ∨ (a ^ (2 * j + 2) + a) % p = 0 := by
 have hz : a ^ (2 * j + 1) * a ^ (2 * j + 1) % p = 1 := by
  rw [← Nat.pow_add, show 2 * j + 1 + (2 * j + 1) = p - 1 by omega]
  exact fermat1 hp a ha
 have e : a ^ (2 * j + 2) = a ^ (2 * j + 1) * a := by rw [show 2 * j + 2 = 2 * j + 1 + 1 by omega, Nat.pow_succ]
 rw [e]
 rcases sq_mod hp hz with h | h
 ·left
  rw [Nat.mul_mod, h, Nat.one_mul, Nat.mod_mod]
 ·right
  rw [show a ^ (2 * j + 1) * a + a = (a ^ (2 * j + 1) + 1) * a by rw [Nat.add_mul, Nat.one_mul], Nat.mul_mod, h, Nat.zero_mul, Nat.zero_mod]
theorem even_pow {p a b : Nat} (h : (a + b) % p = 0) (k : Nat) : a ^ (2 * k) % p = b ^ (2 * k) % p := by
 rw [Nat.pow_mul, Nat.pow_mul, Nat.pow_mod, Nat.pow_mod (b ^ 2)]
 congr 2
 rw [Nat.pow_two, Nat.pow_two]
 have e : a * a + b * (a + b) = b * b + a * (a + b) := by grind
 have e1 : (a * a + b * (a + b)) % p = a * a % p := by rw [Nat.add_mod, Nat.mul_mod b, h, Nat.mul_zero, Nat.zero_mod, Nat.add_zero, Nat.mod_mod]
 have e2 : (b * b + a * (a + b)) % p = b * b % p := by rw [Nat.add_mod, Nat.mul_mod a, h, Nat.mul_zero, Nat.zero_mod, Nat.add_zero, Nat.mod_mod]
 rw [← e1, ← e2, e]
end NT
end Go.Proofs.YtacicklddhehaaaGreatDoor
end
section
namespace Go.Proofs.YtacicklddhehaaaGreatDoor
open Go.RowKit
namespace Rg
def pB : Nat := 4002409555221667393417789825735904156556882819939007885332058136124031650490837864442687629129015664037894272559787
theorem pB_0 : wd pB 0 = 13402431016077863595 := by decide +kernel
theorem pB_1 : wd pB 1 = 2210141511517208575 := by decide +kernel
theorem pB_2 : wd pB 2 = 7435674573564081700 := by decide +kernel
theorem pB_3 : wd pB 3 = 7239337960414712511 := by decide +kernel
theorem pB_4 : wd pB 4 = 5412103778470702295 := by decide +kernel
theorem pB_5 : wd pB 5 = 1873798617647539866 := by decide +kernel
theorem pB_lt : pB < big := by
 have h : 4 * pB < big := by decide +kernel
 omega
theorem pB_ok : Ok pB := ⟨by decide +kernel, by decide +kernel, by decide +kernel⟩
theorem ex_build_pB {ρ : Operand → Value} {o : Oper} {w : World} (ho : o.op = .build 24 #[(0, .const (.int .u64 13402431016077863595)), (1, .const (.int .u64 2210141511517208575)), (2, .const (.int .u64 7435674573564081700)), (3, .const (.int .u64 7239337960414712511)), (4, .const (.int .u64 5412103778470702295)), (5, .const (.int .u64 1873798617647539866))]) (h0 : ρ (.const (.int .u64 13402431016077863595)) = .int .u64 13402431016077863595) (h1 : ρ (.const (.int .u64 2210141511517208575)) = .int .u64 2210141511517208575) (h2 : ρ (.const (.int .u64 7435674573564081700)) = .int .u64 7435674573564081700) (h3 : ρ (.const (.int .u64 7239337960414712511)) = .int .u64 7239337960414712511) (h4 : ρ (.const (.int .u64 5412103778470702295)) = .int .u64 5412103778470702295) (h5 : ρ (.const (.int .u64 1873798617647539866)) = .int .u64 1873798617647539866) : (execOp ρ o).run Tryz.prog w = .ok (.value (N pB)) w := by
 have e : N pB = .agg #[.int .u64 13402431016077863595, .int .u64 2210141511517208575, .int .u64 7435674573564081700, .int .u64 7239337960414712511, .int .u64 5412103778470702295, .int .u64 1873798617647539866] := by simp only [N, pB_0, pB_1, pB_2, pB_3, pB_4, pB_5]
 rw [e]
 clear e
 simp only [execOp, ho]
 go_simp
theorem base_pB (w : World) :
  Calls Tryz.prog 47 #[] w (Rt w (N pB)) := by
 have H0 : Hid (_ ∧ _) := ⟨Mm.nil w, Below.refl w.heap.size w⟩
 go_enter Tryz.func47, Tryz.ntmps47
 refine wp_seq ?_
 refine zD 1 [.made zero6 24] (sB H0) ?ho1 ?he1
 case ho1 => exact am (zF rfl) trivial
 intro J w1 l hM hl
 have H1 : Hid (Mm w1 [(J 0, zero6)] ∧ _) := wB H0 hM hl [0]
 have o1_0 := vB H0 hM hl 0
 clear hM hl l
 generalize J 0 = J1_0 at H1 o1_0 ⊢
 clear J
 refine rN (wp_seq ?_)
 refine zC 1 [.q (N pB)] H1 ?ho2 ?he2
 case ho2 => exact ak (fun J => ⟨rfl, fun w' _ => ex_build_pB rfl rfl rfl rfl rfl rfl rfl ⟩) trivial
 intro _ w2 H2
 clear H1
 refine zG (l := [1]) rfl ?_
 refine sG rfl (fun h => zM h 0 rfl rfl rfl rfl (Nat.le_of_ble_eq_true rfl)) 0 [(_, zB pB)] H2 o1_0 fun w3 H3 => ?_
 clear H2
 refine zE (zA (wp_ret ?_))
 repeat (first | refine zK ?_ | refine zI ?_)
 have c0 := H3.out.1.get 0 rfl 0 rfl
 have c1 := H3.out.1.get 0 rfl 1 rfl
 have c2 := H3.out.1.get 0 rfl 2 rfl
 have c3 := H3.out.1.get 0 rfl 3 rfl
 have c4 := H3.out.1.get 0 rfl 4 rfl
 have c5 := H3.out.1.get 0 rfl 5 rfl
 refine bodyPost_ret (v := N pB) (by simp [results, Tryz.results47, go_sem, *]) rfl ?_
 exact ⟨rfl, H3.out.2⟩
set_option maxHeartbeats 1000000 in
theorem left_gen (a p x K : Nat) (f : Nat → Nat) (f0 : f 0 = a)
  (cb : ∀ w, Calls Tryz.prog 47 #[] w (Rt w (N p)))
  (cs : ∀ k, k < K → ∀ w, Calls Tryz.prog 45 #[N (f k), N p] w (Rt w (.tuple #[N (f (k + 1)), .bool false])))
  (ct : ∀ w, Calls Tryz.prog 45 #[N (f K), N p] w (Rt w (.tuple #[N x, .bool true]))) (w : World) :
  Calls Tryz.prog 41 #[N a] w (Rt w (N (f K))) := by
 have H0 : Hid (_ ∧ _) := ⟨Mm.nil w, Below.refl w.heap.size w⟩
 have CB : Hid _ := cb
 have CS : Hid _ := cs
 have CT : Hid _ := ct
 have F0 : Hid _ := f0
 clear cb cs ct f0
 go_enter Tryz.func41, Tryz.ntmps41
 refine wp_seq ?_
 refine zD 2 [.made (zB a) 24, .made zero6 24] (sB H0) ?ho1 ?he1
 case ho1 => exact am (zU rfl rfl) (am (zF rfl) trivial)
 intro J w1 l hM hl
 have H1 : Hid (Mm w1 [(J 0, zB a), (J 1, zero6)] ∧ _) := wB H0 hM hl [0, 1]
 have o1_0 := vB H0 hM hl 0
 have o1_1 := vB H0 hM hl 1
 clear hM hl l
 generalize J 0 = J1_0 at H1 o1_0 ⊢
 generalize J 1 = J1_1 at H1 o1_1 ⊢
 clear J
 refine rN (wp_block ?_)
 refine loop_ghost (α := Nat) (fun k a' w' => ∃ s0 : Nat → Value, a' = ⟨#[N a, PT J1_0 0, PT J1_1 0, s0 3, s0 4, s0 5, s0 6, s0 7, s0 8, s0 9, s0 10, s0 11, s0 12, s0 13], []⟩ ∧ (Mm w' [(J1_0, zB (f k)), (J1_1, zero6)] ∧ Below w.heap.size w w') ∧ k ≤ K) (fun k => K - k) 0 ?st0 ?rd0
 case st0 => exact ⟨(yA [ud, ud, ud, ud, ud, ud, ud, ud, ud, ud, ud, ud, ud, ud]), rfl, ⟨H1.out.1.at0 (by rw [F0.out]), H1.out.2⟩, by omega⟩
 intro k a' w2 hI
 obtain ⟨s0, rfl, hMB, hk0⟩ := hI
 have H2 : Hid (_ ∧ _) := hMB
 clear hMB H1
 by_cases hkK : k = K
 ·have hrd : True := trivial
  clear hrd
  subst hkK
  have CX : Hid _ := CT.out
  refine wp_block (wp_seq ?_)
  refine zQ 9 [.q (N (f k)), .call (N p), .call (.tuple #[N x, .bool true]), .q (.tuple #[N x, .bool true]), .q (N x), .q (.bool true), .made zero6 24, .laid 6 zero6 (zB x), .q (.bool true)] (sB H2) ?ho2 ?he2 (hL := ?hL2)
  case hL2 => exact ⟨⟨_, rfl⟩, trivial⟩
  case ho2 => exact bN 0 (ac (fun w' h => eC call47 (CB.out w')) (ac (fun w' h => eC call45 (CX.out w')) (ar (ag (ag (am (zF rfl) (ak (fun J => ⟨rfl, rfl, rfl, fun w' h => zJ h rfl rfl rfl⟩) (ar trivial))))))))
  intro J w3 l hM hl
  have H3 : Hid (Mm w3 ([(J 6, zB x)] ++ _) ∧ _) := wB H2 hM hl [6]
  have o2_6 := vB H2 hM hl 6
  clear hM hl l H2
  generalize J 6 = J2_6 at H3 o2_6 ⊢
  clear J
  refine rN (wp_seq (wp_seq ?_))
  refine zC 1 [.q (.bool true)] H3 ?ho3 ?he3
  case ho3 => exact ar trivial
  intro _ w4 H4
  clear H3
  refine rN (wp_cond_true rfl (wp_seq ?_))
  refine zC 1 [.q (N (f k))] H4 ?ho4 ?he4
  case ho4 => exact bN 1 trivial
  intro _ w5 H5
  clear H4
  refine zG (l := [1]) rfl ?_
  refine sG rfl (fun h => zM h 2 rfl rfl rfl rfl (Nat.le_of_ble_eq_true rfl)) 2 [_, _, (_, zB (f k))] H5 o1_1 fun w6 H6 => ?_
  clear H5
  refine zE (zA (wp_ret ?_))
  repeat (first | refine zK ?_ | refine zI ?_)
  have c0 := H6.out.1.get 2 rfl 0 rfl
  have c1 := H6.out.1.get 2 rfl 1 rfl
  have c2 := H6.out.1.get 2 rfl 2 rfl
  have c3 := H6.out.1.get 2 rfl 3 rfl
  have c4 := H6.out.1.get 2 rfl 4 rfl
  have c5 := H6.out.1.get 2 rfl 5 rfl
  refine bodyPost_ret (v := N (f k)) (by simp [results, Tryz.results41, go_sem, *]) rfl ?_
  exact ⟨rfl, H6.out.2⟩
 ·have hrd : True := trivial
  clear hrd
  have hlt : k < K := by omega
  have CX : Hid _ := CS.out k hlt
  refine wp_block (wp_seq ?_)
  refine zQ 9 [.q (N (f k)), .call (N p), .call (.tuple #[N (f (k + 1)), .bool false]), .q (.tuple #[N (f (k + 1)), .bool false]), .q (N (f (k + 1))), .q (.bool false), .made zero6 24, .laid 6 zero6 (zB (f (k + 1))), .q (.bool false)] (sB H2) ?ho5 ?he5 (hL := ?hL5)
  case hL5 => exact ⟨⟨_, rfl⟩, trivial⟩
  case ho5 => exact bN 0 (ac (fun w' h => eC call47 (CB.out w')) (ac (fun w' h => eC call45 (CX.out w')) (ar (ag (ag (am (zF rfl) (ak (fun J => ⟨rfl, rfl, rfl, fun w' h => zJ h rfl rfl rfl⟩) (ar trivial))))))))
  intro J w7 l hM hl
  have H7 : Hid (Mm w7 ([(J 6, zB (f (k + 1)))] ++ _) ∧ _) := wB H2 hM hl [6]
  have o5_6 := vB H2 hM hl 6
  clear hM hl l H2
  generalize J 6 = J5_6 at H7 o5_6 ⊢
  clear J
  refine rN (wp_seq (wp_seq ?_))
  refine zC 1 [.q (.bool false)] H7 ?ho6 ?he6
  case ho6 => exact ar trivial
  intro _ w8 H8
  clear H7
  refine rN (wp_cond_false rfl ?_)
  refine wp_skip (zA ?_)
  refine zC 1 [.q (N (f (k + 1)))] H8 ?ho7 ?he7
  case ho7 => exact bN 0 trivial
  intro _ w9 H9
  clear H8
  refine zG (l := [1]) rfl ?_
  refine sG rfl (fun h => zM h 1 rfl rfl rfl rfl (Nat.le_of_ble_eq_true rfl)) 1 [_, (_, zB (f (k + 1))), _] H9 o1_0 fun w10 H10 => ?_
  clear H9
  refine zE (zT (zA ?_))
  exact ⟨k + 1, ⟨(yA [ud, ud, ud, PT J5_6 0, .bool false, .tuple #[N (f (k + 1)), .bool false], N (f k), N p, .tuple #[N (f (k + 1)), .bool false], N (f (k + 1)), .bool false, .bool false, s0 12, N (f (k + 1))]), rfl, ⟨H10.out.1.tail, H10.out.2⟩, by omega⟩, by omega⟩
theorem together_gen (a b r : Nat) (cx : Bool)
  (c0 : ∀ w, Calls Tryz.prog 46 #[N a, N b] w (Rt w (.tuple #[N r, .bool cx]))) (w : World) :
  Calls Tryz.prog 42 #[N a, N b] w (Rt w (N r)) := by
 have H0 : Hid (_ ∧ _) := ⟨Mm.nil w, Below.refl w.heap.size w⟩
 have C0 : Hid _ := c0
 clear c0
 go_enter Tryz.func42, Tryz.ntmps42
 refine wp_seq ?_
 refine zD 3 [.made (zB a) 24, .made (zB b) 24, .made zero6 24] (sB H0) ?ho1 ?he1
 case ho1 => exact am (zU rfl rfl) (am (zU rfl rfl) (am (zF rfl) trivial))
 intro J w1 l hM hl
 have H1 : Hid (Mm w1 [(J 0, zB a), (J 1, zB b), (J 2, zero6)] ∧ _) := wB H0 hM hl [0, 1, 2]
 have o1_0 := vB H0 hM hl 0
 have o1_1 := vB H0 hM hl 1
 have o1_2 := vB H0 hM hl 2
 clear hM hl l
 generalize J 0 = J1_0 at H1 o1_0 ⊢
 generalize J 1 = J1_1 at H1 o1_1 ⊢
 generalize J 2 = J1_2 at H1 o1_2 ⊢
 clear J
 refine rN (wp_seq ?_)
 refine zD 9 [.q (N a), .q (N b), .call (.tuple #[N r, .bool cx]), .q (.tuple #[N r, .bool cx]), .q (N r), .q (.bool cx), .made zero6 24, .laid 6 zero6 (zB r), .q (.bool cx)] (sB H1) ?ho2 ?he2 (hL := ?hL2)
 case hL2 => exact ⟨⟨_, rfl⟩, trivial⟩
 case ho2 => exact bN 0 (bN 1 (ac (fun w' h => eC call46 (C0.out w')) (ar (ag (ag (am (zF rfl) (ak (fun J => ⟨rfl, rfl, rfl, fun w' h => zJ h rfl rfl rfl⟩) (ar trivial))))))))
 intro J w2 l hM hl
 have H2 : Hid (Mm w2 ([(J 6, zB r)] ++ _) ∧ _) := wB H1 hM hl [6]
 have o2_6 := vB H1 hM hl 6
 clear hM hl l H1
 generalize J 6 = J2_6 at H2 o2_6 ⊢
 clear J
 refine rN (wp_seq ?_)
 refine zC 1 [.q (N r)] H2 ?ho3 ?he3
 case ho3 => exact bN 0 trivial
 intro _ w3 H3
 clear H2
 refine zG (l := [1]) rfl ?_
 refine sG rfl (fun h => zM h 3 rfl rfl rfl rfl (Nat.le_of_ble_eq_true rfl)) 3 [_, _, _, (_, zB r)] H3 o1_2 fun w4 H4 => ?_
 clear H3
 refine zE (zA (wp_ret ?_))
 repeat (first | refine zK ?_ | refine zI ?_)
 have c0 := H4.out.1.get 3 rfl 0 rfl
 have c1 := H4.out.1.get 3 rfl 1 rfl
 have c2 := H4.out.1.get 3 rfl 2 rfl
 have c3 := H4.out.1.get 3 rfl 3 rfl
 have c4 := H4.out.1.get 3 rfl 4 rfl
 have c5 := H4.out.1.get 3 rfl 5 rfl
 refine bodyPost_ret (v := N r) (by simp [results, Tryz.results42, go_sem, *]) rfl ?_
 exact ⟨rfl, H4.out.2⟩
theorem sum_gen (a b r x : Nat)
  (c0 : ∀ w, Calls Tryz.prog 42 #[N a, N b] w (Rt w (N x)))
  (c1 : ∀ w, Calls Tryz.prog 41 #[N x] w (Rt w (N r))) (w : World) :
  Calls Tryz.prog 22 #[N a, N b] w (Rt w (N r)) := by
 have H0 : Hid (_ ∧ _) := ⟨Mm.nil w, Below.refl w.heap.size w⟩
 have C0 : Hid _ := c0
 have C1 : Hid _ := c1
 clear c0 c1
 go_enter Tryz.func22, Tryz.ntmps22
 refine wp_seq ?_
 refine zD 3 [.made (zB a) 24, .made (zB b) 24, .made zero6 24] (sB H0) ?ho1 ?he1
 case ho1 => exact am (zU rfl rfl) (am (zU rfl rfl) (am (zF rfl) trivial))
 intro J w1 l hM hl
 have H1 : Hid (Mm w1 [(J 0, zB a), (J 1, zB b), (J 2, zero6)] ∧ _) := wB H0 hM hl [0, 1, 2]
 have o1_0 := vB H0 hM hl 0
 have o1_1 := vB H0 hM hl 1
 have o1_2 := vB H0 hM hl 2
 clear hM hl l
 generalize J 0 = J1_0 at H1 o1_0 ⊢
 generalize J 1 = J1_1 at H1 o1_1 ⊢
 generalize J 2 = J1_2 at H1 o1_2 ⊢
 clear J
 refine rN (wp_seq ?_)
 refine zC 4 [.q (N a), .q (N b), .call (N x), .call (N r)] H1 ?ho2 ?he2
 case ho2 => exact bN 0 (bN 1 (ac (fun w' h => eC call42 (C0.out w')) (ac (fun w' h => eC call41 (C1.out w')) trivial)))
 intro _ w2 H2
 clear H1
 refine zG (l := [4]) rfl ?_
 refine sG rfl (fun h => zM h 2 rfl rfl rfl rfl (Nat.le_of_ble_eq_true rfl)) 2 [_, _, (_, zB r)] H2 o1_2 fun w3 H3 => ?_
 clear H2
 refine zE (zA (wp_ret ?_))
 repeat (first | refine zK ?_ | refine zI ?_)
 have c0 := H3.out.1.get 2 rfl 0 rfl
 have c1 := H3.out.1.get 2 rfl 1 rfl
 have c2 := H3.out.1.get 2 rfl 2 rfl
 have c3 := H3.out.1.get 2 rfl 3 rfl
 have c4 := H3.out.1.get 2 rfl 4 rfl
 have c5 := H3.out.1.get 2 rfl 5 rfl
 refine bodyPost_ret (v := N r) (by simp [results, Tryz.results22, go_sem, *]) rfl ?_
 exact ⟨rfl, H3.out.2⟩
theorem diff_1 (a b r : Nat)
  (c0 : ∀ w, Calls Tryz.prog 45 #[N a, N b] w (Rt w (.tuple #[N r, .bool false]))) (w : World) :
  Calls Tryz.prog 24 #[N a, N b] w (Rt w (N r)) := by
 have H0 : Hid (_ ∧ _) := ⟨Mm.nil w, Below.refl w.heap.size w⟩
 have C0 : Hid _ := c0
 clear c0
 go_enter Tryz.func24, Tryz.ntmps24
 refine wp_seq ?_
 refine zD 3 [.made (zB a) 24, .made (zB b) 24, .made zero6 24] (sB H0) ?ho1 ?he1
 case ho1 => exact am (zU rfl rfl) (am (zU rfl rfl) (am (zF rfl) trivial))
 intro J w1 l hM hl
 have H1 : Hid (Mm w1 [(J 0, zB a), (J 1, zB b), (J 2, zero6)] ∧ _) := wB H0 hM hl [0, 1, 2]
 have o1_0 := vB H0 hM hl 0
 have o1_1 := vB H0 hM hl 1
 have o1_2 := vB H0 hM hl 2
 clear hM hl l
 generalize J 0 = J1_0 at H1 o1_0 ⊢
 generalize J 1 = J1_1 at H1 o1_1 ⊢
 generalize J 2 = J1_2 at H1 o1_2 ⊢
 clear J
 refine rN (wp_seq ?_)
 refine zD 9 [.q (N a), .q (N b), .call (.tuple #[N r, .bool false]), .q (.tuple #[N r, .bool false]), .q (N r), .q (.bool false), .made zero6 24, .laid 6 zero6 (zB r), .q (.bool false)] (sB H1) ?ho2 ?he2 (hL := ?hL2)
 case hL2 => exact ⟨⟨_, rfl⟩, trivial⟩
 case ho2 => exact bN 0 (bN 1 (ac (fun w' h => eC call45 (C0.out w')) (ar (ag (ag (am (zF rfl) (ak (fun J => ⟨rfl, rfl, rfl, fun w' h => zJ h rfl rfl rfl⟩) (ar trivial))))))))
 intro J w2 l hM hl
 have H2 : Hid (Mm w2 ([(J 6, zB r)] ++ _) ∧ _) := wB H1 hM hl [6]
 have o2_6 := vB H1 hM hl 6
 clear hM hl l H1
 generalize J 6 = J2_6 at H2 o2_6 ⊢
 clear J
 refine rN (wp_seq (wp_seq ?_))
 refine zC 1 [.q (.bool false)] H2 ?ho3 ?he3
 case ho3 => exact ar trivial
 intro _ w3 H3
 clear H2
 refine rN (wp_cond_false rfl ?_)
 refine wp_skip (zA (wp_seq ?_))
 refine zC 1 [.q (N r)] H3 ?ho4 ?he4
 case ho4 => exact bN 0 trivial
 intro _ w4 H4
 clear H3
 refine zG (l := [1]) rfl ?_
 refine sG rfl (fun h => zM h 3 rfl rfl rfl rfl (Nat.le_of_ble_eq_true rfl)) 3 [_, _, _, (_, zB r)] H4 o1_2 fun w5 H5 => ?_
 clear H4
 refine zE (zA (wp_ret ?_))
 repeat (first | refine zK ?_ | refine zI ?_)
 have c0 := H5.out.1.get 3 rfl 0 rfl
 have c1 := H5.out.1.get 3 rfl 1 rfl
 have c2 := H5.out.1.get 3 rfl 2 rfl
 have c3 := H5.out.1.get 3 rfl 3 rfl
 have c4 := H5.out.1.get 3 rfl 4 rfl
 have c5 := H5.out.1.get 3 rfl 5 rfl
 refine bodyPost_ret (v := N r) (by simp [results, Tryz.results24, go_sem, *]) rfl ?_
 exact ⟨rfl, H5.out.2⟩
theorem diff_2 (a b r x p : Nat) (cx : Bool)
  (c0 : ∀ w, Calls Tryz.prog 45 #[N a, N b] w (Rt w (.tuple #[N x, .bool true])))
  (c1 : ∀ w, Calls Tryz.prog 47 #[] w (Rt w (N p)))
  (c2 : ∀ w, Calls Tryz.prog 46 #[N x, N p] w (Rt w (.tuple #[N r, .bool cx]))) (w : World) :
  Calls Tryz.prog 24 #[N a, N b] w (Rt w (N r)) := by
 have H0 : Hid (_ ∧ _) := ⟨Mm.nil w, Below.refl w.heap.size w⟩
 have C0 : Hid _ := c0
 have C1 : Hid _ := c1
 have C2 : Hid _ := c2
 clear c0 c1 c2
 go_enter Tryz.func24, Tryz.ntmps24
 refine wp_seq ?_
 refine zD 3 [.made (zB a) 24, .made (zB b) 24, .made zero6 24] (sB H0) ?ho1 ?he1
 case ho1 => exact am (zU rfl rfl) (am (zU rfl rfl) (am (zF rfl) trivial))
 intro J w1 l hM hl
 have H1 : Hid (Mm w1 [(J 0, zB a), (J 1, zB b), (J 2, zero6)] ∧ _) := wB H0 hM hl [0, 1, 2]
 have o1_0 := vB H0 hM hl 0
 have o1_1 := vB H0 hM hl 1
 have o1_2 := vB H0 hM hl 2
 clear hM hl l
 generalize J 0 = J1_0 at H1 o1_0 ⊢
 generalize J 1 = J1_1 at H1 o1_1 ⊢
 generalize J 2 = J1_2 at H1 o1_2 ⊢
 clear J
 refine rN (wp_seq ?_)
 refine zD 9 [.q (N a), .q (N b), .call (.tuple #[N x, .bool true]), .q (.tuple #[N x, .bool true]), .q (N x), .q (.bool true), .made zero6 24, .laid 6 zero6 (zB x), .q (.bool true)] (sB H1) ?ho2 ?he2 (hL := ?hL2)
 case hL2 => exact ⟨⟨_, rfl⟩, trivial⟩
 case ho2 => exact bN 0 (bN 1 (ac (fun w' h => eC call45 (C0.out w')) (ar (ag (ag (am (zF rfl) (ak (fun J => ⟨rfl, rfl, rfl, fun w' h => zJ h rfl rfl rfl⟩) (ar trivial))))))))
 intro J w2 l hM hl
 have H2 : Hid (Mm w2 ([(J 6, zB x)] ++ _) ∧ _) := wB H1 hM hl [6]
 have o2_6 := vB H1 hM hl 6
 clear hM hl l H1
 generalize J 6 = J2_6 at H2 o2_6 ⊢
 clear J
 refine rN (wp_seq (wp_seq ?_))
 refine zC 1 [.q (.bool true)] H2 ?ho3 ?he3
 case ho3 => exact ar trivial
 intro _ w3 H3
 clear H2
 refine rN (wp_cond_true rfl ?_)
 refine walk_put (by kernel_rfl) 6 [5] [.q (N x), .call (N p), .call (.tuple #[N r, .bool cx]), .q (.tuple #[N r, .bool cx]), .q (N r), .q (.bool cx)] _ ?pre4 ?F4 _ ?hpre4 (fun J => ?hF4) (by kernel_rfl) rfl trivial (sB H3) ?ho4 ?hla4 ?he4
 case hpre4 => simp only [tk, tz]; rfl
 case hF4 => simp only [yB, Kind.val, Act.put, sa, sz, ss]; rfl
 case ho4 =>
  refine bN 0 ?_
  refine ak (fun J => ⟨rfl, fun w' h => eC call47 (C1.out w')⟩) ?_
  refine ak (fun J => ⟨rfl, fun w' h => eC call46 (C2.out w')⟩) ?_
  refine ar ?_
  refine ag ?_
  refine ag ?_
  exact trivial
 case hla4 => exact ⟨⟨_, _, rfl, rfl, fun J => ⟨rfl, fun w' => by first | rfl | go_simp⟩⟩, trivial⟩
 intro J w4 l hM hl
 have H4 := keepB H3 hM.below
 clear hM hl l H3 J
 refine ⟨_, zM H4.out.1 0 rfl rfl rfl rfl (Nat.le_of_ble_eq_true rfl), ?_⟩
 have H5 : Hid (Mm (w4.setCells J2_6 0 (zB r)) [(J2_6, zB r), (J1_0, zB a), (J1_1, zB b), (J1_2, zero6)] ∧ Below w.heap.size w (w4.setCells J2_6 0 (zB r))) := ⟨H4.out.1.put 0 (off := 0) (vs := zB r) rfl (Nat.le_of_ble_eq_true rfl), zP _ o2_6.out _ _ _ H4.out.2⟩
 clear H4
 generalize hgw : World.setCells _ _ _ _ = w5 at H5 ⊢
 clear hgw
 refine rN (wp_seq ?_)
 refine zC 1 [.q (N r)] H5 ?ho5 ?he5
 case ho5 => exact bN 0 trivial
 intro _ w6 H6
 clear H5
 refine zG (l := [1]) rfl ?_
 refine sG rfl (fun h => zM h 3 rfl rfl rfl rfl (Nat.le_of_ble_eq_true rfl)) 3 [_, _, _, (_, zB r)] H6 o1_2 fun w7 H7 => ?_
 clear H6
 refine zE (zA (wp_ret ?_))
 repeat (first | refine zK ?_ | refine zI ?_)
 have c0 := H7.out.1.get 3 rfl 0 rfl
 have c1 := H7.out.1.get 3 rfl 1 rfl
 have c2 := H7.out.1.get 3 rfl 2 rfl
 have c3 := H7.out.1.get 3 rfl 3 rfl
 have c4 := H7.out.1.get 3 rfl 4 rfl
 have c5 := H7.out.1.get 3 rfl 5 rfl
 refine bodyPost_ret (v := N r) (by simp [results, Tryz.results24, go_sem, *]) rfl ?_
 exact ⟨rfl, H7.out.2⟩
theorem times_gen (a b u0 u1 : Nat)
  (c0 : ∀ w, Calls Tryz.prog 90 #[N a, N b] w (Rt w (.tuple #[N u0, N u1]))) (w : World) :
  Calls Tryz.prog 70 #[N a, N b] w (Rt w (V [u0, u1])) := by
 have H0 : Hid (_ ∧ _) := ⟨Mm.nil w, Below.refl w.heap.size w⟩
 have C0 : Hid _ := c0
 clear c0
 go_enter Tryz.func70, Tryz.ntmps70
 refine wp_seq ?_
 refine zD 3 [.made (zB a) 24, .made (zB b) 24, .made (cel [0, 0]) 53] (sB H0) ?ho1 ?he1
 case ho1 => exact am (zU rfl rfl) (am (zU rfl rfl) (am (ex_madeWD rfl) trivial))
 intro J w1 l hM hl
 have H1 : Hid (Mm w1 [(J 0, zB a), (J 1, zB b), (J 2, cel [0, 0])] ∧ _) := wB H0 hM hl [0, 1, 2]
 have o1_0 := vB H0 hM hl 0
 have o1_1 := vB H0 hM hl 1
 have o1_2 := vB H0 hM hl 2
 clear hM hl l
 generalize J 0 = J1_0 at H1 o1_0 ⊢
 generalize J 1 = J1_1 at H1 o1_1 ⊢
 generalize J 2 = J1_2 at H1 o1_2 ⊢
 clear J
 refine rN (wp_seq ?_)
 refine zD 10 [.q (N a), .q (N b), .call (.tuple #[N u0, N u1]), .q (.tuple #[N u0, N u1]), .q (N u0), .q (N u1), .made zero6 24, .made zero6 24, .laid 6 zero6 (zB u0), .laid 7 zero6 (zB u1)] (sB H1) ?ho2 ?he2 (hL := ?hL2)
 case hL2 => exact ⟨⟨_, rfl⟩, ⟨_, rfl⟩, trivial⟩
 case ho2 => exact bN 0 (bN 1 (ac (fun w' h => eC call90 (C0.out w')) (ar (ag (ag (am (zF rfl) (am (zF rfl) (ak (fun J => ⟨rfl, rfl, rfl, fun w' h => zJ h rfl rfl rfl⟩) (ak (fun J => ⟨rfl, rfl, rfl, fun w' h => zJ h rfl rfl rfl⟩) trivial)))))))))
 intro J w2 l hM hl
 have H2 : Hid (Mm w2 ([(J 6, zB u0), (J 7, zB u1)] ++ _) ∧ _) := wB H1 hM hl [6, 7]
 have o2_6 := vB H1 hM hl 6
 have o2_7 := vB H1 hM hl 7
 clear hM hl l H1
 generalize J 6 = J2_6 at H2 o2_6 ⊢
 generalize J 7 = J2_7 at H2 o2_7 ⊢
 clear J
 refine rN (wp_seq ?_)
 refine zC 3 [.q (N u0), .q (N u1), .q (V [u0, u1])] H2 ?ho3 ?he3
 case ho3 => exact bN 0 (bN 1 (ak (fun J => ⟨rfl, fun w' _ => ex_buildWD rfl rfl rfl⟩) trivial))
 intro _ w3 H3
 clear H2
 refine zG (l := [3]) rfl ?_
 refine sF 4 [u0, u1] [_, _, _, _, _] H3 o1_2 As53 fun w4 H4 => ?_
 clear H3
 refine zE (zA (wp_ret ?_))
 repeat (first | refine zK ?_ | refine zI ?_)
 have hf0 := cel_var (k := 2) H4.out.1 4 rfl Ai53 As53 rfl
 refine bodyPost_ret (v := V [u0, u1]) (by simp [results, Tryz.results70, asAddr, hf0]) rfl ?_
 exact ⟨rfl, H4.out.2⟩
/-! Wide numbers, word by word: twelve words in two halves. -/
abbrev row12 (f : Nat → Int) : List Value := [.int .u64 (f 0), .int .u64 (f 1), .int .u64 (f 2), .int .u64 (f 3), .int .u64 (f 4), .int .u64 (f 5), .int .u64 (f 6), .int .u64 (f 7), .int .u64 (f 8), .int .u64 (f 9), .int .u64 (f 10), .int .u64 (f 11)]
theorem row12_at {f : Nat → Int} {j : Nat} (hj : j < 12) : (row12 f)[j]? = some (.int .u64 (f j)) := by
 match j, hj with
 | 0, _ => rfl
 | 1, _ => rfl
 | 2, _ => rfl
 | 3, _ => rfl
 | 4, _ => rfl
 | 5, _ => rfl
 | 6, _ => rfl
 | 7, _ => rfl
 | 8, _ => rfl
 | 9, _ => rfl
 | 10, _ => rfl
 | 11, _ => rfl
theorem row12_put {f : Nat → Int} {j : Nat} {x : Int} (hj : j < 12) : patch (row12 f) j [.int .u64 x] = row12 (upd f j x) := by
 match j, hj with
 | 0, _ => rfl
 | 1, _ => rfl
 | 2, _ => rfl
 | 3, _ => rfl
 | 4, _ => rfl
 | 5, _ => rfl
 | 6, _ => rfl
 | 7, _ => rfl
 | 8, _ => rfl
 | 9, _ => rfl
 | 10, _ => rfl
 | 11, _ => rfl
theorem row12_put0 {f : Nat → Int} {j : Nat} {x : Int} (hj : j < 12) : patch (row12 f) (0 + j) [.int .u64 x] = row12 (upd f j x) := by rw [Nat.zero_add]; exact row12_put hj
theorem row12_bd {f : Nat → Int} {j : Nat} (hj : j < 12) : j < (row12 f).length := hj
theorem row12_congr {f g : Nat → Int} (h : ∀ j, j < 12 → f j = g j) : row12 f = row12 g := by
 unfold row12
 rw [h 0 (by decide), h 1 (by decide), h 2 (by decide), h 3 (by decide), h 4 (by decide), h 5 (by decide), h 6 (by decide), h 7 (by decide), h 8 (by decide), h 9 (by decide), h 10 (by decide), h 11 (by decide)]
/-- The words of a wide number. -/
def ww (l h j : Nat) : Int := if j < 6 then wd l j else wd h (j - 6)
theorem cel_row12 (l h : Nat) : cel [l, h] = row12 (ww l h) := by simp [cel, ww]
/-- What stands there behind k words: f's, then a's. -/
def mix (f : Nat → Int) (l h k j : Nat) : Int := if j < k then f j else ww l h j
theorem mix_start (f : Nat → Int) (l h : Nat) : cel [l, h] = row12 (mix f l h 0) := by
 rw [cel_row12]
 exact row12_congr fun j _ => by unfold mix; rw [if_neg (by omega)]
theorem mix_at {f : Nat → Int} {l h k : Nat} (hk : k < 12) : (row12 (mix f l h k))[k]? = some (.int .u64 (ww l h k)) := by
 rw [row12_at hk]; unfold mix; rw [if_neg (by omega)]
theorem mix_step {f : Nat → Int} {l h k : Nat} {x : Int} (hx : x = f k) : row12 (upd (mix f l h k) k x) = row12 (mix f l h (k + 1)) := row12_congr fun j _ => by
 unfold upd mix
 by_cases h1 : j = k
 ·subst h1; rw [if_pos rfl, if_pos (by omega), hx]
 ·rw [if_neg h1]
  by_cases h2 : j < k
  ·rw [if_pos h2, if_pos (by omega)]
  ·rw [if_neg h2, if_neg (by omega)]
theorem mix_end {f : Nat → Int} {l h x y : Nat} (hf : ∀ j, j < 12 → f j = ww x y j) : row12 (mix f l h (6 + 6)) = cel [x, y] := by
 rw [cel_row12]
 exact row12_congr fun j hj => by unfold mix; rw [if_pos (show j < 6 + 6 from hj), hf j hj]
theorem off_lo (k : Nat) : 0 + k = k := Nat.zero_add k
theorem Mm.atk {w : World} {l l' : List (Nat × List Value)} (h : Mm w l) (e : l = l') : Mm w l' := e ▸ h
set_option maxHeartbeats 2000000 in
theorem plus_gen (al ah bl bh x y : Nat) (f cr : Nat → Int) (c0 : 0 = cr 0) (hf : ∀ j, j < 12 → f j = ww x y j)
  (ce : ∀ j w, (callFunc 64 #[.int .u64 (ww al ah j), .int .u64 (ww bl bh j), .int .u64 (cr j)]).run Tryz.prog w = .ok (.value (.tuple #[.int .u64 (f j), .int .u64 (cr (j + 1))])) w) (w : World) :
  Calls Tryz.prog 79 #[V [al, ah], V [bl, bh]] w (Rt w (V [x, y])) := by
 have H0 : Hid (_ ∧ _) := ⟨Mm.nil w, Below.refl w.heap.size w⟩
 have C0 : Hid _ := c0
 have CE : Hid _ := ce
 have HF : Hid _ := hf
 clear c0 ce hf
 go_enter Tryz.func79, Tryz.ntmps79
 refine wp_seq ?_
 refine zD 3 [.made (cel [al, ah]) 53, .made (cel [bl, bh]) 53, .made (cel [0, 0]) 53] (sB H0) ?ho1 ?he1
 case ho1 => exact am (zV rfl rfl) (am (zV rfl rfl) (am (ex_madeWD rfl) trivial))
 intro J w1 l hM hl
 have H1 : Hid (Mm w1 [(J 0, cel [al, ah]), (J 1, cel [bl, bh]), (J 2, cel [0, 0])] ∧ _) := wB H0 hM hl [0, 1, 2]
 have o1_0 := vB H0 hM hl 0
 have o1_1 := vB H0 hM hl 1
 have o1_2 := vB H0 hM hl 2
 clear hM hl l
 generalize J 0 = J1_0 at H1 o1_0 ⊢
 generalize J 1 = J1_1 at H1 o1_1 ⊢
 generalize J 2 = J1_2 at H1 o1_2 ⊢
 clear J
 refine rN (wp_seq ?_)
 refine zC 1 [.q (.int .u64 0)] H1 ?ho2 ?he2
 case ho2 => exact ar trivial
 intro _ w2 H2
 clear H1
 refine rN (wp_seq (wp_seq ?_))
 refine zC 1 [.q (.int .i64 0)] H2 ?ho3 ?he3
 case ho3 => exact ar trivial
 intro _ w3 H3
 clear H2
 refine rN (wp_block ?_)
 refine loop_ghost (α := Nat) (fun k a' w' => ∃ s0 : Nat → Value, a' = ⟨#[V [al, ah], V [bl, bh], PT J1_0 0, PT J1_1 0, PT J1_2 0, .int .u64 (cr k), s0 6, ud, .int .i64 ((k : Nat) : Int), s0 9, s0 10, s0 11, s0 12, s0 13, s0 14, s0 15, s0 16, s0 17, s0 18, s0 19, s0 20, s0 21, s0 22, s0 23, s0 24, s0 25, s0 26, s0 27, ud, ud, ud, ud, ud, ud, ud, ud, ud, ud, ud, ud, ud, ud, ud, ud, ud, ud, ud, ud, ud], []⟩ ∧ (Mm w' [(J1_0, row12 (mix f al ah k)), (J1_1, cel [bl, bh]), (J1_2, cel [0, 0])] ∧ Below w.heap.size w w') ∧ k ≤ 6) (fun k => 6 - k) 0 ?st0 ?rd0
 case st0 => exact ⟨(yA [ud, ud, ud, ud, ud, ud, ud, ud, ud, ud, ud, ud, ud, ud, ud, ud, ud, ud, ud, ud, ud, ud, ud, ud, ud, ud, ud, ud]), by rw [← C0.out]; rfl, ⟨H3.out.1.atk (by rw [mix_start f al ah]), H3.out.2⟩, by omega⟩
 intro k a' w4 hI
 obtain ⟨s0, rfl, hMB, hk0⟩ := hI
 have H4 : Hid (_ ∧ _) := hMB
 clear hMB H3
 by_cases hlt : k < 6
 ·have hrd : True := trivial
  clear hrd
  have hk12 : k < 12 := by omega
  refine wp_seq ?_
  refine zC 1 [.q (.bool true)] H4 ?ho4 ?he4
  case ho4 => exact ak (by refine fun J => ⟨rfl, fun w' h => ?_⟩; clear h; go_simp <;> omega) trivial
  intro _ w5 H5
  clear H4
  refine rN (wp_seq ?_)
  refine wp_cond_true rfl (wp_skip ?_)
  refine zA (wp_seq ?_)
  refine wp_block (wp_seq ?_)
  refine zC 2 [.q (.int .i64 ((k : Nat) : Int)), .q (.int .i64 ((k : Nat) : Int))] H5 ?ho5 ?he5
  case ho5 => exact ar (ar trivial)
  intro _ w6 H6
  clear H5
  refine rN ?_
  refine walk_put (by kernel_rfl) 16 [13] [.q (.int .i64 ((k : Nat) : Int)), .q (.int .i64 ((k : Nat) : Int)), .q (PT J1_0 0), .q (PT J1_0 (0 + k)), .q (.int .u64 (ww al ah k)), .q (.int .i64 ((k : Nat) : Int)), .q (PT J1_1 0), .q (PT J1_1 (0 + k)), .q (.int .u64 (ww bl bh k)), .q (.int .u64 (cr k)), .q (.tuple #[.int .u64 (f k), .int .u64 (cr (k + 1))]), .q (.tuple #[.int .u64 (f k), .int .u64 (cr (k + 1))]), .q (.int .u64 (f k)), .q (.int .u64 (cr (k + 1))), .q (PT J1_0 0), .q (PT J1_0 (0 + k))] _ ?pre6 ?F6 _ ?hpre6 (fun J => ?hF6) (by kernel_rfl) rfl trivial (sB H6) ?ho6 ?hla6 ?he6
  case hpre6 => simp only [tk, tz]; rfl
  case hF6 => simp only [yB, Kind.val, Act.put, sa, sz, ss]; rfl
  case ho6 =>
   refine ar ?_
   refine ar ?_
   refine ag ?_
   refine ak (fun J => ⟨rfl, fun w' _ => zX rfl rfl rfl hlt⟩) ?_
   refine aq (fun w' h => ex_load1 h 0 rfl rfl rfl (by rw [off_lo]; exact mix_at hk12)) ?_
   refine ar ?_
   refine ag ?_
   refine ak (fun J => ⟨rfl, fun w' _ => zX rfl rfl rfl hlt⟩) ?_
   refine aq (fun w' h => ex_load1 h 1 rfl rfl rfl (by rw [off_lo, cel_row12]; exact row12_at hk12)) ?_
   refine ar ?_
   refine aq (fun w' h => ex_extern rfl (CE.out k w') rfl (mpn rfl)) ?_
   refine ar ?_
   refine ag ?_
   refine ag ?_
   refine ag ?_
   refine ak (fun J => ⟨rfl, fun w' _ => zX rfl rfl rfl hlt⟩) ?_
   exact trivial
  case hla6 => exact ⟨⟨_, _, rfl, rfl, fun J => ⟨rfl, fun w' => by first | rfl | go_simp⟩⟩, trivial⟩
  intro J w7 l hM hl
  have H7 := keepB H6 hM.below
  clear hM hl l H6 J
  refine ⟨_, ex_storeI H7.out.1 0 rfl rfl As22 rfl rfl (by rw [off_lo]; exact row12_bd hk12), ?_⟩
  have H8 : Hid (Mm (w7.setCells J1_0 (0 + k) [.int .u64 (f k)]) [(J1_0, row12 (mix f al ah (k + 1))), (J1_1, cel [bl, bh]), (J1_2, cel [0, 0])] ∧ Below w.heap.size w (w7.setCells J1_0 (0 + k) [.int .u64 (f k)])) := ⟨by
   have h := H7.out.1.put 0 (off := (0 + k)) (vs := [.int .u64 (f k)]) rfl (by rw [off_lo]; exact row12_bd hk12)
   rw [row12_put0 hk12, mix_step rfl] at h
   exact h, zP _ o1_0.out _ _ _ H7.out.2⟩
  clear H7
  generalize hgw : World.setCells _ _ _ _ = w8 at H8 ⊢
  clear hgw
  refine zG (l := [17]) rfl ?_
  refine zN (d := 5) rfl rfl rfl rfl ?_
  simp only [Act.put, sa, sz, ss]
  refine zE (zT (zA ?_))
  refine zC 1 [.q (.int .i64 ((k + 1 : Nat) : Int))] H8 ?ho7 ?he7
  case ho7 => exact ak (by refine fun J => ⟨rfl, fun w' h => ?_⟩; clear h; go_simp; rw [IntKind.wrap_i64]; omega) trivial
  intro _ w9 H9
  clear H8
  refine zG (l := [1]) rfl ?_
  refine zN (d := 8) rfl rfl rfl rfl ?_
  simp only [Act.put, sa, sz, ss]
  refine zE (zA ?_)
  exact ⟨k + 1, ⟨(yA [ud, ud, ud, ud, ud, ud, .int .i64 ((k : Nat) : Int), ud, ud, .bool true, .int .i64 ((k : Nat) : Int), .tuple #[.int .u64 (f k), .int .u64 (cr (k + 1))], .int .i64 ((k : Nat) : Int), .int .i64 ((k : Nat) : Int), PT J1_0 0, PT J1_0 (0 + k), .int .u64 (ww al ah k), .int .i64 ((k : Nat) : Int), PT J1_1 0, PT J1_1 (0 + k), .int .u64 (ww bl bh k), .int .u64 (cr k), .tuple #[.int .u64 (f k), .int .u64 (cr (k + 1))], .int .u64 (f k), .int .u64 (cr (k + 1)), PT J1_0 0, PT J1_0 (0 + k), .int .i64 ((k + 1 : Nat) : Int)]), rfl, ⟨H9.out.1, H9.out.2⟩, by omega⟩, by omega⟩
 have hk6 : k = 6 := by omega
 subst hk6
 refine wp_seq ?_
 refine zC 1 [.q (.bool false)] H4 ?ho8 ?he8
 case ho8 => exact ak (by refine fun J => ⟨rfl, fun w' h => ?_⟩; clear h; go_simp <;> omega) trivial
 intro _ w10 H10
 clear H4
 refine rN (wp_seq (wp_cond_false rfl ?_))
 refine wp_exit ?_
 repeat refine then_exit ?_
 refine block_exit ?_
 refine zA (wp_seq (wp_seq ?_))
 refine zC 1 [.q (.int .i64 0)] H10 ?ho9 ?he9
 case ho9 => exact ar trivial
 intro _ w11 H11
 clear H10
 refine rN (wp_block ?_)
 refine loop_ghost (α := Nat) (fun k a' w' => ∃ s2 : Nat → Value, a' = ⟨#[V [al, ah], V [bl, bh], PT J1_0 0, PT J1_1 0, PT J1_2 0, .int .u64 (cr (6 + k)), s0 6, s2 7, .int .i64 ((6 : Nat) : Int), .bool false, s0 10, s0 11, s0 12, s0 13, s0 14, s0 15, s0 16, s0 17, s0 18, s0 19, s0 20, s0 21, s0 22, s0 23, s0 24, s0 25, s0 26, s0 27, .int .i64 ((k : Nat) : Int), s2 29, s2 30, s2 31, s2 32, s2 33, s2 34, s2 35, s2 36, s2 37, s2 38, s2 39, s2 40, s2 41, s2 42, s2 43, s2 44, s2 45, s2 46, s2 47, undef], []⟩ ∧ (Mm w' [(J1_0, row12 (mix f al ah (6 + k))), (J1_1, cel [bl, bh]), (J1_2, cel [0, 0])] ∧ Below w.heap.size w w') ∧ k ≤ 6) (fun k => 6 - k) 0 ?st2 ?rd2
 case st2 => exact ⟨(yA [ud, ud, ud, ud, ud, ud, ud, ud, ud, ud, ud, ud, ud, ud, ud, ud, ud, ud, ud, ud, ud, ud, ud, ud, ud, ud, ud, ud, ud, ud, ud, ud, ud, ud, ud, ud, ud, ud, ud, ud, ud, ud, ud, ud, ud, ud, ud, ud]), rfl, ⟨H11.out.1, H11.out.2⟩, by omega⟩
 intro k a' w12 hI
 obtain ⟨s2, rfl, hMB, hk2⟩ := hI
 have H12 : Hid (_ ∧ _) := hMB
 clear hMB H11
 by_cases hlt : k < 6
 ·have hrd : True := trivial
  clear hrd
  have hk12 : (6 + k) < 12 := by omega
  refine wp_seq ?_
  refine zC 1 [.q (.bool true)] H12 ?ho10 ?he10
  case ho10 => exact ak (by refine fun J => ⟨rfl, fun w' h => ?_⟩; clear h; go_simp <;> omega) trivial
  intro _ w13 H13
  clear H12
  refine rN (wp_seq ?_)
  refine wp_cond_true rfl (wp_skip ?_)
  refine zA (wp_seq ?_)
  refine wp_block (wp_seq ?_)
  refine zC 2 [.q (.int .i64 ((k : Nat) : Int)), .q (.int .i64 ((k : Nat) : Int))] H13 ?ho11 ?he11
  case ho11 => exact ar (ar trivial)
  intro _ w14 H14
  clear H13
  refine rN ?_
  refine walk_put (by kernel_rfl) 16 [13] [.q (.int .i64 ((k : Nat) : Int)), .q (.int .i64 ((k : Nat) : Int)), .q (PT J1_0 6), .q (PT J1_0 (6 + k)), .q (.int .u64 (ww al ah (6 + k))), .q (.int .i64 ((k : Nat) : Int)), .q (PT J1_1 6), .q (PT J1_1 (6 + k)), .q (.int .u64 (ww bl bh (6 + k))), .q (.int .u64 (cr (6 + k))), .q (.tuple #[.int .u64 (f (6 + k)), .int .u64 (cr (6 + (k + 1)))]), .q (.tuple #[.int .u64 (f (6 + k)), .int .u64 (cr (6 + (k + 1)))]), .q (.int .u64 (f (6 + k))), .q (.int .u64 (cr (6 + (k + 1)))), .q (PT J1_0 6), .q (PT J1_0 (6 + k))] _ ?pre12 ?F12 _ ?hpre12 (fun J => ?hF12) (by kernel_rfl) rfl trivial (sB H14) ?ho12 ?hla12 ?he12
  case hpre12 => simp only [tk, tz]; rfl
  case hF12 => simp only [yB, Kind.val, Act.put, sa, sz, ss]; rfl
  case ho12 =>
   refine ar ?_
   refine ar ?_
   refine ag ?_
   refine ak (fun J => ⟨rfl, fun w' _ => zX rfl rfl rfl hlt⟩) ?_
   refine aq (fun w' h => ex_load1 h 0 rfl rfl rfl (mix_at hk12)) ?_
   refine ar ?_
   refine ag ?_
   refine ak (fun J => ⟨rfl, fun w' _ => zX rfl rfl rfl hlt⟩) ?_
   refine aq (fun w' h => ex_load1 h 1 rfl rfl rfl (by rw [cel_row12]; exact row12_at hk12)) ?_
   refine ar ?_
   refine aq (fun w' h => ex_extern rfl (CE.out (6 + k) w') rfl (mpn rfl)) ?_
   refine ar ?_
   refine ag ?_
   refine ag ?_
   refine ag ?_
   refine ak (fun J => ⟨rfl, fun w' _ => zX rfl rfl rfl hlt⟩) ?_
   exact trivial
  case hla12 => exact ⟨⟨_, _, rfl, rfl, fun J => ⟨rfl, fun w' => by first | rfl | go_simp⟩⟩, trivial⟩
  intro J w15 l hM hl
  have H15 := keepB H14 hM.below
  clear hM hl l H14 J
  refine ⟨_, ex_storeI H15.out.1 0 rfl rfl As22 rfl rfl (row12_bd hk12), ?_⟩
  have H16 : Hid (Mm (w15.setCells J1_0 (6 + k) [.int .u64 (f (6 + k))]) [(J1_0, row12 (mix f al ah (6 + (k + 1)))), (J1_1, cel [bl, bh]), (J1_2, cel [0, 0])] ∧ Below w.heap.size w (w15.setCells J1_0 (6 + k) [.int .u64 (f (6 + k))])) := ⟨by
   have h := H15.out.1.put 0 (off := (6 + k)) (vs := [.int .u64 (f (6 + k))]) rfl (row12_bd hk12)
   rw [row12_put hk12, mix_step rfl] at h
   exact h, zP _ o1_0.out _ _ _ H15.out.2⟩
  clear H15
  generalize hgw : World.setCells _ _ _ _ = w16 at H16 ⊢
  clear hgw
  refine zG (l := [17]) rfl ?_
  refine zN (d := 5) rfl rfl rfl rfl ?_
  simp only [Act.put, sa, sz, ss]
  refine zE (zT (zA ?_))
  refine zC 1 [.q (.int .i64 ((k + 1 : Nat) : Int))] H16 ?ho13 ?he13
  case ho13 => exact ak (by refine fun J => ⟨rfl, fun w' h => ?_⟩; clear h; go_simp; rw [IntKind.wrap_i64]; omega) trivial
  intro _ w17 H17
  clear H16
  refine zG (l := [1]) rfl ?_
  refine zN (d := 28) rfl rfl rfl rfl ?_
  simp only [Act.put, sa, sz, ss]
  refine zE (zA ?_)
  exact ⟨k + 1, ⟨(yA [ud, ud, ud, ud, ud, ud, ud, .int .i64 ((k : Nat) : Int), ud, ud, ud, ud, ud, ud, ud, ud, ud, ud, ud, ud, ud, ud, ud, ud, ud, ud, ud, ud, ud, .bool true, .int .i64 ((k : Nat) : Int), .tuple #[.int .u64 (f (6 + k)), .int .u64 (cr (6 + (k + 1)))], .int .i64 ((k : Nat) : Int), .int .i64 ((k : Nat) : Int), PT J1_0 6, PT J1_0 (6 + k), .int .u64 (ww al ah (6 + k)), .int .i64 ((k : Nat) : Int), PT J1_1 6, PT J1_1 (6 + k), .int .u64 (ww bl bh (6 + k)), .int .u64 (cr (6 + k)), .tuple #[.int .u64 (f (6 + k)), .int .u64 (cr (6 + (k + 1)))], .int .u64 (f (6 + k)), .int .u64 (cr (6 + (k + 1))), PT J1_0 6, PT J1_0 (6 + k), .int .i64 ((k + 1 : Nat) : Int)]), rfl, ⟨H17.out.1, H17.out.2⟩, by omega⟩, by omega⟩
 have hk6 : k = 6 := by omega
 subst hk6
 have H18 : Hid (Mm w12 [(J1_0, cel [x, y]), (J1_1, cel [bl, bh]), (J1_2, cel [0, 0])] ∧ Below w.heap.size w w12) := ⟨H12.out.1.atk (by rw [mix_end HF.out]), H12.out.2⟩
 clear H12
 refine wp_seq ?_
 refine zC 1 [.q (.bool false)] H18 ?ho14 ?he14
 case ho14 => exact ak (by refine fun J => ⟨rfl, fun w' h => ?_⟩; clear h; go_simp <;> omega) trivial
 intro _ w19 H19
 clear H18
 refine rN (wp_seq (wp_cond_false rfl ?_))
 refine wp_exit ?_
 repeat refine then_exit ?_
 refine block_exit ?_
 refine zA (wp_seq ?_)
 refine zC 1 [.q (V [x, y])] H19 ?ho15 ?he15
 case ho15 => exact bA 0 2 0 Ai53 As53 trivial
 intro _ w20 H20
 clear H19
 refine zG (l := [1]) rfl ?_
 refine sF 2 [x, y] [_, _, _] H20 o1_2 As53 fun w21 H21 => ?_
 clear H20
 refine zE (zA (wp_ret ?_))
 repeat (first | refine zK ?_ | refine zI ?_)
 have hf0 := cel_var (k := 2) H21.out.1 2 rfl Ai53 As53 rfl
 refine bodyPost_ret (v := V [x, y]) (by simp [results, Tryz.results79, asAddr, hf0]) rfl ?_
 exact ⟨rfl, H21.out.2⟩
set_option maxHeartbeats 2000000 in
theorem less_gen (al ah bl bh x y : Nat) (f cr : Nat → Int) (c0 : 0 = cr 0) (hf : ∀ j, j < 12 → f j = ww x y j)
  (ce : ∀ j w, (callFunc 63 #[.int .u64 (ww al ah j), .int .u64 (ww bl bh j), .int .u64 (cr j)]).run Tryz.prog w = .ok (.value (.tuple #[.int .u64 (f j), .int .u64 (cr (j + 1))])) w) (w : World) :
  Calls Tryz.prog 71 #[V [al, ah], V [bl, bh]] w (Rt w (V [x, y])) := by
 have H0 : Hid (_ ∧ _) := ⟨Mm.nil w, Below.refl w.heap.size w⟩
 have C0 : Hid _ := c0
 have CE : Hid _ := ce
 have HF : Hid _ := hf
 clear c0 ce hf
 go_enter Tryz.func71, Tryz.ntmps71
 refine wp_seq ?_
 refine zD 3 [.made (cel [al, ah]) 53, .made (cel [bl, bh]) 53, .made (cel [0, 0]) 53] (sB H0) ?ho1 ?he1
 case ho1 => exact am (zV rfl rfl) (am (zV rfl rfl) (am (ex_madeWD rfl) trivial))
 intro J w1 l hM hl
 have H1 : Hid (Mm w1 [(J 0, cel [al, ah]), (J 1, cel [bl, bh]), (J 2, cel [0, 0])] ∧ _) := wB H0 hM hl [0, 1, 2]
 have o1_0 := vB H0 hM hl 0
 have o1_1 := vB H0 hM hl 1
 have o1_2 := vB H0 hM hl 2
 clear hM hl l
 generalize J 0 = J1_0 at H1 o1_0 ⊢
 generalize J 1 = J1_1 at H1 o1_1 ⊢
 generalize J 2 = J1_2 at H1 o1_2 ⊢
 clear J
 refine rN (wp_seq ?_)
 refine zC 1 [.q (.int .u64 0)] H1 ?ho2 ?he2
 case ho2 => exact ar trivial
 intro _ w2 H2
 clear H1
 refine rN (wp_seq (wp_seq ?_))
 refine zC 1 [.q (.int .i64 0)] H2 ?ho3 ?he3
 case ho3 => exact ar trivial
 intro _ w3 H3
 clear H2
 refine rN (wp_block ?_)
 refine loop_ghost (α := Nat) (fun k a' w' => ∃ s0 : Nat → Value, a' = ⟨#[V [al, ah], V [bl, bh], PT J1_0 0, PT J1_1 0, PT J1_2 0, .int .u64 (cr k), s0 6, ud, .int .i64 ((k : Nat) : Int), s0 9, s0 10, s0 11, s0 12, s0 13, s0 14, s0 15, s0 16, s0 17, s0 18, s0 19, s0 20, s0 21, s0 22, s0 23, s0 24, s0 25, s0 26, s0 27, ud, ud, ud, ud, ud, ud, ud, ud, ud, ud, ud, ud, ud, ud, ud, ud, ud, ud, ud, ud, ud], []⟩ ∧ (Mm w' [(J1_0, row12 (mix f al ah k)), (J1_1, cel [bl, bh]), (J1_2, cel [0, 0])] ∧ Below w.heap.size w w') ∧ k ≤ 6) (fun k => 6 - k) 0 ?st0 ?rd0
 case st0 => exact ⟨(yA [ud, ud, ud, ud, ud, ud, ud, ud, ud, ud, ud, ud, ud, ud, ud, ud, ud, ud, ud, ud, ud, ud, ud, ud, ud, ud, ud, ud]), by rw [← C0.out]; rfl, ⟨H3.out.1.atk (by rw [mix_start f al ah]), H3.out.2⟩, by omega⟩
 intro k a' w4 hI
 obtain ⟨s0, rfl, hMB, hk0⟩ := hI
 have H4 : Hid (_ ∧ _) := hMB
 clear hMB H3
 by_cases hlt : k < 6
 ·have hrd : True := trivial
  clear hrd
  have hk12 : k < 12 := by omega
  refine wp_seq ?_
  refine zC 1 [.q (.bool true)] H4 ?ho4 ?he4
  case ho4 => exact ak (by refine fun J => ⟨rfl, fun w' h => ?_⟩; clear h; go_simp <;> omega) trivial
  intro _ w5 H5
  clear H4
  refine rN (wp_seq ?_)
  refine wp_cond_true rfl (wp_skip ?_)
  refine zA (wp_seq ?_)
  refine wp_block (wp_seq ?_)
  refine zC 2 [.q (.int .i64 ((k : Nat) : Int)), .q (.int .i64 ((k : Nat) : Int))] H5 ?ho5 ?he5
  case ho5 => exact ar (ar trivial)
  intro _ w6 H6
  clear H5
  refine rN ?_
  refine walk_put (by kernel_rfl) 16 [13] [.q (.int .i64 ((k : Nat) : Int)), .q (.int .i64 ((k : Nat) : Int)), .q (PT J1_0 0), .q (PT J1_0 (0 + k)), .q (.int .u64 (ww al ah k)), .q (.int .i64 ((k : Nat) : Int)), .q (PT J1_1 0), .q (PT J1_1 (0 + k)), .q (.int .u64 (ww bl bh k)), .q (.int .u64 (cr k)), .q (.tuple #[.int .u64 (f k), .int .u64 (cr (k + 1))]), .q (.tuple #[.int .u64 (f k), .int .u64 (cr (k + 1))]), .q (.int .u64 (f k)), .q (.int .u64 (cr (k + 1))), .q (PT J1_0 0), .q (PT J1_0 (0 + k))] _ ?pre6 ?F6 _ ?hpre6 (fun J => ?hF6) (by kernel_rfl) rfl trivial (sB H6) ?ho6 ?hla6 ?he6
  case hpre6 => simp only [tk, tz]; rfl
  case hF6 => simp only [yB, Kind.val, Act.put, sa, sz, ss]; rfl
  case ho6 =>
   refine ar ?_
   refine ar ?_
   refine ag ?_
   refine ak (fun J => ⟨rfl, fun w' _ => zX rfl rfl rfl hlt⟩) ?_
   refine aq (fun w' h => ex_load1 h 0 rfl rfl rfl (by rw [off_lo]; exact mix_at hk12)) ?_
   refine ar ?_
   refine ag ?_
   refine ak (fun J => ⟨rfl, fun w' _ => zX rfl rfl rfl hlt⟩) ?_
   refine aq (fun w' h => ex_load1 h 1 rfl rfl rfl (by rw [off_lo, cel_row12]; exact row12_at hk12)) ?_
   refine ar ?_
   refine aq (fun w' h => ex_extern rfl (CE.out k w') rfl (mpn rfl)) ?_
   refine ar ?_
   refine ag ?_
   refine ag ?_
   refine ag ?_
   refine ak (fun J => ⟨rfl, fun w' _ => zX rfl rfl rfl hlt⟩) ?_
   exact trivial
  case hla6 => exact ⟨⟨_, _, rfl, rfl, fun J => ⟨rfl, fun w' => by first | rfl | go_simp⟩⟩, trivial⟩
  intro J w7 l hM hl
  have H7 := keepB H6 hM.below
  clear hM hl l H6 J
  refine ⟨_, ex_storeI H7.out.1 0 rfl rfl As22 rfl rfl (by rw [off_lo]; exact row12_bd hk12), ?_⟩
  have H8 : Hid (Mm (w7.setCells J1_0 (0 + k) [.int .u64 (f k)]) [(J1_0, row12 (mix f al ah (k + 1))), (J1_1, cel [bl, bh]), (J1_2, cel [0, 0])] ∧ Below w.heap.size w (w7.setCells J1_0 (0 + k) [.int .u64 (f k)])) := ⟨by
   have h := H7.out.1.put 0 (off := (0 + k)) (vs := [.int .u64 (f k)]) rfl (by rw [off_lo]; exact row12_bd hk12)
   rw [row12_put0 hk12, mix_step rfl] at h
   exact h, zP _ o1_0.out _ _ _ H7.out.2⟩
  clear H7
  generalize hgw : World.setCells _ _ _ _ = w8 at H8 ⊢
  clear hgw
  refine zG (l := [17]) rfl ?_
  refine zN (d := 5) rfl rfl rfl rfl ?_
  simp only [Act.put, sa, sz, ss]
  refine zE (zT (zA ?_))
  refine zC 1 [.q (.int .i64 ((k + 1 : Nat) : Int))] H8 ?ho7 ?he7
  case ho7 => exact ak (by refine fun J => ⟨rfl, fun w' h => ?_⟩; clear h; go_simp; rw [IntKind.wrap_i64]; omega) trivial
  intro _ w9 H9
  clear H8
  refine zG (l := [1]) rfl ?_
  refine zN (d := 8) rfl rfl rfl rfl ?_
  simp only [Act.put, sa, sz, ss]
  refine zE (zA ?_)
  exact ⟨k + 1, ⟨(yA [ud, ud, ud, ud, ud, ud, .int .i64 ((k : Nat) : Int), ud, ud, .bool true, .int .i64 ((k : Nat) : Int), .tuple #[.int .u64 (f k), .int .u64 (cr (k + 1))], .int .i64 ((k : Nat) : Int), .int .i64 ((k : Nat) : Int), PT J1_0 0, PT J1_0 (0 + k), .int .u64 (ww al ah k), .int .i64 ((k : Nat) : Int), PT J1_1 0, PT J1_1 (0 + k), .int .u64 (ww bl bh k), .int .u64 (cr k), .tuple #[.int .u64 (f k), .int .u64 (cr (k + 1))], .int .u64 (f k), .int .u64 (cr (k + 1)), PT J1_0 0, PT J1_0 (0 + k), .int .i64 ((k + 1 : Nat) : Int)]), rfl, ⟨H9.out.1, H9.out.2⟩, by omega⟩, by omega⟩
 have hk6 : k = 6 := by omega
 subst hk6
 refine wp_seq ?_
 refine zC 1 [.q (.bool false)] H4 ?ho8 ?he8
 case ho8 => exact ak (by refine fun J => ⟨rfl, fun w' h => ?_⟩; clear h; go_simp <;> omega) trivial
 intro _ w10 H10
 clear H4
 refine rN (wp_seq (wp_cond_false rfl ?_))
 refine wp_exit ?_
 repeat refine then_exit ?_
 refine block_exit ?_
 refine zA (wp_seq (wp_seq ?_))
 refine zC 1 [.q (.int .i64 0)] H10 ?ho9 ?he9
 case ho9 => exact ar trivial
 intro _ w11 H11
 clear H10
 refine rN (wp_block ?_)
 refine loop_ghost (α := Nat) (fun k a' w' => ∃ s2 : Nat → Value, a' = ⟨#[V [al, ah], V [bl, bh], PT J1_0 0, PT J1_1 0, PT J1_2 0, .int .u64 (cr (6 + k)), s0 6, s2 7, .int .i64 ((6 : Nat) : Int), .bool false, s0 10, s0 11, s0 12, s0 13, s0 14, s0 15, s0 16, s0 17, s0 18, s0 19, s0 20, s0 21, s0 22, s0 23, s0 24, s0 25, s0 26, s0 27, .int .i64 ((k : Nat) : Int), s2 29, s2 30, s2 31, s2 32, s2 33, s2 34, s2 35, s2 36, s2 37, s2 38, s2 39, s2 40, s2 41, s2 42, s2 43, s2 44, s2 45, s2 46, s2 47, undef], []⟩ ∧ (Mm w' [(J1_0, row12 (mix f al ah (6 + k))), (J1_1, cel [bl, bh]), (J1_2, cel [0, 0])] ∧ Below w.heap.size w w') ∧ k ≤ 6) (fun k => 6 - k) 0 ?st2 ?rd2
 case st2 => exact ⟨(yA [ud, ud, ud, ud, ud, ud, ud, ud, ud, ud, ud, ud, ud, ud, ud, ud, ud, ud, ud, ud, ud, ud, ud, ud, ud, ud, ud, ud, ud, ud, ud, ud, ud, ud, ud, ud, ud, ud, ud, ud, ud, ud, ud, ud, ud, ud, ud, ud]), rfl, ⟨H11.out.1, H11.out.2⟩, by omega⟩
 intro k a' w12 hI
 obtain ⟨s2, rfl, hMB, hk2⟩ := hI
 have H12 : Hid (_ ∧ _) := hMB
 clear hMB H11
 by_cases hlt : k < 6
 ·have hrd : True := trivial
  clear hrd
  have hk12 : (6 + k) < 12 := by omega
  refine wp_seq ?_
  refine zC 1 [.q (.bool true)] H12 ?ho10 ?he10
  case ho10 => exact ak (by refine fun J => ⟨rfl, fun w' h => ?_⟩; clear h; go_simp <;> omega) trivial
  intro _ w13 H13
  clear H12
  refine rN (wp_seq ?_)
  refine wp_cond_true rfl (wp_skip ?_)
  refine zA (wp_seq ?_)
  refine wp_block (wp_seq ?_)
  refine zC 2 [.q (.int .i64 ((k : Nat) : Int)), .q (.int .i64 ((k : Nat) : Int))] H13 ?ho11 ?he11
  case ho11 => exact ar (ar trivial)
  intro _ w14 H14
  clear H13
  refine rN ?_
  refine walk_put (by kernel_rfl) 16 [13] [.q (.int .i64 ((k : Nat) : Int)), .q (.int .i64 ((k : Nat) : Int)), .q (PT J1_0 6), .q (PT J1_0 (6 + k)), .q (.int .u64 (ww al ah (6 + k))), .q (.int .i64 ((k : Nat) : Int)), .q (PT J1_1 6), .q (PT J1_1 (6 + k)), .q (.int .u64 (ww bl bh (6 + k))), .q (.int .u64 (cr (6 + k))), .q (.tuple #[.int .u64 (f (6 + k)), .int .u64 (cr (6 + (k + 1)))]), .q (.tuple #[.int .u64 (f (6 + k)), .int .u64 (cr (6 + (k + 1)))]), .q (.int .u64 (f (6 + k))), .q (.int .u64 (cr (6 + (k + 1)))), .q (PT J1_0 6), .q (PT J1_0 (6 + k))] _ ?pre12 ?F12 _ ?hpre12 (fun J => ?hF12) (by kernel_rfl) rfl trivial (sB H14) ?ho12 ?hla12 ?he12
  case hpre12 => simp only [tk, tz]; rfl
  case hF12 => simp only [yB, Kind.val, Act.put, sa, sz, ss]; rfl
  case ho12 =>
   refine ar ?_
   refine ar ?_
   refine ag ?_
   refine ak (fun J => ⟨rfl, fun w' _ => zX rfl rfl rfl hlt⟩) ?_
   refine aq (fun w' h => ex_load1 h 0 rfl rfl rfl (mix_at hk12)) ?_
   refine ar ?_
   refine ag ?_
   refine ak (fun J => ⟨rfl, fun w' _ => zX rfl rfl rfl hlt⟩) ?_
   refine aq (fun w' h => ex_load1 h 1 rfl rfl rfl (by rw [cel_row12]; exact row12_at hk12)) ?_
   refine ar ?_
   refine aq (fun w' h => ex_extern rfl (CE.out (6 + k) w') rfl (mpn rfl)) ?_
   refine ar ?_
   refine ag ?_
   refine ag ?_
   refine ag ?_
   refine ak (fun J => ⟨rfl, fun w' _ => zX rfl rfl rfl hlt⟩) ?_
   exact trivial
  case hla12 => exact ⟨⟨_, _, rfl, rfl, fun J => ⟨rfl, fun w' => by first | rfl | go_simp⟩⟩, trivial⟩
  intro J w15 l hM hl
  have H15 := keepB H14 hM.below
  clear hM hl l H14 J
  refine ⟨_, ex_storeI H15.out.1 0 rfl rfl As22 rfl rfl (row12_bd hk12), ?_⟩
  have H16 : Hid (Mm (w15.setCells J1_0 (6 + k) [.int .u64 (f (6 + k))]) [(J1_0, row12 (mix f al ah (6 + (k + 1)))), (J1_1, cel [bl, bh]), (J1_2, cel [0, 0])] ∧ Below w.heap.size w (w15.setCells J1_0 (6 + k) [.int .u64 (f (6 + k))])) := ⟨by
   have h := H15.out.1.put 0 (off := (6 + k)) (vs := [.int .u64 (f (6 + k))]) rfl (row12_bd hk12)
   rw [row12_put hk12, mix_step rfl] at h
   exact h, zP _ o1_0.out _ _ _ H15.out.2⟩
  clear H15
  generalize hgw : World.setCells _ _ _ _ = w16 at H16 ⊢
  clear hgw
  refine zG (l := [17]) rfl ?_
  refine zN (d := 5) rfl rfl rfl rfl ?_
  simp only [Act.put, sa, sz, ss]
  refine zE (zT (zA ?_))
  refine zC 1 [.q (.int .i64 ((k + 1 : Nat) : Int))] H16 ?ho13 ?he13
  case ho13 => exact ak (by refine fun J => ⟨rfl, fun w' h => ?_⟩; clear h; go_simp; rw [IntKind.wrap_i64]; omega) trivial
  intro _ w17 H17
  clear H16
  refine zG (l := [1]) rfl ?_
  refine zN (d := 28) rfl rfl rfl rfl ?_
  simp only [Act.put, sa, sz, ss]
  refine zE (zA ?_)
  exact ⟨k + 1, ⟨(yA [ud, ud, ud, ud, ud, ud, ud, .int .i64 ((k : Nat) : Int), ud, ud, ud, ud, ud, ud, ud, ud, ud, ud, ud, ud, ud, ud, ud, ud, ud, ud, ud, ud, ud, .bool true, .int .i64 ((k : Nat) : Int), .tuple #[.int .u64 (f (6 + k)), .int .u64 (cr (6 + (k + 1)))], .int .i64 ((k : Nat) : Int), .int .i64 ((k : Nat) : Int), PT J1_0 6, PT J1_0 (6 + k), .int .u64 (ww al ah (6 + k)), .int .i64 ((k : Nat) : Int), PT J1_1 6, PT J1_1 (6 + k), .int .u64 (ww bl bh (6 + k)), .int .u64 (cr (6 + k)), .tuple #[.int .u64 (f (6 + k)), .int .u64 (cr (6 + (k + 1)))], .int .u64 (f (6 + k)), .int .u64 (cr (6 + (k + 1))), PT J1_0 6, PT J1_0 (6 + k), .int .i64 ((k + 1 : Nat) : Int)]), rfl, ⟨H17.out.1, H17.out.2⟩, by omega⟩, by omega⟩
 have hk6 : k = 6 := by omega
 subst hk6
 have H18 : Hid (Mm w12 [(J1_0, cel [x, y]), (J1_1, cel [bl, bh]), (J1_2, cel [0, 0])] ∧ Below w.heap.size w w12) := ⟨H12.out.1.atk (by rw [mix_end HF.out]), H12.out.2⟩
 clear H12
 refine wp_seq ?_
 refine zC 1 [.q (.bool false)] H18 ?ho14 ?he14
 case ho14 => exact ak (by refine fun J => ⟨rfl, fun w' h => ?_⟩; clear h; go_simp <;> omega) trivial
 intro _ w19 H19
 clear H18
 refine rN (wp_seq (wp_cond_false rfl ?_))
 refine wp_exit ?_
 repeat refine then_exit ?_
 refine block_exit ?_
 refine zA (wp_seq ?_)
 refine zC 1 [.q (V [x, y])] H19 ?ho15 ?he15
 case ho15 => exact bA 0 2 0 Ai53 As53 trivial
 intro _ w20 H20
 clear H19
 refine zG (l := [1]) rfl ?_
 refine sF 2 [x, y] [_, _, _] H20 o1_2 As53 fun w21 H21 => ?_
 clear H20
 refine zE (zA (wp_ret ?_))
 repeat (first | refine zK ?_ | refine zI ?_)
 have hf0 := cel_var (k := 2) H21.out.1 2 rfl Ai53 As53 rfl
 refine bodyPost_ret (v := V [x, y]) (by simp [results, Tryz.results71, asAddr, hf0]) rfl ?_
 exact ⟨rfl, H21.out.2⟩
theorem sub_wordn (a b k n : Nat) (hk : k < n) (hb : b < 2 ^ (64 * n)) : subLo (wd a k) (wd b k) (brw a b k) = wd (a + 2 ^ (64 * n) - b) k := by
 unfold subLo wd brw
 have e : 2 ^ (64 * n) = 2 ^ (64 * k) * (18446744073709551616 * 2 ^ (64 * (n - 1 - k))) := by
  have : 64 * n = 64 * k + (64 + 64 * (n - 1 - k)) := by omega
  rw [this, Nat.pow_add, Nat.pow_add]
 have hp := pow_pos' k
 rw [e] at hb ⊢
 generalize 2 ^ (64 * (n - 1 - k)) = R at hb ⊢
 generalize 2 ^ (64 * k) = B at hp hb ⊢
 have hbh : b / B < 18446744073709551616 * R := (Nat.div_lt_iff_lt_mul hp).2 (by rw [Nat.mul_comm]; exact hb)
 have da := Nat.div_add_mod a B
 have db := Nat.div_add_mod b B
 have la := Nat.mod_lt a hp
 have lb := Nat.mod_lt b hp
 generalize a / B = x at da ⊢
 generalize b / B = y at db hbh ⊢
 generalize a % B = p at da la ⊢
 generalize b % B = q at db lb ⊢
 by_cases h : p < q
 ·have e2 : a + B * (18446744073709551616 * R) - b = (p + B - q) + B * (x + 18446744073709551616 * R - y - 1) := by
   have h3 : B * (x + 18446744073709551616 * R - y - 1) = B * x + B * (18446744073709551616 * R) - B * y - B := by
    rw [Nat.mul_sub, Nat.mul_sub, Nat.mul_add, Nat.mul_one]
   have h4 : B * y + B ≤ B * (18446744073709551616 * R) := by rw [← Nat.mul_succ]; exact Nat.mul_le_mul_left B hbh
   rw [h3]; omega
  rw [e2, Nat.add_mul_div_left _ _ hp, Nat.div_eq_of_lt (by omega : p + B - q < B), if_pos h]
  omega
 ·have e2 : a + B * (18446744073709551616 * R) - b = (p - q) + B * (x + 18446744073709551616 * R - y) := by
   have h3 : B * (x + 18446744073709551616 * R - y) = B * x + B * (18446744073709551616 * R) - B * y := by
    rw [Nat.mul_sub, Nat.mul_add]
   have h4 : B * y + B ≤ B * (18446744073709551616 * R) := by rw [← Nat.mul_succ]; exact Nat.mul_le_mul_left B hbh
   rw [h3]; omega
  rw [e2, Nat.add_mul_div_left _ _ hp, Nat.div_eq_of_lt (by omega : p - q < B), if_neg h]
  omega
/-! Wide numbers stand for integers. -/
def bb : Nat := big * big
theorem bb_pow : ∃ n, n = 12 ∧ bb = 2 ^ (64 * n) := by
 obtain ⟨m, hm, e⟩ := big_pow
 refine ⟨m + m, by omega, ?_⟩
 unfold bb
 rw [e, ← Nat.pow_add, Nat.mul_add]
theorem bb_pos : 0 < bb := Nat.mul_pos big_pos big_pos
theorem bbI : (0 : Int) < (bb : Int) := by have := bb_pos; omega
def wz (z : Int) : Nat := (z % (bb : Int)).toNat
theorem wz_cast (z : Int) : ((wz z : Nat) : Int) = z % (bb : Int) := Int.toNat_of_nonneg (Int.emod_nonneg _ (by have := bbI; omega))
theorem wz_lt (z : Int) : wz z < bb := by
 have h := wz_cast z
 have h2 := Int.emod_lt_of_pos z bbI
 omega
theorem wz_nat (n : Nat) (h : n < bb) : wz n = n := by
 have e := wz_cast n
 rw [Int.emod_eq_of_lt (by omega) (by omega)] at e
 omega
theorem wz_add (x y : Int) : wz (x + y) = (wz x + wz y) % bb := by
 have h : ((wz (x + y) : Nat) : Int) = (((wz x + wz y) % bb : Nat) : Int) := by
  rw [wz_cast, Int.natCast_emod, Int.natCast_add, wz_cast, wz_cast, ← Int.add_emod]
 omega
theorem wz_sub (x y : Int) : wz (x - y) = (wz x + bb - wz y) % bb := by
 have hy := wz_lt y
 have h : ((wz (x - y) : Nat) : Int) = (((wz x + bb - wz y) % bb : Nat) : Int) := by
  rw [wz_cast, Int.natCast_emod, show ((wz x + bb - wz y : Nat) : Int) = (wz x : Int) - (wz y : Int) + (bb : Int) by omega, Int.add_emod_right, wz_cast, wz_cast, ← Int.sub_emod]
 omega
abbrev lo (z : Int) : Nat := wz z % big
abbrev hi (z : Int) : Nat := wz z / big
theorem ww_wd (X j : Nat) : ww (X % big) (X / big) j = wd X j := by
 unfold ww
 by_cases h : j < 6
 ·rw [if_pos h, wd_mod _ _ h]
 ·rw [if_neg h, ← wd_hi, show j - 6 + 6 = j by omega]
theorem wd_modn (v j n : Nat) (h : j < n) : wd (v % 2 ^ (64 * n)) j = wd v j := by
 unfold wd
 have e : 2 ^ (64 * n) = 2 ^ (64 * j) * (18446744073709551616 * 2 ^ (64 * (n - 1 - j))) := by
  have : 64 * n = 64 * j + (64 + 64 * (n - 1 - j)) := by omega
  rw [this, Nat.pow_add, Nat.pow_add]
 rw [e, Nat.mod_mul_right_div_self, Nat.mod_mul_right_mod]
theorem plusZ_any (x y : Int) (w : World) : Calls Tryz.prog 79 #[V [lo x, hi x], V [lo y, hi y]] w (Rt w (V [lo (x + y), hi (x + y)])) := by
 obtain ⟨n, hn, eb⟩ := bb_pow
 refine plus_gen (lo x) (hi x) (lo y) (hi y) (lo (x + y)) (hi (x + y)) (fun j => wd (wz x + wz y) j) (fun j => cry (wz x) (wz y) j) ?_ (fun j hj => ?_) (fun j w => ?_) w
 ·unfold cry; simp [Nat.mod_one]
 ·rw [ww_wd, wz_add, eb, wd_modn _ _ _ (by omega)]
 ·rw [ww_wd, ww_wd]
  have h := add64' (wd (wz x) j) (wd (wz y) j) (cry (wz x) (wz y) j) (wd_bd _ _).1 (wd_bd _ _).1 (cry_bd _ _ _).1 (cry_bd _ _ _).2 w
  rw [add_word, add_cry] at h
  exact h
theorem lessZ_any (x y : Int) (w : World) : Calls Tryz.prog 71 #[V [lo x, hi x], V [lo y, hi y]] w (Rt w (V [lo (x - y), hi (x - y)])) := by
 obtain ⟨n, hn, eb⟩ := bb_pow
 refine less_gen (lo x) (hi x) (lo y) (hi y) (lo (x - y)) (hi (x - y)) (fun j => subLo (wd (wz x) j) (wd (wz y) j) (brw (wz x) (wz y) j)) (fun j => brw (wz x) (wz y) j) ?_ (fun j hj => ?_) (fun j w => ?_) w
 ·unfold brw; simp [Nat.mod_one]
 ·have hy := wz_lt y
  show subLo (wd (wz x) j) (wd (wz y) j) (brw (wz x) (wz y) j) = _
  rw [ww_wd, wz_sub, eb, wd_modn _ _ _ (by omega)]
  rw [eb] at hy
  exact sub_wordn _ _ _ n (by omega) hy
 ·rw [ww_wd, ww_wd]
  have h := sub64' (wd (wz x) j) (wd (wz y) j) (brw (wz x) (wz y) j) (wd_bd _ _).1 (wd_bd _ _).1 (wd_bd _ _).2 (brw_bd _ _ _).1 (brw_bd _ _ _).2 w
  rw [sub_cry] at h
  exact h
theorem timesZ_any (a b : Nat) (ha : a < big) (hb : b < big) (w : World) : Calls Tryz.prog 70 #[N a, N b] w (Rt w (V [lo ((a : Int) * b), hi ((a : Int) * b)])) := by
 have h : wz ((a : Int) * b) = a * b := by
  rw [← Int.natCast_mul]
  exact wz_nat _ (Nat.mul_lt_mul'' ha hb)
 have ht := times_gen a b (a * b % big) (a * b / big) (fun w => mul_any a b ha hb w) w
 unfold lo hi
 rw [h]
 exact ht
/-! Numbers by p. -/
theorem left_any (a : Nat) (ha : a < big) (w : World) : Calls Tryz.prog 41 #[N a] w (Rt w (N (a % pB))) := by
 have hp := pB_lt
 have hpos : 0 < pB := pB_ok.pos
 have cb := base_pB
 generalize pB = p at *
 have hdm := Nat.div_add_mod a p
 have hlt := Nat.mod_lt a hpos
 have e : a - a / p * p = a % p := by rw [Nat.mul_comm]; omega
 have hk : ∀ k, k ≤ a / p → k * p ≤ a := fun k hk => Nat.le_trans (Nat.mul_le_mul hk (Nat.le_refl p)) (by rw [Nat.mul_comm]; omega)
 have h := left_gen a p ((a % p + big - p) % big) (a / p) (fun k => a - k * p) (by simp) cb (fun k hk' w => ?_) (fun w => ?_) w
 ·rw [e] at h
  exact h
 ·have h1 := hk (k + 1) hk'
  rw [Nat.add_mul, Nat.one_mul] at h1
  have h := sub_any (a - k * p) p (by omega) hp w
  rw [decide_eq_false (by omega), show a - k * p + big - p = a - (k + 1) * p + big by rw [Nat.add_mul, Nat.one_mul]; omega, Nat.add_mod_right, Nat.mod_eq_of_lt (by omega)] at h
  exact h
 ·rw [e]
  have h := sub_any (a % p) p (by omega) hp w
  rw [decide_eq_true hlt] at h
  exact h
theorem together_any (a b : Nat) (h : a + b < big) (w : World) : Calls Tryz.prog 42 #[N a, N b] w (Rt w (N (a + b))) := by
 have c := fun w => add_any a b (by omega) (by omega) w
 rw [Nat.mod_eq_of_lt h] at c
 exact together_gen a b _ _ c w
theorem sumP_any (a b : Nat) (h : a + b < big) (w : World) : Calls Tryz.prog 22 #[N a, N b] w (Rt w (N ((a + b) % pB))) :=
 sum_gen a b _ _ (fun w => together_any a b h w) (fun w => left_any (a + b) h w) w
theorem diffP_any (a b : Nat) (ha : a < pB) (hb : b < pB) (w : World) : Calls Tryz.prog 24 #[N a, N b] w (Rt w (N (subm pB a b))) := by
 have hp := pB_lt
 have cb := base_pB
 have ht := pB_ok.top
 generalize pB = p at *
 have c := fun w => sub_any a b (by omega) (by omega) w
 have hm : b % p = b := Nat.mod_eq_of_lt hb
 by_cases h : a < b
 ·rw [decide_eq_true h, Nat.mod_eq_of_lt (show a + big - b < big by omega)] at c
  have c2 := fun w => add_any (a + big - b) p (by omega) hp w
  have e : (a + big - b + p) % big = subm p a b := by
   unfold subm
   rw [hm, show a + big - b + p = a + (p - b) + big by omega, Nat.add_mod_right, Nat.mod_eq_of_lt (by omega), Nat.mod_eq_of_lt (by omega)]
  rw [e] at c2
  exact diff_2 a b _ _ _ _ c cb c2 w
 ·have e : (a + big - b) % big = subm p a b := by
   unfold subm
   rw [hm, show a + big - b = a - b + big by omega, Nat.add_mod_right, Nat.mod_eq_of_lt (by omega), show a + (p - b) = a - b + p by omega, Nat.add_mod_right, Nat.mod_eq_of_lt (by omega)]
  rw [decide_eq_false h, e] at c
  exact diff_1 a b _ c w
theorem Mm.over {u w : World} {l : List (Nat × List Value)} {g : Nat} {cs : List Value} (h0 : Mm u l) (hge : u.heap.size ≤ g) (h1 : Mm w l) (hb : Blk w g cs) (hlt : g < w.heap.size) : Mm w ((g, cs) :: l) :=
 h1.cons hb hlt (fun p hp => by have := (h0.blk p hp).1; omega)
theorem ex_madeF {ρ : Operand → Value} {o : Oper} {w : World} (ho : o.op = .alloc 42) :
  (execOp ρ o).run Tryz.prog w = .ok (.value (.pointer (some ⟨w.heap.size, 0, none⟩))) (w.alloc (.cells [.pointer none].toArray 42)) := by
 simp only [execOp, ho]
 go_simp
theorem ex_buildF {ρ : Operand → Value} {o : Oper} {x : Operand} {g : Nat} {w : World} (ho : o.op = .build 42 #[(0, x)]) (hx : ρ x = PT g 0) : (execOp ρ o).run Tryz.prog w = .ok (.value (.agg #[PT g 0])) w := by
 simp only [execOp, ho]
 go_simp
theorem ex_storeF {ρ : Operand → Value} {o : Oper} {x y : Operand} {g b : Nat} {cs : List Value} {w : World} {l : List (Nat × List Value)} (h : Mm w l) (k : Nat) (hk : l[k]? = some (g, cs)) (ho : o.op = .store 42 x y) (hx : ρ x = PT g 0) (hy : ρ y = .agg #[PT b 0]) (hc : 0 < cs.length) :
  (execOp ρ o).run Tryz.prog w = .ok .skip (w.setCells g 0 [PT b 0]) := by
 have hm := List.mem_of_getElem? hk
 have e : cs[0]? = some (cs[0]'hc) := List.getElem?_eq_getElem _
 have c0 := h.cell hm e
 have f0 := h.free hm e
 clear h hm hk
 simp only [execOp, ho, hx, hy]
 go_simp
 simp [World.setCells]
set_option maxHeartbeats 1000000 in
theorem great_gen (n : Nat)
  (c0 : ∀ w, Calls Tryz.prog 47 #[] w (Rt w (N n)))
  (c1 : ∀ w, Calls Tryz.prog 48 #[N n] w fun e w' => Below w.heap.size w w' ∧ ∃ g, e = .returned (.tuple #[PT g 0, .int .i64 0]) ∧ w.heap.size ≤ g ∧ g < w'.heap.size ∧ Blk w' g (modc n)) (w : World) :
  Calls Tryz.prog 26 #[] w fun e w' => Below w.heap.size w w' ∧ ∃ g, e = .returned (.agg #[PT g 0]) ∧ w.heap.size ≤ g ∧ g < w'.heap.size ∧ Blk w' g (modc n) := by
 have H0 : Hid (_ ∧ _) := ⟨Mm.nil w, Below.refl w.heap.size w⟩
 have C0 : Hid _ := c0
 have C1 : Hid _ := c1
 clear c0 c1
 go_enter Tryz.func26, Tryz.ntmps26
 refine wp_seq ?_
 refine zD 1 [.made [.pointer none] 42] (sB H0) ?ho1 ?he1
 case ho1 => exact am (ex_madeF rfl) trivial
 intro J w1 l hM hl
 have H1 : Hid (Mm w1 [(J 0, [.pointer none])] ∧ _) := wB H0 hM hl [0]
 have o1_0 := vB H0 hM hl 0
 clear hM hl l
 generalize J 0 = J1_0 at H1 o1_0 ⊢
 clear J
 refine rN (wp_seq ?_)
 refine zD 2 [.call (N n), .born (fun g => .tuple #[PT g 0, .int .i64 0]) (modc n)] (sB H1) ?ho2 ?he2
 case ho2 => exact ak (fun J => ⟨rfl, fun w' h => eC call47 (C0.out w')⟩) (ak (fun J => ⟨rfl, fun w' h => eC call48 (C1.out w')⟩) trivial)
 intro J w2 l hM hl
 have H2 : Hid (Mm w2 ([(J 1, modc n)] ++ _) ∧ _) := wB H1 hM hl [1]
 have o2_1 := vB H1 hM hl 1
 clear hM hl l H1
 generalize J 1 = J2_1 at H2 o2_1 ⊢
 clear J
 refine zG (l := [2, 3, 4, 5, 6]) rfl ?_
 refine zN (d := 3) rfl rfl rfl rfl ?_
 simp only [Act.put, sa, sz, ss]
 refine zN (d := 6) (v := PT J2_1 0) (w' := w2) rfl rfl rfl (by go_simp) ?_
 simp only [Act.put, sa, sz, ss]
 refine zN (d := 7) (v := .int .i64 0) (w' := w2) rfl rfl rfl (by go_simp) ?_
 simp only [Act.put, sa, sz, ss]
 refine zN (d := 1) rfl rfl rfl rfl ?_
 simp only [Act.put, sa, sz, ss]
 refine zN (d := 2) rfl rfl rfl rfl ?_
 simp only [Act.put, sa, sz, ss]
 refine zE (zA (wp_seq ?_))
 refine zC 2 [.q (PT J2_1 0), .q (.agg #[PT J2_1 0])] H2 ?ho3 ?he3
 case ho3 => exact ar (ak (fun J => ⟨rfl, fun w' _ => ex_buildF rfl rfl⟩) trivial)
 intro _ w3 H3
 clear H2
 refine zG (l := [2]) rfl ?_
 refine sG rfl (fun h => ex_storeF h 1 rfl rfl rfl rfl (Nat.le_of_ble_eq_true rfl)) 1 [_, (_, [PT J2_1 0])] H3 o1_0 fun w4 H4 => ?_
 clear H3
 refine zE (zA (wp_ret ?_))
 repeat (first | refine zK ?_ | refine zI ?_)
 have hf0 := H4.out.1.get 1 rfl 0 rfl
 refine bodyPost_ret (v := .agg #[PT J2_1 0]) (by simp [results, Tryz.results26, go_sem, *]) rfl ?_
 exact ⟨H4.out.2, J2_1, rfl, o2_1.out, H4.out.1.lt (List.mem_of_getElem? (i := 0) rfl), (H4.out.1.blk _ (List.mem_of_getElem? (i := 0) rfl)).2⟩
set_option maxHeartbeats 1000000 in
theorem rest_gen (g n o s u0 u1 d x r : Nat) (cx : Bool)
  (c0 : ∀ w, Mm w [(g, zR n o s)] → Calls Tryz.prog 83 #[PT g 0] w (Rt w (N n)))
  (c1 : ∀ w, Calls Tryz.prog 82 #[N n, .int .i64 1] w (Rt w (N d)))
  (c2 : ∀ w, Calls Tryz.prog 46 #[N u1, N d] w (Rt w (.tuple #[N x, .bool cx])))
  (c3 : ∀ w, Mm w [(g, zR n o s)] → Calls Tryz.prog 89 #[PT g 0, N u0, N x] w (Rt w (N r))) (w : World) (hm : Mm w [(g, zR n o s)]) :
  Calls Tryz.prog 69 #[.agg #[PT g 0], V [u0, u1]] w (Rt w (N r)) := by
 have H0 : Hid (_ ∧ _) := ⟨hm, Below.refl w.heap.size w⟩
 clear hm
 have C0 : Hid _ := c0
 have C1 : Hid _ := c1
 have C2 : Hid _ := c2
 have C3 : Hid _ := c3
 clear c0 c1 c2 c3
 go_enter Tryz.func69, Tryz.ntmps69
 refine wp_seq ?_
 refine zD 3 [.made [PT g 0] 42, .made (cel [u0, u1]) 53, .made zero6 24] (sB H0) ?ho1 ?he1
 case ho1 => exact am (ex_boxF rfl rfl) (am (zV rfl rfl) (am (zF rfl) trivial))
 intro J w1 l hM hl
 have H1 : Hid (Mm w1 ([(J 0, [PT g 0]), (J 1, cel [u0, u1]), (J 2, zero6)] ++ _) ∧ _) := wB H0 hM hl [0, 1, 2]
 have o1_0 := vB H0 hM hl 0
 have o1_1 := vB H0 hM hl 1
 have o1_2 := vB H0 hM hl 2
 clear hM hl l
 generalize J 0 = J1_0 at H1 o1_0 ⊢
 generalize J 1 = J1_1 at H1 o1_1 ⊢
 generalize J 2 = J1_2 at H1 o1_2 ⊢
 clear J
 refine rN (wp_seq ?_)
 refine zQ 13 [.q (PT J1_1 6), .q (N u1), .q (PT J1_0 0), .q (PT g 0), .call (N n), .call (N d), .call (.tuple #[N x, .bool cx]), .q (.tuple #[N x, .bool cx]), .q (N x), .q (.bool cx), .made zero6 24, .laid 10 zero6 (zB x), .q (.bool cx)] (sB H1) ?ho2 ?he2 (hL := ?hL2)
 case hL2 => exact ⟨⟨_, rfl⟩, trivial⟩
 case ho2 => exact ag (aq (fun w' h => zH (i := 1) h 1 rfl rfl rfl rfl) (ag (aq (fun w' h => ex_loadQ h 0 rfl rfl rfl rfl) (ac (fun w' h => eC call83 (C0.out w' (h.one 3 rfl))) (ac (fun w' h => eC call82 (C1.out w')) (ac (fun w' h => eC call46 (C2.out w')) (ar (ag (ag (am (zF rfl) (ak (fun J => ⟨rfl, rfl, rfl, fun w' h => zJ h rfl rfl rfl⟩) (ar trivial))))))))))))
 intro J w2 l hM hl
 have H2 : Hid (Mm w2 ([(J 10, zB x)] ++ _) ∧ _) := wB H1 hM hl [10]
 have o2_10 := vB H1 hM hl 10
 clear hM hl l H1
 generalize J 10 = J2_10 at H2 o2_10 ⊢
 clear J
 refine rN (wp_seq ?_)
 refine zC 6 [.q (PT J1_0 0), .q (PT g 0), .q (PT J1_1 0), .q (N u0), .q (N x), .call (N r)] H2 ?ho3 ?he3
 case ho3 => exact ag (aq (fun w' h => ex_loadQ h 1 rfl rfl rfl rfl) (ag (aq (fun w' h => zH (i := 0) h 2 rfl rfl rfl rfl) (bN 0 (ac (fun w' h => eC call89 (C3.out w' (h.one 4 rfl))) trivial)))))
 intro _ w3 H3
 clear H2
 refine zG (l := [6]) rfl ?_
 refine sG rfl (fun h => zM h 3 rfl rfl rfl rfl (Nat.le_of_ble_eq_true rfl)) 3 [_, _, _, (_, zB r), _] H3 o1_2 fun w4 H4 => ?_
 clear H3
 refine zE (zA (wp_ret ?_))
 repeat (first | refine zK ?_ | refine zI ?_)
 have c0 := H4.out.1.get 3 rfl 0 rfl
 have c1 := H4.out.1.get 3 rfl 1 rfl
 have c2 := H4.out.1.get 3 rfl 2 rfl
 have c3 := H4.out.1.get 3 rfl 3 rfl
 have c4 := H4.out.1.get 3 rfl 4 rfl
 have c5 := H4.out.1.get 3 rfl 5 rfl
 refine bodyPost_ret (v := N r) (by simp [results, Tryz.results69, go_sem, *]) rfl ?_
 exact ⟨rfl, H4.out.2⟩
set_option maxHeartbeats 1000000 in
theorem times2_gen (a0 a1 b0 b1 ta tb f0 f1 g0 g1 t0 t1 x0 x1 y0 y1 z0 z1 : Nat)
  (c0 : ∀ w, Calls Tryz.prog 70 #[N a0, N b0] w (Rt w (V [f0, f1])))
  (c1 : ∀ w, Calls Tryz.prog 70 #[N a1, N b1] w (Rt w (V [g0, g1])))
  (c2 : ∀ w, Calls Tryz.prog 42 #[N a0, N a1] w (Rt w (N ta)))
  (c3 : ∀ w, Calls Tryz.prog 42 #[N b0, N b1] w (Rt w (N tb)))
  (c4 : ∀ w, Calls Tryz.prog 70 #[N ta, N tb] w (Rt w (V [t0, t1])))
  (c5 : ∀ w, Calls Tryz.prog 71 #[V [f0, f1], V [g0, g1]] w (Rt w (V [x0, x1])))
  (c6 : ∀ w, Calls Tryz.prog 71 #[V [t0, t1], V [f0, f1]] w (Rt w (V [y0, y1])))
  (c7 : ∀ w, Calls Tryz.prog 71 #[V [y0, y1], V [g0, g1]] w (Rt w (V [z0, z1]))) (w : World) :
  Calls Tryz.prog 50 #[V [a0, a1], V [b0, b1]] w (Rt w (V [x0, x1, z0, z1])) := by
 have H0 : Hid (_ ∧ _) := ⟨Mm.nil w, Below.refl w.heap.size w⟩
 have C0 : Hid _ := c0
 have C1 : Hid _ := c1
 have C2 : Hid _ := c2
 have C3 : Hid _ := c3
 have C4 : Hid _ := c4
 have C5 : Hid _ := c5
 have C6 : Hid _ := c6
 have C7 : Hid _ := c7
 clear c0 c1 c2 c3 c4 c5 c6 c7
 go_enter Tryz.func50, Tryz.ntmps50
 refine wp_seq ?_
 refine zD 3 [.made (cel [a0, a1]) 26, .made (cel [b0, b1]) 26, .made (cel [0, 0, 0, 0]) 55] (sB H0) ?ho1 ?he1
 case ho1 => exact am (zV rfl rfl) (am (zV rfl rfl) (am (ex_madeW2 rfl) trivial))
 intro J w1 l hM hl
 have H1 : Hid (Mm w1 [(J 0, cel [a0, a1]), (J 1, cel [b0, b1]), (J 2, cel [0, 0, 0, 0])] ∧ _) := wB H0 hM hl [0, 1, 2]
 have o1_0 := vB H0 hM hl 0
 have o1_1 := vB H0 hM hl 1
 have o1_2 := vB H0 hM hl 2
 clear hM hl l
 generalize J 0 = J1_0 at H1 o1_0 ⊢
 generalize J 1 = J1_1 at H1 o1_1 ⊢
 generalize J 2 = J1_2 at H1 o1_2 ⊢
 clear J
 refine rN (wp_seq ?_)
 refine zQ 14 [.q (PT J1_0 0), .q (N a0), .q (PT J1_1 0), .q (N b0), .call (V [f0, f1]), .q (PT J1_0 6), .q (N a1), .q (PT J1_1 6), .q (N b1), .call (V [g0, g1]), .made (cel [0, 0]) 53, .made (cel [0, 0]) 53, .laid 10 (cel [0, 0]) (cel [f0, f1]), .laid 11 (cel [0, 0]) (cel [g0, g1])] (sB H1) ?ho2 ?he2 (hL := ?hL2)
 case hL2 => exact ⟨⟨_, rfl⟩, ⟨_, rfl⟩, trivial⟩
 case ho2 => exact ag (aq (fun w' h => zH (i := 0) h 0 rfl rfl rfl rfl) (ag (aq (fun w' h => zH (i := 0) h 1 rfl rfl rfl rfl) (ac (fun w' h => eC call70 (C0.out w')) (ag (aq (fun w' h => zH (i := 1) h 0 rfl rfl rfl rfl) (ag (aq (fun w' h => zH (i := 1) h 1 rfl rfl rfl rfl) (ac (fun w' h => eC call70 (C1.out w')) (am (ex_madeWD rfl) (am (ex_madeWD rfl) (ak (fun J => ⟨rfl, rfl, rfl, fun w' h => ex_laidA h rfl As53 rfl rfl rfl⟩) (ak (fun J => ⟨rfl, rfl, rfl, fun w' h => ex_laidA h rfl As53 rfl rfl rfl⟩) trivial)))))))))))))
 intro J w2 l hM hl
 have H2 : Hid (Mm w2 ([(J 10, cel [f0, f1]), (J 11, cel [g0, g1])] ++ _) ∧ _) := wB H1 hM hl [10, 11]
 have o2_10 := vB H1 hM hl 10
 have o2_11 := vB H1 hM hl 11
 clear hM hl l H1
 generalize J 10 = J2_10 at H2 o2_10 ⊢
 generalize J 11 = J2_11 at H2 o2_11 ⊢
 clear J
 refine rN (wp_seq ?_)
 refine zQ 13 [.q (PT J1_0 0), .q (N a0), .q (PT J1_0 6), .q (N a1), .call (N ta), .q (PT J1_1 0), .q (N b0), .q (PT J1_1 6), .q (N b1), .call (N tb), .call (V [t0, t1]), .made (cel [0, 0]) 53, .laid 11 (cel [0, 0]) (cel [t0, t1])] (sB H2) ?ho3 ?he3 (hL := ?hL3)
 case hL3 => exact ⟨⟨_, rfl⟩, trivial⟩
 case ho3 => exact ag (aq (fun w' h => zH (i := 0) h 2 rfl rfl rfl rfl) (ag (aq (fun w' h => zH (i := 1) h 2 rfl rfl rfl rfl) (ac (fun w' h => eC call42 (C2.out w')) (ag (aq (fun w' h => zH (i := 0) h 3 rfl rfl rfl rfl) (ag (aq (fun w' h => zH (i := 1) h 3 rfl rfl rfl rfl) (ac (fun w' h => eC call42 (C3.out w')) (ac (fun w' h => eC call70 (C4.out w')) (am (ex_madeWD rfl) (ak (fun J => ⟨rfl, rfl, rfl, fun w' h => ex_laidA h rfl As53 rfl rfl rfl⟩) trivial))))))))))))
 intro J w3 l hM hl
 have H3 : Hid (Mm w3 ([(J 11, cel [t0, t1])] ++ _) ∧ _) := wB H2 hM hl [11]
 have o3_11 := vB H2 hM hl 11
 clear hM hl l H2
 generalize J 11 = J3_11 at H3 o3_11 ⊢
 clear J
 refine rN (wp_seq ?_)
 refine zS 9 [.q (V [f0, f1]), .q (V [g0, g1]), .call (V [x0, x1]), .q (V [t0, t1]), .q (V [f0, f1]), .call (V [y0, y1]), .q (V [g0, g1]), .call (V [z0, z1]), .q (V [x0, x1, z0, z1])] H3 ?ho4 ?he4
 case ho4 => exact bA 0 2 1 Ai53 As53 (bA 0 2 2 Ai53 As53 (ac (fun w' h => eC call71 (C5.out w')) (bA 0 2 0 Ai53 As53 (bA 0 2 1 Ai53 As53 (ac (fun w' h => eC call71 (C6.out w')) (bA 0 2 2 Ai53 As53 (ac (fun w' h => eC call71 (C7.out w')) (ak (fun J => ⟨rfl, fun w' _ => ex_buildW2 rfl rfl rfl⟩) trivial))))))))
 intro _ w4 H4
 clear H3
 refine zG (l := [9]) rfl ?_
 refine sF 5 [x0, x1, z0, z1] [_, _, _, _, _, _] H4 o1_2 Tryz.sizeOf55 fun w5 H5 => ?_
 clear H4
 refine zE (zA (wp_ret ?_))
 repeat (first | refine zK ?_ | refine zI ?_)
 have hf0 := cel_var (k := 4) H5.out.1 5 rfl Tryz.isAgg55 Tryz.sizeOf55 rfl
 refine bodyPost_ret (v := V [x0, x1, z0, z1]) (by simp [results, Tryz.results50, asAddr, hf0]) rfl ?_
 exact ⟨rfl, H5.out.2⟩
set_option maxHeartbeats 1000000 in
theorem rest2_gen (g n o s u0 u1 v0 v1 r0 r1 : Nat)
  (c0 : ∀ w, Mm w [(g, zR n o s)] → Calls Tryz.prog 69 #[.agg #[PT g 0], V [u0, u1]] w (Rt w (N r0)))
  (c1 : ∀ w, Mm w [(g, zR n o s)] → Calls Tryz.prog 69 #[.agg #[PT g 0], V [v0, v1]] w (Rt w (N r1))) (w : World) (hm : Mm w [(g, zR n o s)]) :
  Calls Tryz.prog 49 #[.agg #[PT g 0], V [u0, u1, v0, v1]] w (Rt w (V [r0, r1])) := by
 have H0 : Hid (_ ∧ _) := ⟨hm, Below.refl w.heap.size w⟩
 clear hm
 have C0 : Hid _ := c0
 have C1 : Hid _ := c1
 clear c0 c1
 go_enter Tryz.func49, Tryz.ntmps49
 refine wp_seq ?_
 refine zD 3 [.made [PT g 0] 42, .made (cel [u0, u1, v0, v1]) 55, .made (cel [0, 0]) 26] (sB H0) ?ho1 ?he1
 case ho1 => exact am (ex_boxF rfl rfl) (am (zV rfl rfl) (am (zO rfl) trivial))
 intro J w1 l hM hl
 have H1 : Hid (Mm w1 ([(J 0, [PT g 0]), (J 1, cel [u0, u1, v0, v1]), (J 2, cel [0, 0])] ++ _) ∧ _) := wB H0 hM hl [0, 1, 2]
 have o1_0 := vB H0 hM hl 0
 have o1_1 := vB H0 hM hl 1
 have o1_2 := vB H0 hM hl 2
 clear hM hl l
 generalize J 0 = J1_0 at H1 o1_0 ⊢
 generalize J 1 = J1_1 at H1 o1_1 ⊢
 generalize J 2 = J1_2 at H1 o1_2 ⊢
 clear J
 refine rN (wp_seq ?_)
 refine zS 9 [.q (.agg #[PT g 0]), .q (PT J1_1 0), .q (V [u0, u1]), .call (N r0), .q (.agg #[PT g 0]), .q (PT J1_1 12), .q (V [v0, v1]), .call (N r1), .q (V [r0, r1])] H1 ?ho2 ?he2
 case ho2 => exact aq (fun w' h => ex_loadF h 0 rfl rfl rfl rfl) (ag (bA 0 2 1 Ai53 As53 (ac (fun w' h => eC call69 (C0.out w' (h.one 3 rfl))) (aq (fun w' h => ex_loadF h 0 rfl rfl rfl rfl) (ag (bA 2 2 1 Ai53 As53 (ac (fun w' h => eC call69 (C1.out w' (h.one 3 rfl))) (ak (fun J => ⟨rfl, fun w' _ => yC rfl rfl rfl⟩) trivial))))))))
 intro _ w2 H2
 clear H1
 refine zG (l := [9]) rfl ?_
 refine sF 2 [r0, r1] [_, _, _, _] H2 o1_2 As26 fun w3 H3 => ?_
 clear H2
 refine zE (zA (wp_ret ?_))
 repeat (first | refine zK ?_ | refine zI ?_)
 have hf0 := cel_var (k := 2) H3.out.1 2 rfl Ai26 As26 rfl
 refine bodyPost_ret (v := V [r0, r1]) (by simp [results, Tryz.results49, asAddr, hf0]) rfl ?_
 exact ⟨rfl, H3.out.2⟩
set_option maxHeartbeats 1000000 in
theorem mul2_gen (g n o s a0 a1 b0 b1 u0 u1 v0 v1 r0 r1 : Nat)
  (c0 : ∀ w, Calls Tryz.prog 50 #[V [a0, a1], V [b0, b1]] w (Rt w (V [u0, u1, v0, v1])))
  (c1 : ∀ w, Mm w [(g, zR n o s)] → Calls Tryz.prog 49 #[.agg #[PT g 0], V [u0, u1, v0, v1]] w (Rt w (V [r0, r1]))) (w : World) (hm : Mm w [(g, zR n o s)]) :
  Calls Tryz.prog 27 #[.agg #[PT g 0], V [a0, a1], V [b0, b1]] w (Rt w (V [r0, r1])) := by
 have H0 : Hid (_ ∧ _) := ⟨hm, Below.refl w.heap.size w⟩
 clear hm
 have C0 : Hid _ := c0
 have C1 : Hid _ := c1
 clear c0 c1
 go_enter Tryz.func27, Tryz.ntmps27
 refine wp_seq ?_
 refine zD 4 [.made [PT g 0] 42, .made (cel [a0, a1]) 26, .made (cel [b0, b1]) 26, .made (cel [0, 0]) 26] (sB H0) ?ho1 ?he1
 case ho1 => exact am (ex_boxF rfl rfl) (am (zV rfl rfl) (am (zV rfl rfl) (am (zO rfl) trivial)))
 intro J w1 l hM hl
 have H1 : Hid (Mm w1 ([(J 0, [PT g 0]), (J 1, cel [a0, a1]), (J 2, cel [b0, b1]), (J 3, cel [0, 0])] ++ _) ∧ _) := wB H0 hM hl [0, 1, 2, 3]
 have o1_0 := vB H0 hM hl 0
 have o1_1 := vB H0 hM hl 1
 have o1_2 := vB H0 hM hl 2
 have o1_3 := vB H0 hM hl 3
 clear hM hl l
 generalize J 0 = J1_0 at H1 o1_0 ⊢
 generalize J 1 = J1_1 at H1 o1_1 ⊢
 generalize J 2 = J1_2 at H1 o1_2 ⊢
 generalize J 3 = J1_3 at H1 o1_3 ⊢
 clear J
 refine rN (wp_seq ?_)
 refine zS 5 [.q (.agg #[PT g 0]), .q (V [a0, a1]), .q (V [b0, b1]), .call (V [u0, u1, v0, v1]), .call (V [r0, r1])] H1 ?ho2 ?he2
 case ho2 => exact aq (fun w' h => ex_loadF h 0 rfl rfl rfl rfl) (bA 0 2 1 Ai26 As26 (bA 0 2 2 Ai26 As26 (ac (fun w' h => eC call50 (C0.out w')) (ac (fun w' h => eC call49 (C1.out w' (h.one 4 rfl))) trivial))))
 intro _ w2 H2
 clear H1
 refine zG (l := [5]) rfl ?_
 refine sF 3 [r0, r1] [_, _, _, _, _] H2 o1_3 As26 fun w3 H3 => ?_
 clear H2
 refine zE (zA (wp_ret ?_))
 repeat (first | refine zK ?_ | refine zI ?_)
 have hf0 := cel_var (k := 2) H3.out.1 3 rfl Ai26 As26 rfl
 refine bodyPost_ret (v := V [r0, r1]) (by simp [results, Tryz.results27, asAddr, hf0]) rfl ?_
 exact ⟨rfl, H3.out.2⟩
set_option maxHeartbeats 1000000 in
theorem left2_gen (a0 a1 r0 r1 : Nat)
  (c0 : ∀ w, Calls Tryz.prog 41 #[N a0] w (Rt w (N r0)))
  (c1 : ∀ w, Calls Tryz.prog 41 #[N a1] w (Rt w (N r1))) (w : World) :
  Calls Tryz.prog 21 #[V [a0, a1]] w (Rt w (V [r0, r1])) := by
 have H0 : Hid (_ ∧ _) := ⟨Mm.nil w, Below.refl w.heap.size w⟩
 have C0 : Hid _ := c0
 have C1 : Hid _ := c1
 clear c0 c1
 go_enter Tryz.func21, Tryz.ntmps21
 refine wp_seq ?_
 refine zD 2 [.made (cel [a0, a1]) 26, .made (cel [0, 0]) 26] (sB H0) ?ho1 ?he1
 case ho1 => exact am (zV rfl rfl) (am (zO rfl) trivial)
 intro J w1 l hM hl
 have H1 : Hid (Mm w1 [(J 0, cel [a0, a1]), (J 1, cel [0, 0])] ∧ _) := wB H0 hM hl [0, 1]
 have o1_0 := vB H0 hM hl 0
 have o1_1 := vB H0 hM hl 1
 clear hM hl l
 generalize J 0 = J1_0 at H1 o1_0 ⊢
 generalize J 1 = J1_1 at H1 o1_1 ⊢
 clear J
 refine rN (wp_seq ?_)
 refine zS 7 [.q (PT J1_0 0), .q (N a0), .call (N r0), .q (PT J1_0 6), .q (N a1), .call (N r1), .q (V [r0, r1])] H1 ?ho2 ?he2
 case ho2 => exact ag (aq (fun w' h => zH (i := 0) h 0 rfl rfl rfl rfl) (ac (fun w' h => eC call41 (C0.out w')) (ag (aq (fun w' h => zH (i := 1) h 0 rfl rfl rfl rfl) (ac (fun w' h => eC call41 (C1.out w')) (ak (fun J => ⟨rfl, fun w' _ => yC rfl rfl rfl⟩) trivial))))))
 intro _ w2 H2
 clear H1
 refine zG (l := [7]) rfl ?_
 refine sF 1 [r0, r1] [_, _] H2 o1_1 As26 fun w3 H3 => ?_
 clear H2
 refine zE (zA (wp_ret ?_))
 repeat (first | refine zK ?_ | refine zI ?_)
 have hf0 := cel_var (k := 2) H3.out.1 1 rfl Ai26 As26 rfl
 refine bodyPost_ret (v := V [r0, r1]) (by simp [results, Tryz.results21, asAddr, hf0]) rfl ?_
 exact ⟨rfl, H3.out.2⟩
set_option maxHeartbeats 1000000 in
theorem add2_gen (a0 a1 b0 b1 m0 m1 q0 q1 r0 r1 : Nat)
  (c0 : ∀ w, Calls Tryz.prog 21 #[V [a0, a1]] w (Rt w (V [m0, m1])))
  (c1 : ∀ w, Calls Tryz.prog 21 #[V [b0, b1]] w (Rt w (V [q0, q1])))
  (c2 : ∀ w, Calls Tryz.prog 22 #[N m0, N q0] w (Rt w (N r0)))
  (c3 : ∀ w, Calls Tryz.prog 22 #[N m1, N q1] w (Rt w (N r1))) (w : World) :
  Calls Tryz.prog 5 #[V [a0, a1], V [b0, b1]] w (Rt w (V [r0, r1])) := by
 have H0 : Hid (_ ∧ _) := ⟨Mm.nil w, Below.refl w.heap.size w⟩
 have C0 : Hid _ := c0
 have C1 : Hid _ := c1
 have C2 : Hid _ := c2
 have C3 : Hid _ := c3
 clear c0 c1 c2 c3
 go_enter Tryz.func5, Tryz.ntmps5
 refine wp_seq ?_
 refine zD 3 [.made (cel [a0, a1]) 26, .made (cel [b0, b1]) 26, .made (cel [0, 0]) 26] (sB H0) ?ho1 ?he1
 case ho1 => exact am (zV rfl rfl) (am (zV rfl rfl) (am (zO rfl) trivial))
 intro J w1 l hM hl
 have H1 : Hid (Mm w1 [(J 0, cel [a0, a1]), (J 1, cel [b0, b1]), (J 2, cel [0, 0])] ∧ _) := wB H0 hM hl [0, 1, 2]
 have o1_0 := vB H0 hM hl 0
 have o1_1 := vB H0 hM hl 1
 have o1_2 := vB H0 hM hl 2
 clear hM hl l
 generalize J 0 = J1_0 at H1 o1_0 ⊢
 generalize J 1 = J1_1 at H1 o1_1 ⊢
 generalize J 2 = J1_2 at H1 o1_2 ⊢
 clear J
 refine rN (wp_seq ?_)
 refine walk_put (by kernel_rfl) 4 [] [.q (V [a0, a1]), .call (V [m0, m1]), .q (V [b0, b1]), .call (V [q0, q1])] _ ?pre2 ?F2 _ ?hpre2 (fun J => ?hF2) (by kernel_rfl) rfl trivial (sB H1) ?ho2 ?hla2 ?he2
 case hpre2 => simp only [tk, tz]; rfl
 case hF2 => simp only [yB, Kind.val, Act.put, sa, sz, ss]; rfl
 case ho2 =>
  refine bA 0 2 0 Ai26 As26 ?_
  refine ak (fun J => ⟨rfl, fun w' h => eC call21 (C0.out w')⟩) ?_
  refine bA 0 2 1 Ai26 As26 ?_
  refine ak (fun J => ⟨rfl, fun w' h => eC call21 (C1.out w')⟩) ?_
  exact trivial
 case hla2 => exact trivial
 intro J w2 l hM hl
 have H2 := keepB H1 hM.below
 clear hM hl l H1 J
 refine ⟨_, ex_storeA (i := 0) (ms := [m0, m1]) H2.out.1 0 rfl rfl rfl rfl As26 (Nat.le_of_ble_eq_true rfl), ?_⟩
 have H3 : Hid (Mm (w2.setCells J1_0 (6 * 0) (cel [m0, m1])) [(J1_0, cel [m0, m1]), (J1_1, cel [b0, b1]), (J1_2, cel [0, 0])] ∧ Below w.heap.size w (w2.setCells J1_0 (6 * 0) (cel [m0, m1]))) := ⟨by
  have h := H2.out.1.put 0 (off := 6 * 0) (vs := cel [m0, m1]) rfl (by simp only [cel_len]; exact Nat.le_of_ble_eq_true rfl)
  rw [cel_patch] at h
  exact h, zP _ o1_0.out _ _ _ H2.out.2⟩
 clear H2
 generalize hgw : World.setCells _ _ _ _ = w3 at H3 ⊢
 clear hgw
 refine zG (l := [5]) rfl ?_
 refine sF 1 [q0, q1] [_, _, _] H3 o1_1 As26 fun w4 H4 => ?_
 clear H3
 refine zE (zA (wp_seq ?_))
 refine zS 11 [.q (PT J1_0 0), .q (N m0), .q (PT J1_1 0), .q (N q0), .call (N r0), .q (PT J1_0 6), .q (N m1), .q (PT J1_1 6), .q (N q1), .call (N r1), .q (V [r0, r1])] H4 ?ho3 ?he3
 case ho3 => exact ag (aq (fun w' h => zH (i := 0) h 0 rfl rfl rfl rfl) (ag (aq (fun w' h => zH (i := 0) h 1 rfl rfl rfl rfl) (ac (fun w' h => eC call22 (C2.out w')) (ag (aq (fun w' h => zH (i := 1) h 0 rfl rfl rfl rfl) (ag (aq (fun w' h => zH (i := 1) h 1 rfl rfl rfl rfl) (ac (fun w' h => eC call22 (C3.out w')) (ak (fun J => ⟨rfl, fun w' _ => yC rfl rfl rfl⟩) trivial))))))))))
 intro _ w5 H5
 clear H4
 refine zG (l := [11]) rfl ?_
 refine sF 2 [r0, r1] [_, _, _] H5 o1_2 As26 fun w6 H6 => ?_
 clear H5
 refine zE (zA (wp_ret ?_))
 repeat (first | refine zK ?_ | refine zI ?_)
 have hf0 := cel_var (k := 2) H6.out.1 2 rfl Ai26 As26 rfl
 refine bodyPost_ret (v := V [r0, r1]) (by simp [results, Tryz.results5, asAddr, hf0]) rfl ?_
 exact ⟨rfl, H6.out.2⟩
set_option maxHeartbeats 1000000 in
theorem sub2_gen (a0 a1 b0 b1 m0 m1 q0 q1 r0 r1 : Nat)
  (c0 : ∀ w, Calls Tryz.prog 21 #[V [a0, a1]] w (Rt w (V [m0, m1])))
  (c1 : ∀ w, Calls Tryz.prog 21 #[V [b0, b1]] w (Rt w (V [q0, q1])))
  (c2 : ∀ w, Calls Tryz.prog 24 #[N m0, N q0] w (Rt w (N r0)))
  (c3 : ∀ w, Calls Tryz.prog 24 #[N m1, N q1] w (Rt w (N r1))) (w : World) :
  Calls Tryz.prog 7 #[V [a0, a1], V [b0, b1]] w (Rt w (V [r0, r1])) := by
 have H0 : Hid (_ ∧ _) := ⟨Mm.nil w, Below.refl w.heap.size w⟩
 have C0 : Hid _ := c0
 have C1 : Hid _ := c1
 have C2 : Hid _ := c2
 have C3 : Hid _ := c3
 clear c0 c1 c2 c3
 go_enter Tryz.func7, Tryz.ntmps7
 refine wp_seq ?_
 refine zD 3 [.made (cel [a0, a1]) 26, .made (cel [b0, b1]) 26, .made (cel [0, 0]) 26] (sB H0) ?ho1 ?he1
 case ho1 => exact am (zV rfl rfl) (am (zV rfl rfl) (am (zO rfl) trivial))
 intro J w1 l hM hl
 have H1 : Hid (Mm w1 [(J 0, cel [a0, a1]), (J 1, cel [b0, b1]), (J 2, cel [0, 0])] ∧ _) := wB H0 hM hl [0, 1, 2]
 have o1_0 := vB H0 hM hl 0
 have o1_1 := vB H0 hM hl 1
 have o1_2 := vB H0 hM hl 2
 clear hM hl l
 generalize J 0 = J1_0 at H1 o1_0 ⊢
 generalize J 1 = J1_1 at H1 o1_1 ⊢
 generalize J 2 = J1_2 at H1 o1_2 ⊢
 clear J
 refine rN (wp_seq ?_)
 refine walk_put (by kernel_rfl) 4 [] [.q (V [a0, a1]), .call (V [m0, m1]), .q (V [b0, b1]), .call (V [q0, q1])] _ ?pre2 ?F2 _ ?hpre2 (fun J => ?hF2) (by kernel_rfl) rfl trivial (sB H1) ?ho2 ?hla2 ?he2
 case hpre2 => simp only [tk, tz]; rfl
 case hF2 => simp only [yB, Kind.val, Act.put, sa, sz, ss]; rfl
 case ho2 =>
  refine bA 0 2 0 Ai26 As26 ?_
  refine ak (fun J => ⟨rfl, fun w' h => eC call21 (C0.out w')⟩) ?_
  refine bA 0 2 1 Ai26 As26 ?_
  refine ak (fun J => ⟨rfl, fun w' h => eC call21 (C1.out w')⟩) ?_
  exact trivial
 case hla2 => exact trivial
 intro J w2 l hM hl
 have H2 := keepB H1 hM.below
 clear hM hl l H1 J
 refine ⟨_, ex_storeA (i := 0) (ms := [m0, m1]) H2.out.1 0 rfl rfl rfl rfl As26 (Nat.le_of_ble_eq_true rfl), ?_⟩
 have H3 : Hid (Mm (w2.setCells J1_0 (6 * 0) (cel [m0, m1])) [(J1_0, cel [m0, m1]), (J1_1, cel [b0, b1]), (J1_2, cel [0, 0])] ∧ Below w.heap.size w (w2.setCells J1_0 (6 * 0) (cel [m0, m1]))) := ⟨by
  have h := H2.out.1.put 0 (off := 6 * 0) (vs := cel [m0, m1]) rfl (by simp only [cel_len]; exact Nat.le_of_ble_eq_true rfl)
  rw [cel_patch] at h
  exact h, zP _ o1_0.out _ _ _ H2.out.2⟩
 clear H2
 generalize hgw : World.setCells _ _ _ _ = w3 at H3 ⊢
 clear hgw
 refine zG (l := [5]) rfl ?_
 refine sF 1 [q0, q1] [_, _, _] H3 o1_1 As26 fun w4 H4 => ?_
 clear H3
 refine zE (zA (wp_seq ?_))
 refine zS 11 [.q (PT J1_0 0), .q (N m0), .q (PT J1_1 0), .q (N q0), .call (N r0), .q (PT J1_0 6), .q (N m1), .q (PT J1_1 6), .q (N q1), .call (N r1), .q (V [r0, r1])] H4 ?ho3 ?he3
 case ho3 => exact ag (aq (fun w' h => zH (i := 0) h 0 rfl rfl rfl rfl) (ag (aq (fun w' h => zH (i := 0) h 1 rfl rfl rfl rfl) (ac (fun w' h => eC call24 (C2.out w')) (ag (aq (fun w' h => zH (i := 1) h 0 rfl rfl rfl rfl) (ag (aq (fun w' h => zH (i := 1) h 1 rfl rfl rfl rfl) (ac (fun w' h => eC call24 (C3.out w')) (ak (fun J => ⟨rfl, fun w' _ => yC rfl rfl rfl⟩) trivial))))))))))
 intro _ w5 H5
 clear H4
 refine zG (l := [11]) rfl ?_
 refine sF 2 [r0, r1] [_, _, _] H5 o1_2 As26 fun w6 H6 => ?_
 clear H5
 refine zE (zA (wp_ret ?_))
 repeat (first | refine zK ?_ | refine zI ?_)
 have hf0 := cel_var (k := 2) H6.out.1 2 rfl Ai26 As26 rfl
 refine bodyPost_ret (v := V [r0, r1]) (by simp [results, Tryz.results7, asAddr, hf0]) rfl ?_
 exact ⟨rfl, H6.out.2⟩
set_option maxHeartbeats 1000000 in
theorem neg2_gen (a0 a1 r0 r1 : Nat)
  (c0 : ∀ w, Calls Tryz.prog 7 #[V [0, 0], V [a0, a1]] w (Rt w (V [r0, r1]))) (w : World) :
  Calls Tryz.prog 9 #[V [a0, a1]] w (Rt w (V [r0, r1])) := by
 have H0 : Hid (_ ∧ _) := ⟨Mm.nil w, Below.refl w.heap.size w⟩
 have C0 : Hid _ := c0
 clear c0
 go_enter Tryz.func9, Tryz.ntmps9
 refine wp_seq ?_
 refine zD 2 [.made (cel [a0, a1]) 26, .made (cel [0, 0]) 26] (sB H0) ?ho1 ?he1
 case ho1 => exact am (zV rfl rfl) (am (zO rfl) trivial)
 intro J w1 l hM hl
 have H1 : Hid (Mm w1 [(J 0, cel [a0, a1]), (J 1, cel [0, 0])] ∧ _) := wB H0 hM hl [0, 1]
 have o1_0 := vB H0 hM hl 0
 have o1_1 := vB H0 hM hl 1
 clear hM hl l
 generalize J 0 = J1_0 at H1 o1_0 ⊢
 generalize J 1 = J1_1 at H1 o1_1 ⊢
 clear J
 refine rN (wp_seq ?_)
 refine zC 3 [.q (V [0, 0]), .q (V [a0, a1]), .call (V [r0, r1])] H1 ?ho2 ?he2
 case ho2 => exact ak (fun J => ⟨rfl, fun w' _ => ex_buildE2z rfl⟩) (bA 0 2 0 Ai26 As26 (ac (fun w' h => eC call7 (C0.out w')) trivial))
 intro _ w2 H2
 clear H1
 refine zG (l := [3]) rfl ?_
 refine sF 1 [r0, r1] [_, _] H2 o1_1 As26 fun w3 H3 => ?_
 clear H2
 refine zE (zA (wp_ret ?_))
 repeat (first | refine zK ?_ | refine zI ?_)
 have hf0 := cel_var (k := 2) H3.out.1 1 rfl Ai26 As26 rfl
 refine bodyPost_ret (v := V [r0, r1]) (by simp [results, Tryz.results9, asAddr, hf0]) rfl ?_
 exact ⟨rfl, H3.out.2⟩
set_option maxHeartbeats 1000000 in
theorem negated_gen (a r : Nat)
  (c0 : ∀ w, Calls Tryz.prog 24 #[N 0, N a] w (Rt w (N r))) (w : World) :
  Calls Tryz.prog 30 #[N a] w (Rt w (N r)) := by
 have H0 : Hid (_ ∧ _) := ⟨Mm.nil w, Below.refl w.heap.size w⟩
 have C0 : Hid _ := c0
 clear c0
 go_enter Tryz.func30, Tryz.ntmps30
 refine wp_seq ?_
 refine zD 2 [.made (zB a) 24, .made zero6 24] (sB H0) ?ho1 ?he1
 case ho1 => exact am (zU rfl rfl) (am (zF rfl) trivial)
 intro J w1 l hM hl
 have H1 : Hid (Mm w1 [(J 0, zB a), (J 1, zero6)] ∧ _) := wB H0 hM hl [0, 1]
 have o1_0 := vB H0 hM hl 0
 have o1_1 := vB H0 hM hl 1
 clear hM hl l
 generalize J 0 = J1_0 at H1 o1_0 ⊢
 generalize J 1 = J1_1 at H1 o1_1 ⊢
 clear J
 refine rN (wp_seq ?_)
 refine zC 3 [.q (N 0), .q (N a), .call (N r)] H1 ?ho2 ?he2
 case ho2 => exact ak (by refine fun J => ⟨rfl, fun w' h => ?_⟩; clear h; exact ex_zero6 rfl) (bN 0 (ac (fun w' h => eC call24 (C0.out w')) trivial))
 intro _ w2 H2
 clear H1
 refine zG (l := [3]) rfl ?_
 refine sG rfl (fun h => zM h 1 rfl rfl rfl rfl (Nat.le_of_ble_eq_true rfl)) 1 [_, (_, zB r)] H2 o1_1 fun w3 H3 => ?_
 clear H2
 refine zE (zA (wp_ret ?_))
 repeat (first | refine zK ?_ | refine zI ?_)
 have c0 := H3.out.1.get 1 rfl 0 rfl
 have c1 := H3.out.1.get 1 rfl 1 rfl
 have c2 := H3.out.1.get 1 rfl 2 rfl
 have c3 := H3.out.1.get 1 rfl 3 rfl
 have c4 := H3.out.1.get 1 rfl 4 rfl
 have c5 := H3.out.1.get 1 rfl 5 rfl
 refine bodyPost_ret (v := N r) (by simp [results, Tryz.results30, go_sem, *]) rfl ?_
 exact ⟨rfl, H3.out.2⟩
set_option maxHeartbeats 1000000 in
theorem conj2_gen (a0 a1 m0 m1 r : Nat)
  (c0 : ∀ w, Calls Tryz.prog 21 #[V [a0, a1]] w (Rt w (V [m0, m1])))
  (c1 : ∀ w, Calls Tryz.prog 30 #[N m1] w (Rt w (N r))) (w : World) :
  Calls Tryz.prog 13 #[V [a0, a1]] w (Rt w (V [m0, r])) := by
 have H0 : Hid (_ ∧ _) := ⟨Mm.nil w, Below.refl w.heap.size w⟩
 have C0 : Hid _ := c0
 have C1 : Hid _ := c1
 clear c0 c1
 go_enter Tryz.func13, Tryz.ntmps13
 refine wp_seq ?_
 refine zD 2 [.made (cel [a0, a1]) 26, .made (cel [0, 0]) 26] (sB H0) ?ho1 ?he1
 case ho1 => exact am (zV rfl rfl) (am (zO rfl) trivial)
 intro J w1 l hM hl
 have H1 : Hid (Mm w1 [(J 0, cel [a0, a1]), (J 1, cel [0, 0])] ∧ _) := wB H0 hM hl [0, 1]
 have o1_0 := vB H0 hM hl 0
 have o1_1 := vB H0 hM hl 1
 clear hM hl l
 generalize J 0 = J1_0 at H1 o1_0 ⊢
 generalize J 1 = J1_1 at H1 o1_1 ⊢
 clear J
 refine rN (wp_seq ?_)
 refine zC 2 [.q (V [a0, a1]), .call (V [m0, m1])] H1 ?ho2 ?he2
 case ho2 => exact bA 0 2 0 Ai26 As26 (ac (fun w' h => eC call21 (C0.out w')) trivial)
 intro _ w2 H2
 clear H1
 refine zG (l := [2]) rfl ?_
 refine sF 0 [m0, m1] [_, _] H2 o1_0 As26 fun w3 H3 => ?_
 clear H2
 refine zE (zA (wp_seq ?_))
 refine zS 6 [.q (PT J1_0 0), .q (N m0), .q (PT J1_0 6), .q (N m1), .call (N r), .q (V [m0, r])] H3 ?ho3 ?he3
 case ho3 => exact ag (aq (fun w' h => zH (i := 0) h 0 rfl rfl rfl rfl) (ag (aq (fun w' h => zH (i := 1) h 0 rfl rfl rfl rfl) (ac (fun w' h => eC call30 (C1.out w')) (ak (fun J => ⟨rfl, fun w' _ => yC rfl rfl rfl⟩) trivial)))))
 intro _ w4 H4
 clear H3
 refine zG (l := [6]) rfl ?_
 refine sF 1 [m0, r] [_, _] H4 o1_1 As26 fun w5 H5 => ?_
 clear H4
 refine zE (zA (wp_ret ?_))
 repeat (first | refine zK ?_ | refine zI ?_)
 have hf0 := cel_var (k := 2) H5.out.1 1 rfl Ai26 As26 rfl
 refine bodyPost_ret (v := V [m0, r]) (by simp [results, Tryz.results13, asAddr, hf0]) rfl ?_
 exact ⟨rfl, H5.out.2⟩
set_option maxHeartbeats 1000000 in
theorem mulT_gen (n a0 a1 b0 b1 m0 m1 q0 q1 r0 r1 : Nat)
  (c0 : ∀ w, Calls Tryz.prog 26 #[] w fun e w' => Below w.heap.size w w' ∧ ∃ g, e = .returned (.agg #[PT g 0]) ∧ w.heap.size ≤ g ∧ g < w'.heap.size ∧ Blk w' g (modc n))
  (c1 : ∀ w, Calls Tryz.prog 21 #[V [a0, a1]] w (Rt w (V [m0, m1])))
  (c2 : ∀ w, Calls Tryz.prog 21 #[V [b0, b1]] w (Rt w (V [q0, q1])))
  (c3 : ∀ g w, Mm w [(g, modc n)] → Calls Tryz.prog 27 #[.agg #[PT g 0], V [m0, m1], V [q0, q1]] w (Rt w (V [r0, r1]))) (w : World) :
  Calls Tryz.prog 11 #[V [a0, a1], V [b0, b1]] w (Rt w (V [r0, r1])) := by
 have H0 : Hid (_ ∧ _) := ⟨Mm.nil w, Below.refl w.heap.size w⟩
 have C0 : Hid _ := c0
 have C1 : Hid _ := c1
 have C2 : Hid _ := c2
 have C3 : Hid _ := c3
 clear c0 c1 c2 c3
 go_enter Tryz.func11, Tryz.ntmps11
 refine wp_seq ?_
 refine zD 3 [.made (cel [a0, a1]) 26, .made (cel [b0, b1]) 26, .made (cel [0, 0]) 26] (sB H0) ?ho1 ?he1
 case ho1 => exact am (zV rfl rfl) (am (zV rfl rfl) (am (zO rfl) trivial))
 intro J w1 l hM hl
 have H1 : Hid (Mm w1 [(J 0, cel [a0, a1]), (J 1, cel [b0, b1]), (J 2, cel [0, 0])] ∧ _) := wB H0 hM hl [0, 1, 2]
 have o1_0 := vB H0 hM hl 0
 have o1_1 := vB H0 hM hl 1
 have o1_2 := vB H0 hM hl 2
 clear hM hl l
 generalize J 0 = J1_0 at H1 o1_0 ⊢
 generalize J 1 = J1_1 at H1 o1_1 ⊢
 generalize J 2 = J1_2 at H1 o1_2 ⊢
 clear J
 refine rN (wp_seq ?_)
 refine zQ 6 [.born (fun g => .agg #[PT g 0]) (modc n), .q (V [a0, a1]), .call (V [m0, m1]), .q (V [b0, b1]), .call (V [q0, q1]), .over (V [r0, r1]) 0 (modc n)] (sB H1) ?ho2 ?he2 (hL := ?hL2)
 case hL2 => exact ⟨⟨_, rfl⟩, trivial⟩
 case ho2 => exact ak (fun J => ⟨rfl, fun w' h => eC call26 (C0.out w')⟩) (bA 0 2 0 Ai26 As26 (ak (fun J => ⟨rfl, fun w' h => eC call21 (C1.out w')⟩) (bA 0 2 1 Ai26 As26 (ak (fun J => ⟨rfl, fun w' h => eC call21 (C2.out w')⟩) (ak (fun J => ⟨rfl, fun u w' h0 hge h1 hb hlt => by have h := Mm.over h0 hge h1 hb hlt; exact eC call27 (C3.out _ w' (h.one 0 rfl))⟩) trivial)))))
 intro J w2 l hM hl
 have H2 : Hid (Mm w2 ([(J 0, modc n)] ++ _) ∧ _) := wB H1 hM hl [0]
 have o2_0 := vB H1 hM hl 0
 clear hM hl l H1
 generalize J 0 = J2_0 at H2 o2_0 ⊢
 clear J
 refine zG (l := [6]) rfl ?_
 refine sF 3 [r0, r1] [_, _, _, _] H2 o1_2 As26 fun w3 H3 => ?_
 clear H2
 refine zE (zA (wp_ret ?_))
 repeat (first | refine zK ?_ | refine zI ?_)
 have hf0 := cel_var (k := 2) H3.out.1 3 rfl Ai26 As26 rfl
 refine bodyPost_ret (v := V [r0, r1]) (by simp [results, Tryz.results11, asAddr, hf0]) rfl ?_
 exact ⟨rfl, H3.out.2⟩
/-! Numbers by p stand for integers. -/
def pz (z : Int) : Nat := (z % (pB : Int)).toNat
theorem pBI : (0 : Int) < (pB : Int) := by have := pB_ok.pos; omega
theorem pz_cast (z : Int) : ((pz z : Nat) : Int) = z % (pB : Int) := Int.toNat_of_nonneg (Int.emod_nonneg _ (by have := pBI; omega))
theorem pz_lt (z : Int) : pz z < pB := by
 have h := pz_cast z
 have h2 := Int.emod_lt_of_pos z pBI
 omega
theorem pz_congr {x y : Int} (h : x % (pB : Int) = y % (pB : Int)) : pz x = pz y := by unfold pz; rw [h]
theorem pz_nat (n : Nat) : pz (n : Int) = n % pB := by
 have h := pz_cast (n : Int)
 rw [← Int.natCast_emod] at h
 omega
theorem pz_add (x y : Int) : pz ((pz x : Int) + (pz y : Int)) = pz (x + y) := pz_congr (by rw [pz_cast, pz_cast, ← Int.add_emod])
theorem pz_mul (x y : Int) : pz ((pz x : Int) * (pz y : Int)) = pz (x * y) := pz_congr (by rw [pz_cast, pz_cast, ← Int.mul_emod])
theorem pz_sub (x y : Int) : pz ((pz x : Int) - (pz y : Int)) = pz (x - y) := pz_congr (by rw [pz_cast, pz_cast, ← Int.sub_emod])
theorem pz_addmul (a b c d : Int) : pz ((pz a : Int) * (pz b : Int) + (pz c : Int) * (pz d : Int)) = pz (a * b + c * d) := by
 rw [← pz_add, pz_mul, pz_mul, pz_add]
theorem pz_submul (a b c d : Int) : pz ((pz a : Int) * (pz b : Int) - (pz c : Int) * (pz d : Int)) = pz (a * b - c * d) := by
 rw [← pz_sub, pz_mul, pz_mul, pz_sub]
theorem subm_pz (x y : Int) : subm pB (pz x) (pz y) = pz (x - y) := by
 have hy := pz_lt y
 rw [← pz_sub]
 unfold subm
 rw [Nat.mod_eq_of_lt hy, ← pz_nat]
 refine pz_congr ?_
 rw [show ((pz x + (pB - pz y) : Nat) : Int) = (pz x : Int) - (pz y : Int) + (pB : Int) by omega, Int.add_emod_right]
theorem nine_p : 9 * pB < big := by decide +kernel
theorem great_any (w : World) : Calls Tryz.prog 26 #[] w fun e w' => Below w.heap.size w w' ∧ ∃ g, e = .returned (.agg #[PT g 0]) ∧ w.heap.size ≤ g ∧ g < w'.heap.size ∧ Blk w' g (modc pB) :=
 great_gen pB base_pB (fun w => new_ok pB_ok w) w
/-- What rest takes: within twelve products. -/
def Wi (z : Int) : Prop := -(12 * ((pB : Int) * pB)) ≤ z ∧ z ≤ 12 * ((pB : Int) * pB)
theorem rest_num (z : Int) (h : Wi z) : (lo z + (hi z + 2 * pB) % big * big) % pB = pz z := by
 have hpos := pB_ok.pos
 have h9 := nine_p
 obtain ⟨h1, h2⟩ := h
 unfold pz
 generalize pB = p at *
 have e1 : wz z % big + (wz z / big + 2 * p) % big * big = (wz z + 2 * p * big) % bb := by
  unfold bb
  rw [Nat.mod_mul, Nat.add_mul_mod_self_right, Nat.add_mul_div_right _ _ big_pos, Nat.mul_comm big]
 have e2 : (((wz z + 2 * p * big) % bb : Nat) : Int) = z + 2 * p * big := by
  rw [Int.natCast_emod, Int.natCast_add, wz_cast, Int.natCast_mul, Int.natCast_mul, Int.emod_add_emod]
  refine Int.emod_eq_of_lt ?_ ?_
  ·have h3 : 6 * (p * p) ≤ p * big := by
    have : p * (6 * p) ≤ p * big := Nat.mul_le_mul (Nat.le_refl p) (by omega)
    rw [Nat.mul_left_comm] at this; exact this
   have h4 : 6 * ((p : Int) * p) ≤ (p : Int) * big := by
    have := Int.ofNat_le.2 h3
    simpa using this
   have h5 : ((2 : Nat) : Int) * (p : Int) * (big : Int) = 2 * ((p : Int) * big) := by rw [Int.mul_assoc]; rfl
   omega
  ·have h3 : 6 * (p * p) ≤ p * big := by
    have : p * (6 * p) ≤ p * big := Nat.mul_le_mul (Nat.le_refl p) (by omega)
    rw [Nat.mul_left_comm] at this; exact this
   have h4 : 6 * ((p : Int) * p) ≤ (p : Int) * big := by
    have := Int.ofNat_le.2 h3
    simpa using this
   have h6 : 4 * (p * big) < bb := by
    unfold bb
    rw [← Nat.mul_assoc]
    exact Nat.mul_lt_mul_of_pos_right (by omega) big_pos
   have h7 : 4 * ((p : Int) * big) < (bb : Int) := by
    have := Int.ofNat_lt.2 h6
    simpa using this
   have h5 : ((2 : Nat) : Int) * (p : Int) * (big : Int) = 2 * ((p : Int) * big) := by rw [Int.mul_assoc]; rfl
   omega
 have e3 : (((lo z + (hi z + 2 * p) % big * big) % p : Nat) : Int) = z % (p : Int) := by
  rw [e1, Int.natCast_emod, e2, show z + 2 * (p : Int) * big = z + (p : Int) * (2 * big) by rw [Int.mul_comm 2 (p : Int), Int.mul_assoc], Int.add_mul_emod_self_left]
 omega
theorem restF_any {g : Nat} (z : Int) (h : Wi z) (w : World) (hm : Mm w [(g, modc pB)]) : Calls Tryz.prog 69 #[.agg #[PT g 0], V [lo z, hi z]] w (Rt w (N (pz z))) := by
 have ok := pB_ok
 have h9 := nine_p
 have hr := rest_num z h
 have hlo : lo z < big := Nat.mod_lt _ big_pos
 have hhi : hi z < big := by
  have := wz_lt z
  unfold bb at this
  exact Nat.div_lt_of_lt_mul this
 have c1 := fun w hm => n_any (g := g) ok w hm
 have c2 := fun w => shift_up pB 1 (by decide) w
 have e2 : pB * 2 ^ 1 % big = 2 * pB := by rw [Nat.pow_one, Nat.mul_comm, Nat.mod_eq_of_lt (by omega)]
 rw [e2] at c2
 have c3 := fun w => add_any (hi z) (2 * pB) hhi (by omega) w
 have c4 := fun w hm => wide_any (g := g) ok hlo (Nat.mod_lt (hi z + 2 * pB) big_pos) w hm
 rw [hr] at c4
 exact rest_gen g pB _ _ (lo z) (hi z) _ _ _ _ c1 c2 c3 c4 w hm
theorem times2_any (a0 a1 b0 b1 : Nat) (ha : a0 + a1 < big) (hb : b0 + b1 < big) (w : World) : Calls Tryz.prog 50 #[V [a0, a1], V [b0, b1]] w (Rt w (V [lo ((a0 : Int) * b0 - (a1 : Int) * b1), hi ((a0 : Int) * b0 - (a1 : Int) * b1), lo ((a0 : Int) * b1 + (a1 : Int) * b0), hi ((a0 : Int) * b1 + (a1 : Int) * b0)])) := by
 have c8 := fun w => lessZ_any (((a0 + a1 : Nat) : Int) * ((b0 + b1 : Nat) : Int) - (a0 : Int) * b0) ((a1 : Int) * b1) w
 have e : ((a0 + a1 : Nat) : Int) * ((b0 + b1 : Nat) : Int) - (a0 : Int) * b0 - (a1 : Int) * b1 = (a0 : Int) * b1 + (a1 : Int) * b0 := by
  rw [Int.natCast_add, Int.natCast_add]
  grind
 rw [e] at c8
 exact times2_gen a0 a1 b0 b1 (a0 + a1) (b0 + b1) _ _ _ _ _ _ _ _ _ _ _ _ (fun w => timesZ_any a0 b0 (by omega) (by omega) w) (fun w => timesZ_any a1 b1 (by omega) (by omega) w) (fun w => together_any a0 a1 ha w) (fun w => together_any b0 b1 hb w) (fun w => timesZ_any (a0 + a1) (b0 + b1) ha hb w) (fun w => lessZ_any _ _ w) (fun w => lessZ_any _ _ w) c8 w
theorem mulF_any {g : Nat} (a0 a1 b0 b1 : Int) (w : World) (hm : Mm w [(g, modc pB)]) : Calls Tryz.prog 27 #[.agg #[PT g 0], V [pz a0, pz a1], V [pz b0, pz b1]] w (Rt w (V [pz (a0 * b0 - a1 * b1), pz (a0 * b1 + a1 * b0)])) := by
 have h9 := nine_p
 have la0 := pz_lt a0
 have la1 := pz_lt a1
 have lb0 := pz_lt b0
 have lb1 := pz_lt b1
 have hp : ∀ x y : Int, 0 ≤ (pz x : Int) * (pz y : Int) ∧ (pz x : Int) * (pz y : Int) ≤ (pB : Int) * pB := fun x y => by
  have h := Nat.mul_le_mul (Nat.le_of_lt (pz_lt x)) (Nat.le_of_lt (pz_lt y))
  rw [← Int.natCast_mul, ← Int.natCast_mul]
  omega
 have w0 : Wi ((pz a0 : Int) * pz b0 - (pz a1 : Int) * pz b1) := by have := hp a0 b0; have := hp a1 b1; unfold Wi; omega
 have w1 : Wi ((pz a0 : Int) * pz b1 + (pz a1 : Int) * pz b0) := by have := hp a0 b1; have := hp a1 b0; unfold Wi; omega
 have c2 := fun w hm => rest2_gen g pB (big % pB) (big * big % pB) _ _ _ _ _ _ (fun w hm => restF_any (g := g) _ w0 w hm) (fun w hm => restF_any (g := g) _ w1 w hm) w hm
 rw [pz_submul, pz_addmul] at c2
 exact mul2_gen g pB _ _ (pz a0) (pz a1) (pz b0) (pz b1) _ _ _ _ _ _ (fun w => times2_any (pz a0) (pz a1) (pz b0) (pz b1) (by omega) (by omega) w) c2 w hm
theorem left2_any (a0 a1 : Nat) (h0 : a0 < big) (h1 : a1 < big) (w : World) : Calls Tryz.prog 21 #[V [a0, a1]] w (Rt w (V [pz a0, pz a1])) := by
 rw [pz_nat, pz_nat]
 exact left2_gen a0 a1 _ _ (fun w => left_any a0 h0 w) (fun w => left_any a1 h1 w) w
theorem add2_any (a0 a1 b0 b1 : Nat) (h0 : a0 < big) (h1 : a1 < big) (k0 : b0 < big) (k1 : b1 < big) (w : World) : Calls Tryz.prog 5 #[V [a0, a1], V [b0, b1]] w (Rt w (V [pz ((a0 : Int) + b0), pz ((a1 : Int) + b1)])) := by
 have h9 := nine_p
 have s : ∀ x y : Int, ∀ w, Calls Tryz.prog 22 #[N (pz x), N (pz y)] w (Rt w (N (pz (x + y)))) := fun x y w => by
  have hx := pz_lt x
  have hy := pz_lt y
  have h := sumP_any (pz x) (pz y) (by omega) w
  rw [← pz_nat, Int.natCast_add, pz_add] at h
  exact h
 exact add2_gen a0 a1 b0 b1 _ _ _ _ _ _ (fun w => left2_any a0 a1 h0 h1 w) (fun w => left2_any b0 b1 k0 k1 w) (s _ _) (s _ _) w
theorem diffZ_any (x y : Int) (w : World) : Calls Tryz.prog 24 #[N (pz x), N (pz y)] w (Rt w (N (pz (x - y)))) := by
 have h := diffP_any (pz x) (pz y) (pz_lt x) (pz_lt y) w
 rw [subm_pz] at h
 exact h
theorem sub2_any (a0 a1 b0 b1 : Nat) (h0 : a0 < big) (h1 : a1 < big) (k0 : b0 < big) (k1 : b1 < big) (w : World) : Calls Tryz.prog 7 #[V [a0, a1], V [b0, b1]] w (Rt w (V [pz ((a0 : Int) - b0), pz ((a1 : Int) - b1)])) :=
 sub2_gen a0 a1 b0 b1 _ _ _ _ _ _ (fun w => left2_any a0 a1 h0 h1 w) (fun w => left2_any b0 b1 k0 k1 w) (fun w => diffZ_any _ _ w) (fun w => diffZ_any _ _ w) w
theorem neg2_any (a0 a1 : Nat) (h0 : a0 < big) (h1 : a1 < big) (w : World) : Calls Tryz.prog 9 #[V [a0, a1]] w (Rt w (V [pz (-(a0 : Int)), pz (-(a1 : Int))])) := by
 have c := fun w => sub2_any 0 0 a0 a1 big_pos big_pos h0 h1 w
 rw [show ((0 : Nat) : Int) - (a0 : Int) = -(a0 : Int) by omega, show ((0 : Nat) : Int) - (a1 : Int) = -(a1 : Int) by omega] at c
 exact neg2_gen a0 a1 _ _ c w
theorem pz_zero : pz 0 = 0 := by unfold pz; rw [Int.zero_emod]; rfl
theorem negated_any (x : Int) (w : World) : Calls Tryz.prog 30 #[N (pz x)] w (Rt w (N (pz (-x)))) := by
 have c := fun w => diffZ_any 0 x w
 rw [pz_zero, Int.zero_sub] at c
 exact negated_gen (pz x) _ c w
theorem conj2_any (a0 a1 : Nat) (h0 : a0 < big) (h1 : a1 < big) (w : World) : Calls Tryz.prog 13 #[V [a0, a1]] w (Rt w (V [pz a0, pz (-(a1 : Int))])) :=
 conj2_gen a0 a1 _ _ _ (fun w => left2_any a0 a1 h0 h1 w) (fun w => negated_any _ w) w
theorem mulT_any (a0 a1 b0 b1 : Nat) (h0 : a0 < big) (h1 : a1 < big) (k0 : b0 < big) (k1 : b1 < big) (w : World) : Calls Tryz.prog 11 #[V [a0, a1], V [b0, b1]] w (Rt w (V [pz ((a0 : Int) * b0 - (a1 : Int) * b1), pz ((a0 : Int) * b1 + (a1 : Int) * b0)])) :=
 mulT_gen pB a0 a1 b0 b1 _ _ _ _ _ _ great_any (fun w => left2_any a0 a1 h0 h1 w) (fun w => left2_any b0 b1 k0 k1 w) (fun g w hm => mulF_any (g := g) _ _ _ _ w hm) w
end Rg
end Go.Proofs.YtacicklddhehaaaGreatDoor
end
