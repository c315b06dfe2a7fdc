/- Texts of the proof, joined. -/
import Derived.Test.YtacicklddhehaaaGreatDoorP9
import Derived.ProofKit
import Derived.OpenShut
import Derived.Test.YtacicklddhehaaaGreatDoorRows
import Derived.LaidMore
import Derived.Stop.Joined
import Derived.Test.YtacicklddhehaaaGreatDoorTie
set_option maxRecDepth 100000
section
namespace Go.Proofs.YtacicklddhehaaaGreatDoor
open Go.RowKit
namespace Rg
set_option maxRecDepth 100000
set_option maxHeartbeats 8000000 in
theorem two_oz (a0 a1 b0 b1 x0 x1 y0 y1 p0 p1 q0 q1 n0 n1 m0 m1 j0 j1 r0 r1 : Nat)
  (e_p : ∀ w, (Op.equalIn 10000 26 (V [p0, p1]) (V [p0, p1])).run Tryz.prog w = .ok true w)
  (e_q : ∀ w, (Op.equalIn 10000 26 (V [q0, q1]) (V [q0, q1])).run Tryz.prog w = .ok true w)
  (e_n : ∀ w, (Op.equalIn 10000 26 (V [n0, n1]) (V [n0, n1])).run Tryz.prog w = .ok true w)
  (e_m : ∀ w, (Op.equalIn 10000 26 (V [m0, m1]) (V [m0, m1])).run Tryz.prog w = .ok true w)
  (e_j : ∀ w, (Op.equalIn 10000 26 (V [j0, j1]) (V [j0, j1])).run Tryz.prog w = .ok true w)
  (e_r : ∀ w, (Op.equalIn 10000 26 (V [r0, r1]) (V [r0, r1])).run Tryz.prog w = .ok true w)
  (e_x : ∀ w, (Op.equalIn 10000 26 (V [x0, x1]) (V [0, 0])).run Tryz.prog w = .ok true w)
  (e_z : ∀ w, (Op.equalIn 10000 26 (V [0, 0]) (V [0, 0])).run Tryz.prog w = .ok true w)
  (c0 : ∀ w, Calls Tryz.prog 4 #[V [a0, a1]] w (Rt w (V [x0, x1])))
  (c1 : ∀ w, Calls Tryz.prog 4 #[V [b0, b1]] w (Rt w (V [y0, y1])))
  (c2 : ∀ w, Calls Tryz.prog 5 #[V [a0, a1], V [b0, b1]] w (Rt w (V [p0, p1])))
  (c3 : ∀ w, Calls Tryz.prog 6 #[V [x0, x1], V [y0, y1]] w (Rt w (V [p0, p1])))
  (c4 : ∀ w, Calls Tryz.prog 7 #[V [a0, a1], V [b0, b1]] w (Rt w (V [q0, q1])))
  (c5 : ∀ w, Calls Tryz.prog 8 #[V [x0, x1], V [y0, y1]] w (Rt w (V [q0, q1])))
  (c6 : ∀ w, Calls Tryz.prog 9 #[V [a0, a1]] w (Rt w (V [n0, n1])))
  (c7 : ∀ w, Calls Tryz.prog 10 #[V [x0, x1]] w (Rt w (V [n0, n1])))
  (c8 : ∀ w, Calls Tryz.prog 11 #[V [a0, a1], V [b0, b1]] w (Rt w (V [m0, m1])))
  (c9 : ∀ w, Calls Tryz.prog 12 #[V [x0, x1], V [y0, y1]] w (Rt w (V [m0, m1])))
  (c10 : ∀ w, Calls Tryz.prog 13 #[V [a0, a1]] w (Rt w (V [j0, j1])))
  (c11 : ∀ w, Calls Tryz.prog 14 #[V [x0, x1]] w (Rt w (V [j0, j1])))
  (c12 : ∀ w, Mm w [(0, dtab)] → Calls Tryz.prog 15 #[V [a0, a1]] w (Rt w (.tuple #[V [0, 0], .int .i64 6])))
  (c13 : ∀ w, Mm w [(0, dtab)] → Calls Tryz.prog 16 #[V [a0, a1]] w (Rt w (.tuple #[V [r0, r1], .int .i64 0])))
  (c14 : ∀ w, Calls Tryz.prog 17 #[V [x0, x1]] w (Rt w (.tuple #[V [r0, r1], .bool true]))) (w : World) (hm : Mm w [(0, dtab)]) :
  Calls Tryz.prog 3 #[V [a0, a1], V [b0, b1]] w (Rt w (.bool true)) := by
 have H0 : Hid (_ ∧ _) := ⟨hm, Below.refl w.heap.size w⟩
 clear hm
 have C0 : Hid _ := c0
 have C1 : Hid _ := c1
 have C2 : Hid _ := c2
 have C3 : Hid _ := c3
 have C4 : Hid _ := c4
 have C5 : Hid _ := c5
 have C6 : Hid _ := c6
 have C7 : Hid _ := c7
 have C8 : Hid _ := c8
 have C9 : Hid _ := c9
 have C10 : Hid _ := c10
 have C11 : Hid _ := c11
 have C12 : Hid _ := c12
 have C13 : Hid _ := c13
 have C14 : Hid _ := c14
 clear c0 c1 c2 c3 c4 c5 c6 c7 c8 c9 c10 c11 c12 c13 c14
 go_enter Tryz.func3, Tryz.ntmps3
 refine wp_seq ?_
 refine zD 3 [.made (cel [a0, a1]) 26, .made (cel [b0, b1]) 26, .q (.bool false)] (sB H0) ?ho1 ?he1
 case ho1 => exact am (zV rfl rfl) (am (zV rfl rfl) (ar trivial))
 intro J w1 l hM hl
 have H1 : Hid (Mm w1 ([(J 0, cel [a0, a1]), (J 1, cel [b0, b1])] ++ _) ∧ _) := wB H0 hM hl [0, 1]
 have o1_0 := vB H0 hM hl 0
 have o1_1 := vB H0 hM hl 1
 clear hM hl l
 generalize J 0 = J1_0 at H1 o1_0 ⊢
 generalize J 1 = J1_1 at H1 o1_1 ⊢
 clear J
 refine rN (wp_seq ?_)
 refine zQ 8 [.q (V [a0, a1]), .call (V [x0, x1]), .q (V [b0, b1]), .call (V [y0, y1]), .made (cel [0, 0]) 26, .made (cel [0, 0]) 26, .laid 4 (cel [0, 0]) (cel [x0, x1]), .laid 5 (cel [0, 0]) (cel [y0, y1])] (sB H1) ?ho2 ?he2 (hL := ?hL2)
 case hL2 => exact ⟨⟨_, rfl⟩, ⟨_, rfl⟩, trivial⟩
 case ho2 => exact bA 0 2 0 Ai26 As26 (ac (fun w' h => eC call4 (C0.out w')) (bA 0 2 1 Ai26 As26 (ac (fun w' h => eC call4 (C1.out w')) (am (zO rfl) (am (zO rfl) (ak (fun J => ⟨rfl, rfl, rfl, fun w' h => ex_laidA h rfl As26 rfl rfl rfl⟩) (ak (fun J => ⟨rfl, rfl, rfl, fun w' h => ex_laidA h rfl As26 rfl rfl rfl⟩) trivial)))))))
 intro J w2 l hM hl
 have H2 : Hid (Mm w2 ([(J 4, cel [x0, x1]), (J 5, cel [y0, y1])] ++ _) ∧ _) := wB H1 hM hl [4, 5]
 have o2_4 := vB H1 hM hl 4
 have o2_5 := vB H1 hM hl 5
 clear hM hl l H1
 generalize J 4 = J2_4 at H2 o2_4 ⊢
 generalize J 5 = J2_5 at H2 o2_5 ⊢
 clear J
 refine rN (wp_seq (wp_seq ?_))
 refine zS 39 [.q (V [a0, a1]), .q (V [b0, b1]), .call (V [p0, p1]), .q (V [x0, x1]), .q (V [y0, y1]), .call (V [p0, p1]), .q (.bool false), .q (.bool false), .q (V [a0, a1]), .q (V [b0, b1]), .call (V [q0, q1]), .q (V [x0, x1]), .q (V [y0, y1]), .call (V [q0, q1]), .q (.bool false), .q (.bool false), .q (.bool false), .q (V [a0, a1]), .call (V [n0, n1]), .q (V [x0, x1]), .call (V [n0, n1]), .q (.bool false), .q (.bool false), .q (.bool false), .q (V [a0, a1]), .q (V [b0, b1]), .call (V [m0, m1]), .q (V [x0, x1]), .q (V [y0, y1]), .call (V [m0, m1]), .q (.bool false), .q (.bool false), .q (.bool false), .q (V [a0, a1]), .call (V [j0, j1]), .q (V [x0, x1]), .call (V [j0, j1]), .q (.bool false), .q (.bool false)] H2 ?ho3 ?he3 (hL := ?hL3)
 case hL3 => exact trivial
 case ho3 => exact bA 0 2 2 Ai26 As26 (bA 0 2 3 Ai26 As26 (ac (fun w' h => eC call5 (C2.out w')) (bA 0 2 0 Ai26 As26 (bA 0 2 1 Ai26 As26 (ac (fun w' h => eC call6 (C3.out w')) (ak (fun J => ⟨rfl, fun w' _ => exec_neqE2 e_p rfl rfl rfl⟩) (ar (bA 0 2 2 Ai26 As26 (bA 0 2 3 Ai26 As26 (ac (fun w' h => eC call7 (C4.out w')) (bA 0 2 0 Ai26 As26 (bA 0 2 1 Ai26 As26 (ac (fun w' h => eC call8 (C5.out w')) (ak (fun J => ⟨rfl, fun w' _ => exec_neqE2 e_q rfl rfl rfl⟩) (ag (ar (bA 0 2 2 Ai26 As26 (ac (fun w' h => eC call9 (C6.out w')) (bA 0 2 0 Ai26 As26 (ac (fun w' h => eC call10 (C7.out w')) (ak (fun J => ⟨rfl, fun w' _ => exec_neqE2 e_n rfl rfl rfl⟩) (ag (ar (bA 0 2 2 Ai26 As26 (bA 0 2 3 Ai26 As26 (ac (fun w' h => eC call11 (C8.out w')) (bA 0 2 0 Ai26 As26 (bA 0 2 1 Ai26 As26 (ac (fun w' h => eC call12 (C9.out w')) (ak (fun J => ⟨rfl, fun w' _ => exec_neqE2 e_m rfl rfl rfl⟩) (ag (ar (bA 0 2 2 Ai26 As26 (ac (fun w' h => eC call13 (C10.out w')) (bA 0 2 0 Ai26 As26 (ac (fun w' h => eC call14 (C11.out w')) (ak (fun J => ⟨rfl, fun w' _ => exec_neqE2 e_j rfl rfl rfl⟩) (ag trivial))))))))))))))))))))))))))))))))))))))
 intro _ w3 H3
 clear H2
 refine rN (wp_cond_false rfl ?_)
 refine wp_skip (zA (wp_seq ?_))
 refine zD 8 [.q (V [a0, a1]), .call (.tuple #[V [0, 0], .int .i64 6]), .q (.tuple #[V [0, 0], .int .i64 6]), .q (V [0, 0]), .q (.int .i64 6), .made (cel [0, 0]) 26, .laid 5 (cel [0, 0]) (cel [0, 0]), .q (.int .i64 6)] (sB H3) ?ho4 ?he4 (hL := ?hL4)
 case hL4 => exact ⟨⟨_, rfl⟩, trivial⟩
 case ho4 => exact bA 0 2 2 Ai26 As26 (ac (fun w' h => eC call15 (C12.out w' (h.one 4 rfl))) (ar (ag (ag (am (zO rfl) (ak (fun J => ⟨rfl, rfl, rfl, fun w' h => ex_laidA h rfl As26 rfl rfl rfl⟩) (ar trivial)))))))
 intro J w4 l hM hl
 have H4 : Hid (Mm w4 ([(J 5, cel [0, 0])] ++ _) ∧ _) := wB H3 hM hl [5]
 have o4_5 := vB H3 hM hl 5
 clear hM hl l H3
 generalize J 5 = J4_5 at H4 o4_5 ⊢
 clear J
 refine rN (wp_seq ?_)
 refine zD 8 [.q (V [a0, a1]), .call (.tuple #[V [r0, r1], .int .i64 0]), .q (.tuple #[V [r0, r1], .int .i64 0]), .q (V [r0, r1]), .q (.int .i64 0), .made (cel [0, 0]) 26, .laid 5 (cel [0, 0]) (cel [r0, r1]), .q (.int .i64 0)] (sB H4) ?ho5 ?he5 (hL := ?hL5)
 case hL5 => exact ⟨⟨_, rfl⟩, trivial⟩
 case ho5 => exact bA 0 2 3 Ai26 As26 (ac (fun w' h => eC call16 (C13.out w' (h.one 5 rfl))) (ar (ag (ag (am (zO rfl) (ak (fun J => ⟨rfl, rfl, rfl, fun w' h => ex_laidA h rfl As26 rfl rfl rfl⟩) (ar trivial)))))))
 intro J w5 l hM hl
 have H5 : Hid (Mm w5 ([(J 5, cel [r0, r1])] ++ _) ∧ _) := wB H4 hM hl [5]
 have o5_5 := vB H4 hM hl 5
 clear hM hl l H4
 generalize J 5 = J5_5 at H5 o5_5 ⊢
 clear J
 refine rN (wp_seq ?_)
 refine zD 8 [.q (V [x0, x1]), .call (.tuple #[V [r0, r1], .bool true]), .q (.tuple #[V [r0, r1], .bool true]), .q (V [r0, r1]), .q (.bool true), .made (cel [0, 0]) 26, .laid 5 (cel [0, 0]) (cel [r0, r1]), .q (.bool true)] (sB H5) ?ho6 ?he6 (hL := ?hL6)
 case hL6 => exact ⟨⟨_, rfl⟩, trivial⟩
 case ho6 => exact bA 0 2 2 Ai26 As26 (ac (fun w' h => eC call17 (C14.out w')) (ar (ag (ag (am (zO rfl) (ak (fun J => ⟨rfl, rfl, rfl, fun w' h => ex_laidA h rfl As26 rfl rfl rfl⟩) (ar trivial)))))))
 intro J w6 l hM hl
 have H6 : Hid (Mm w6 ([(J 5, cel [r0, r1])] ++ _) ∧ _) := wB H5 hM hl [5]
 have o6_5 := vB H5 hM hl 5
 clear hM hl l H5
 generalize J 5 = J6_5 at H6 o6_5 ⊢
 clear J
 refine rN (wp_seq (wp_seq ?_))
 refine zC 25 [.q (.bool true), .q (.int .i64 0), .q (.bool true), .q (.bool false), .q (.bool false), .q (.bool true), .q (.bool false), .q (.bool false), .gone, .gone, .gone, .gone, .gone, .gone, .gone, .q (.bool false), .q (.bool false), .q (.bool false), .q (.bool true), .q (.bool true), .q (V [r0, r1]), .q (V [r0, r1]), .q (.bool false), .q (.bool false), .q (.bool false)] H6 ?ho7 ?he7 (hL := ?hL7)
 case hL7 => exact trivial
 case ho7 => exact ar (ar (ag (ag (ar (ar (ag (ar (ak (fun J => rfl) (ak (fun J => rfl) (ak (fun J => rfl) (ak (fun J => rfl) (ak (fun J => rfl) (ak (fun J => rfl) (ak (fun J => rfl) (ag (ag (ar (ar (ar (bA 0 2 1 Ai26 As26 (bA 0 2 0 Ai26 As26 (ak (fun J => ⟨rfl, fun w' _ => exec_neqE2 e_r rfl rfl rfl⟩) (ag (ag trivial))))))))))))))))))))))))
 intro _ w7 H7
 clear H6
 refine rN (wp_cond_false rfl ?_)
 refine wp_skip (zA ?_)
 refine wp_seq (wp_seq ?_)
 refine zC 3 [.q (V [x0, x1]), .q (V [0, 0]), .q (.bool true)] H7 ?ho8 ?he8
 case ho8 => exact bA 0 2 3 Ai26 As26 (ak (fun J => ⟨rfl, fun w' _ => ex_buildE2z rfl⟩) (ak (fun J => ⟨rfl, fun w' _ => exec_eqE2 e_x rfl rfl rfl⟩) trivial))
 intro _ w8 H8
 clear H7
 refine rN (wp_cond_true rfl (wp_seq ?_))
 refine zC 8 [.q (V [0, 0]), .q (V [0, 0]), .q (.bool true), .q (.bool true), .q (.int .i64 6), .q (.bool true), .q (.bool true), .q (.bool true)] H8 ?ho9 ?he9
 case ho9 => exact bA 0 2 2 Ai26 As26 (ak (fun J => ⟨rfl, fun w' _ => ex_buildE2z rfl⟩) (ak (fun J => ⟨rfl, fun w' _ => exec_eqE2 e_z rfl rfl rfl⟩) (ar (ar (ag (ag (ar trivial)))))))
 intro _ w9 H9
 clear H8
 refine rN (wp_ret ?_)
 repeat (first | refine zK ?_ | refine zI ?_)
 refine bodyPost_ret (v := .bool true) (by simp [results, Tryz.results3, go_sem, *]) rfl ?_
 exact ⟨rfl, H9.out.2⟩
set_option maxHeartbeats 8000000 in
theorem two_on (a0 a1 b0 b1 x0 x1 y0 y1 p0 p1 q0 q1 n0 n1 m0 m1 j0 j1 i0 i1 r0 r1 : Nat)
  (e_p : ∀ w, (Op.equalIn 10000 26 (V [p0, p1]) (V [p0, p1])).run Tryz.prog w = .ok true w)
  (e_q : ∀ w, (Op.equalIn 10000 26 (V [q0, q1]) (V [q0, q1])).run Tryz.prog w = .ok true w)
  (e_n : ∀ w, (Op.equalIn 10000 26 (V [n0, n1]) (V [n0, n1])).run Tryz.prog w = .ok true w)
  (e_m : ∀ w, (Op.equalIn 10000 26 (V [m0, m1]) (V [m0, m1])).run Tryz.prog w = .ok true w)
  (e_j : ∀ w, (Op.equalIn 10000 26 (V [j0, j1]) (V [j0, j1])).run Tryz.prog w = .ok true w)
  (e_i : ∀ w, (Op.equalIn 10000 26 (V [i0, i1]) (V [i0, i1])).run Tryz.prog w = .ok true w)
  (e_r : ∀ w, (Op.equalIn 10000 26 (V [r0, r1]) (V [r0, r1])).run Tryz.prog w = .ok true w)
  (e_x : ∀ w, (Op.equalIn 10000 26 (V [x0, x1]) (V [0, 0])).run Tryz.prog w = .ok false w)
  (c0 : ∀ w, Calls Tryz.prog 4 #[V [a0, a1]] w (Rt w (V [x0, x1])))
  (c1 : ∀ w, Calls Tryz.prog 4 #[V [b0, b1]] w (Rt w (V [y0, y1])))
  (c2 : ∀ w, Calls Tryz.prog 5 #[V [a0, a1], V [b0, b1]] w (Rt w (V [p0, p1])))
  (c3 : ∀ w, Calls Tryz.prog 6 #[V [x0, x1], V [y0, y1]] w (Rt w (V [p0, p1])))
  (c4 : ∀ w, Calls Tryz.prog 7 #[V [a0, a1], V [b0, b1]] w (Rt w (V [q0, q1])))
  (c5 : ∀ w, Calls Tryz.prog 8 #[V [x0, x1], V [y0, y1]] w (Rt w (V [q0, q1])))
  (c6 : ∀ w, Calls Tryz.prog 9 #[V [a0, a1]] w (Rt w (V [n0, n1])))
  (c7 : ∀ w, Calls Tryz.prog 10 #[V [x0, x1]] w (Rt w (V [n0, n1])))
  (c8 : ∀ w, Calls Tryz.prog 11 #[V [a0, a1], V [b0, b1]] w (Rt w (V [m0, m1])))
  (c9 : ∀ w, Calls Tryz.prog 12 #[V [x0, x1], V [y0, y1]] w (Rt w (V [m0, m1])))
  (c10 : ∀ w, Calls Tryz.prog 13 #[V [a0, a1]] w (Rt w (V [j0, j1])))
  (c11 : ∀ w, Calls Tryz.prog 14 #[V [x0, x1]] w (Rt w (V [j0, j1])))
  (c12 : ∀ w, Mm w [(0, dtab)] → Calls Tryz.prog 15 #[V [a0, a1]] w (Rt w (.tuple #[V [i0, i1], .int .i64 0])))
  (c13 : ∀ w, Calls Tryz.prog 18 #[V [x0, x1]] w (Rt w (V [i0, i1])))
  (c14 : ∀ w, Mm w [(0, dtab)] → Calls Tryz.prog 16 #[V [a0, a1]] w (Rt w (.tuple #[V [r0, r1], .int .i64 0])))
  (c15 : ∀ w, Calls Tryz.prog 17 #[V [x0, x1]] w (Rt w (.tuple #[V [r0, r1], .bool true]))) (w : World) (hm : Mm w [(0, dtab)]) :
  Calls Tryz.prog 3 #[V [a0, a1], V [b0, b1]] w (Rt w (.bool true)) := by
 have H0 : Hid (_ ∧ _) := ⟨hm, Below.refl w.heap.size w⟩
 clear hm
 have C0 : Hid _ := c0
 have C1 : Hid _ := c1
 have C2 : Hid _ := c2
 have C3 : Hid _ := c3
 have C4 : Hid _ := c4
 have C5 : Hid _ := c5
 have C6 : Hid _ := c6
 have C7 : Hid _ := c7
 have C8 : Hid _ := c8
 have C9 : Hid _ := c9
 have C10 : Hid _ := c10
 have C11 : Hid _ := c11
 have C12 : Hid _ := c12
 have C13 : Hid _ := c13
 have C14 : Hid _ := c14
 have C15 : Hid _ := c15
 clear c0 c1 c2 c3 c4 c5 c6 c7 c8 c9 c10 c11 c12 c13 c14 c15
 go_enter Tryz.func3, Tryz.ntmps3
 refine wp_seq ?_
 refine zD 3 [.made (cel [a0, a1]) 26, .made (cel [b0, b1]) 26, .q (.bool false)] (sB H0) ?ho1 ?he1
 case ho1 => exact am (zV rfl rfl) (am (zV rfl rfl) (ar trivial))
 intro J w1 l hM hl
 have H1 : Hid (Mm w1 ([(J 0, cel [a0, a1]), (J 1, cel [b0, b1])] ++ _) ∧ _) := wB H0 hM hl [0, 1]
 have o1_0 := vB H0 hM hl 0
 have o1_1 := vB H0 hM hl 1
 clear hM hl l
 generalize J 0 = J1_0 at H1 o1_0 ⊢
 generalize J 1 = J1_1 at H1 o1_1 ⊢
 clear J
 refine rN (wp_seq ?_)
 refine zQ 8 [.q (V [a0, a1]), .call (V [x0, x1]), .q (V [b0, b1]), .call (V [y0, y1]), .made (cel [0, 0]) 26, .made (cel [0, 0]) 26, .laid 4 (cel [0, 0]) (cel [x0, x1]), .laid 5 (cel [0, 0]) (cel [y0, y1])] (sB H1) ?ho2 ?he2 (hL := ?hL2)
 case hL2 => exact ⟨⟨_, rfl⟩, ⟨_, rfl⟩, trivial⟩
 case ho2 => exact bA 0 2 0 Ai26 As26 (ac (fun w' h => eC call4 (C0.out w')) (bA 0 2 1 Ai26 As26 (ac (fun w' h => eC call4 (C1.out w')) (am (zO rfl) (am (zO rfl) (ak (fun J => ⟨rfl, rfl, rfl, fun w' h => ex_laidA h rfl As26 rfl rfl rfl⟩) (ak (fun J => ⟨rfl, rfl, rfl, fun w' h => ex_laidA h rfl As26 rfl rfl rfl⟩) trivial)))))))
 intro J w2 l hM hl
 have H2 : Hid (Mm w2 ([(J 4, cel [x0, x1]), (J 5, cel [y0, y1])] ++ _) ∧ _) := wB H1 hM hl [4, 5]
 have o2_4 := vB H1 hM hl 4
 have o2_5 := vB H1 hM hl 5
 clear hM hl l H1
 generalize J 4 = J2_4 at H2 o2_4 ⊢
 generalize J 5 = J2_5 at H2 o2_5 ⊢
 clear J
 refine rN (wp_seq (wp_seq ?_))
 refine zS 39 [.q (V [a0, a1]), .q (V [b0, b1]), .call (V [p0, p1]), .q (V [x0, x1]), .q (V [y0, y1]), .call (V [p0, p1]), .q (.bool false), .q (.bool false), .q (V [a0, a1]), .q (V [b0, b1]), .call (V [q0, q1]), .q (V [x0, x1]), .q (V [y0, y1]), .call (V [q0, q1]), .q (.bool false), .q (.bool false), .q (.bool false), .q (V [a0, a1]), .call (V [n0, n1]), .q (V [x0, x1]), .call (V [n0, n1]), .q (.bool false), .q (.bool false), .q (.bool false), .q (V [a0, a1]), .q (V [b0, b1]), .call (V [m0, m1]), .q (V [x0, x1]), .q (V [y0, y1]), .call (V [m0, m1]), .q (.bool false), .q (.bool false), .q (.bool false), .q (V [a0, a1]), .call (V [j0, j1]), .q (V [x0, x1]), .call (V [j0, j1]), .q (.bool false), .q (.bool false)] H2 ?ho3 ?he3 (hL := ?hL3)
 case hL3 => exact trivial
 case ho3 => exact bA 0 2 2 Ai26 As26 (bA 0 2 3 Ai26 As26 (ac (fun w' h => eC call5 (C2.out w')) (bA 0 2 0 Ai26 As26 (bA 0 2 1 Ai26 As26 (ac (fun w' h => eC call6 (C3.out w')) (ak (fun J => ⟨rfl, fun w' _ => exec_neqE2 e_p rfl rfl rfl⟩) (ar (bA 0 2 2 Ai26 As26 (bA 0 2 3 Ai26 As26 (ac (fun w' h => eC call7 (C4.out w')) (bA 0 2 0 Ai26 As26 (bA 0 2 1 Ai26 As26 (ac (fun w' h => eC call8 (C5.out w')) (ak (fun J => ⟨rfl, fun w' _ => exec_neqE2 e_q rfl rfl rfl⟩) (ag (ar (bA 0 2 2 Ai26 As26 (ac (fun w' h => eC call9 (C6.out w')) (bA 0 2 0 Ai26 As26 (ac (fun w' h => eC call10 (C7.out w')) (ak (fun J => ⟨rfl, fun w' _ => exec_neqE2 e_n rfl rfl rfl⟩) (ag (ar (bA 0 2 2 Ai26 As26 (bA 0 2 3 Ai26 As26 (ac (fun w' h => eC call11 (C8.out w')) (bA 0 2 0 Ai26 As26 (bA 0 2 1 Ai26 As26 (ac (fun w' h => eC call12 (C9.out w')) (ak (fun J => ⟨rfl, fun w' _ => exec_neqE2 e_m rfl rfl rfl⟩) (ag (ar (bA 0 2 2 Ai26 As26 (ac (fun w' h => eC call13 (C10.out w')) (bA 0 2 0 Ai26 As26 (ac (fun w' h => eC call14 (C11.out w')) (ak (fun J => ⟨rfl, fun w' _ => exec_neqE2 e_j rfl rfl rfl⟩) (ag trivial))))))))))))))))))))))))))))))))))))))
 intro _ w3 H3
 clear H2
 refine rN (wp_cond_false rfl ?_)
 refine wp_skip (zA (wp_seq ?_))
 refine zD 8 [.q (V [a0, a1]), .call (.tuple #[V [i0, i1], .int .i64 0]), .q (.tuple #[V [i0, i1], .int .i64 0]), .q (V [i0, i1]), .q (.int .i64 0), .made (cel [0, 0]) 26, .laid 5 (cel [0, 0]) (cel [i0, i1]), .q (.int .i64 0)] (sB H3) ?ho4 ?he4 (hL := ?hL4)
 case hL4 => exact ⟨⟨_, rfl⟩, trivial⟩
 case ho4 => exact bA 0 2 2 Ai26 As26 (ac (fun w' h => eC call15 (C12.out w' (h.one 4 rfl))) (ar (ag (ag (am (zO rfl) (ak (fun J => ⟨rfl, rfl, rfl, fun w' h => ex_laidA h rfl As26 rfl rfl rfl⟩) (ar trivial)))))))
 intro J w4 l hM hl
 have H4 : Hid (Mm w4 ([(J 5, cel [i0, i1])] ++ _) ∧ _) := wB H3 hM hl [5]
 have o4_5 := vB H3 hM hl 5
 clear hM hl l H3
 generalize J 5 = J4_5 at H4 o4_5 ⊢
 clear J
 refine rN (wp_seq ?_)
 refine zD 8 [.q (V [a0, a1]), .call (.tuple #[V [r0, r1], .int .i64 0]), .q (.tuple #[V [r0, r1], .int .i64 0]), .q (V [r0, r1]), .q (.int .i64 0), .made (cel [0, 0]) 26, .laid 5 (cel [0, 0]) (cel [r0, r1]), .q (.int .i64 0)] (sB H4) ?ho5 ?he5 (hL := ?hL5)
 case hL5 => exact ⟨⟨_, rfl⟩, trivial⟩
 case ho5 => exact bA 0 2 3 Ai26 As26 (ac (fun w' h => eC call16 (C14.out w' (h.one 5 rfl))) (ar (ag (ag (am (zO rfl) (ak (fun J => ⟨rfl, rfl, rfl, fun w' h => ex_laidA h rfl As26 rfl rfl rfl⟩) (ar trivial)))))))
 intro J w5 l hM hl
 have H5 : Hid (Mm w5 ([(J 5, cel [r0, r1])] ++ _) ∧ _) := wB H4 hM hl [5]
 have o5_5 := vB H4 hM hl 5
 clear hM hl l H4
 generalize J 5 = J5_5 at H5 o5_5 ⊢
 clear J
 refine rN (wp_seq ?_)
 refine zD 8 [.q (V [x0, x1]), .call (.tuple #[V [r0, r1], .bool true]), .q (.tuple #[V [r0, r1], .bool true]), .q (V [r0, r1]), .q (.bool true), .made (cel [0, 0]) 26, .laid 5 (cel [0, 0]) (cel [r0, r1]), .q (.bool true)] (sB H5) ?ho6 ?he6 (hL := ?hL6)
 case hL6 => exact ⟨⟨_, rfl⟩, trivial⟩
 case ho6 => exact bA 0 2 2 Ai26 As26 (ac (fun w' h => eC call17 (C15.out w')) (ar (ag (ag (am (zO rfl) (ak (fun J => ⟨rfl, rfl, rfl, fun w' h => ex_laidA h rfl As26 rfl rfl rfl⟩) (ar trivial)))))))
 intro J w6 l hM hl
 have H6 : Hid (Mm w6 ([(J 5, cel [r0, r1])] ++ _) ∧ _) := wB H5 hM hl [5]
 have o6_5 := vB H5 hM hl 5
 clear hM hl l H5
 generalize J 5 = J6_5 at H6 o6_5 ⊢
 clear J
 refine rN (wp_seq (wp_seq ?_))
 refine zC 25 [.q (.bool true), .q (.int .i64 0), .q (.bool true), .q (.bool false), .q (.bool false), .q (.bool true), .q (.bool false), .q (.bool false), .gone, .gone, .gone, .gone, .gone, .gone, .gone, .q (.bool false), .q (.bool false), .q (.bool false), .q (.bool true), .q (.bool true), .q (V [r0, r1]), .q (V [r0, r1]), .q (.bool false), .q (.bool false), .q (.bool false)] H6 ?ho7 ?he7 (hL := ?hL7)
 case hL7 => exact trivial
 case ho7 => exact ar (ar (ag (ag (ar (ar (ag (ar (ak (fun J => rfl) (ak (fun J => rfl) (ak (fun J => rfl) (ak (fun J => rfl) (ak (fun J => rfl) (ak (fun J => rfl) (ak (fun J => rfl) (ag (ag (ar (ar (ar (bA 0 2 1 Ai26 As26 (bA 0 2 0 Ai26 As26 (ak (fun J => ⟨rfl, fun w' _ => exec_neqE2 e_r rfl rfl rfl⟩) (ag (ag trivial))))))))))))))))))))))))
 intro _ w7 H7
 clear H6
 refine rN (wp_cond_false rfl ?_)
 refine wp_skip (zA ?_)
 refine wp_seq (wp_seq ?_)
 refine zC 3 [.q (V [x0, x1]), .q (V [0, 0]), .q (.bool false)] H7 ?ho8 ?he8
 case ho8 => exact bA 0 2 3 Ai26 As26 (ak (fun J => ⟨rfl, fun w' _ => ex_buildE2z rfl⟩) (ak (fun J => ⟨rfl, fun w' _ => exec_eqE2 e_x rfl rfl rfl⟩) trivial))
 intro _ w8 H8
 clear H7
 refine rN (wp_cond_false rfl ?_)
 refine wp_skip (zA (wp_seq ?_))
 refine zS 9 [.q (V [i0, i1]), .q (V [x0, x1]), .call (V [i0, i1]), .q (.bool true), .q (.bool true), .q (.int .i64 0), .q (.bool true), .q (.bool true), .q (.bool true)] H8 ?ho9 ?he9
 case ho9 => exact bA 0 2 2 Ai26 As26 (bA 0 2 3 Ai26 As26 (ac (fun w' h => eC call18 (C13.out w')) (ak (fun J => ⟨rfl, fun w' _ => exec_eqE2 e_i rfl rfl rfl⟩) (ar (ar (ag (ag (ar trivial))))))))
 intro _ w9 H9
 clear H8
 refine rN (wp_ret ?_)
 repeat (first | refine zK ?_ | refine zI ?_)
 refine bodyPost_ret (v := .bool true) (by simp [results, Tryz.results3, go_sem, *]) rfl ?_
 exact ⟨rfl, H9.out.2⟩
set_option maxHeartbeats 8000000 in
theorem two_nz (a0 a1 b0 b1 x0 x1 y0 y1 p0 p1 q0 q1 n0 n1 m0 m1 j0 j1 : Nat)
  (e_p : ∀ w, (Op.equalIn 10000 26 (V [p0, p1]) (V [p0, p1])).run Tryz.prog w = .ok true w)
  (e_q : ∀ w, (Op.equalIn 10000 26 (V [q0, q1]) (V [q0, q1])).run Tryz.prog w = .ok true w)
  (e_n : ∀ w, (Op.equalIn 10000 26 (V [n0, n1]) (V [n0, n1])).run Tryz.prog w = .ok true w)
  (e_m : ∀ w, (Op.equalIn 10000 26 (V [m0, m1]) (V [m0, m1])).run Tryz.prog w = .ok true w)
  (e_j : ∀ w, (Op.equalIn 10000 26 (V [j0, j1]) (V [j0, j1])).run Tryz.prog w = .ok true w)
  (e_x : ∀ w, (Op.equalIn 10000 26 (V [x0, x1]) (V [0, 0])).run Tryz.prog w = .ok true w)
  (e_z : ∀ w, (Op.equalIn 10000 26 (V [0, 0]) (V [0, 0])).run Tryz.prog w = .ok true w)
  (c0 : ∀ w, Calls Tryz.prog 4 #[V [a0, a1]] w (Rt w (V [x0, x1])))
  (c1 : ∀ w, Calls Tryz.prog 4 #[V [b0, b1]] w (Rt w (V [y0, y1])))
  (c2 : ∀ w, Calls Tryz.prog 5 #[V [a0, a1], V [b0, b1]] w (Rt w (V [p0, p1])))
  (c3 : ∀ w, Calls Tryz.prog 6 #[V [x0, x1], V [y0, y1]] w (Rt w (V [p0, p1])))
  (c4 : ∀ w, Calls Tryz.prog 7 #[V [a0, a1], V [b0, b1]] w (Rt w (V [q0, q1])))
  (c5 : ∀ w, Calls Tryz.prog 8 #[V [x0, x1], V [y0, y1]] w (Rt w (V [q0, q1])))
  (c6 : ∀ w, Calls Tryz.prog 9 #[V [a0, a1]] w (Rt w (V [n0, n1])))
  (c7 : ∀ w, Calls Tryz.prog 10 #[V [x0, x1]] w (Rt w (V [n0, n1])))
  (c8 : ∀ w, Calls Tryz.prog 11 #[V [a0, a1], V [b0, b1]] w (Rt w (V [m0, m1])))
  (c9 : ∀ w, Calls Tryz.prog 12 #[V [x0, x1], V [y0, y1]] w (Rt w (V [m0, m1])))
  (c10 : ∀ w, Calls Tryz.prog 13 #[V [a0, a1]] w (Rt w (V [j0, j1])))
  (c11 : ∀ w, Calls Tryz.prog 14 #[V [x0, x1]] w (Rt w (V [j0, j1])))
  (c12 : ∀ w, Mm w [(0, dtab)] → Calls Tryz.prog 15 #[V [a0, a1]] w (Rt w (.tuple #[V [0, 0], .int .i64 6])))
  (c13 : ∀ w, Mm w [(0, dtab)] → Calls Tryz.prog 16 #[V [a0, a1]] w (Rt w (.tuple #[V [0, 0], .int .i64 6])))
  (c14 : ∀ w, Calls Tryz.prog 17 #[V [x0, x1]] w (Rt w (.tuple #[V [0, 0], .bool false]))) (w : World) (hm : Mm w [(0, dtab)]) :
  Calls Tryz.prog 3 #[V [a0, a1], V [b0, b1]] w (Rt w (.bool true)) := by
 have H0 : Hid (_ ∧ _) := ⟨hm, Below.refl w.heap.size w⟩
 clear hm
 have C0 : Hid _ := c0
 have C1 : Hid _ := c1
 have C2 : Hid _ := c2
 have C3 : Hid _ := c3
 have C4 : Hid _ := c4
 have C5 : Hid _ := c5
 have C6 : Hid _ := c6
 have C7 : Hid _ := c7
 have C8 : Hid _ := c8
 have C9 : Hid _ := c9
 have C10 : Hid _ := c10
 have C11 : Hid _ := c11
 have C12 : Hid _ := c12
 have C13 : Hid _ := c13
 have C14 : Hid _ := c14
 clear c0 c1 c2 c3 c4 c5 c6 c7 c8 c9 c10 c11 c12 c13 c14
 go_enter Tryz.func3, Tryz.ntmps3
 refine wp_seq ?_
 refine zD 3 [.made (cel [a0, a1]) 26, .made (cel [b0, b1]) 26, .q (.bool false)] (sB H0) ?ho1 ?he1
 case ho1 => exact am (zV rfl rfl) (am (zV rfl rfl) (ar trivial))
 intro J w1 l hM hl
 have H1 : Hid (Mm w1 ([(J 0, cel [a0, a1]), (J 1, cel [b0, b1])] ++ _) ∧ _) := wB H0 hM hl [0, 1]
 have o1_0 := vB H0 hM hl 0
 have o1_1 := vB H0 hM hl 1
 clear hM hl l
 generalize J 0 = J1_0 at H1 o1_0 ⊢
 generalize J 1 = J1_1 at H1 o1_1 ⊢
 clear J
 refine rN (wp_seq ?_)
 refine zQ 8 [.q (V [a0, a1]), .call (V [x0, x1]), .q (V [b0, b1]), .call (V [y0, y1]), .made (cel [0, 0]) 26, .made (cel [0, 0]) 26, .laid 4 (cel [0, 0]) (cel [x0, x1]), .laid 5 (cel [0, 0]) (cel [y0, y1])] (sB H1) ?ho2 ?he2 (hL := ?hL2)
 case hL2 => exact ⟨⟨_, rfl⟩, ⟨_, rfl⟩, trivial⟩
 case ho2 => exact bA 0 2 0 Ai26 As26 (ac (fun w' h => eC call4 (C0.out w')) (bA 0 2 1 Ai26 As26 (ac (fun w' h => eC call4 (C1.out w')) (am (zO rfl) (am (zO rfl) (ak (fun J => ⟨rfl, rfl, rfl, fun w' h => ex_laidA h rfl As26 rfl rfl rfl⟩) (ak (fun J => ⟨rfl, rfl, rfl, fun w' h => ex_laidA h rfl As26 rfl rfl rfl⟩) trivial)))))))
 intro J w2 l hM hl
 have H2 : Hid (Mm w2 ([(J 4, cel [x0, x1]), (J 5, cel [y0, y1])] ++ _) ∧ _) := wB H1 hM hl [4, 5]
 have o2_4 := vB H1 hM hl 4
 have o2_5 := vB H1 hM hl 5
 clear hM hl l H1
 generalize J 4 = J2_4 at H2 o2_4 ⊢
 generalize J 5 = J2_5 at H2 o2_5 ⊢
 clear J
 refine rN (wp_seq (wp_seq ?_))
 refine zS 39 [.q (V [a0, a1]), .q (V [b0, b1]), .call (V [p0, p1]), .q (V [x0, x1]), .q (V [y0, y1]), .call (V [p0, p1]), .q (.bool false), .q (.bool false), .q (V [a0, a1]), .q (V [b0, b1]), .call (V [q0, q1]), .q (V [x0, x1]), .q (V [y0, y1]), .call (V [q0, q1]), .q (.bool false), .q (.bool false), .q (.bool false), .q (V [a0, a1]), .call (V [n0, n1]), .q (V [x0, x1]), .call (V [n0, n1]), .q (.bool false), .q (.bool false), .q (.bool false), .q (V [a0, a1]), .q (V [b0, b1]), .call (V [m0, m1]), .q (V [x0, x1]), .q (V [y0, y1]), .call (V [m0, m1]), .q (.bool false), .q (.bool false), .q (.bool false), .q (V [a0, a1]), .call (V [j0, j1]), .q (V [x0, x1]), .call (V [j0, j1]), .q (.bool false), .q (.bool false)] H2 ?ho3 ?he3 (hL := ?hL3)
 case hL3 => exact trivial
 case ho3 => exact bA 0 2 2 Ai26 As26 (bA 0 2 3 Ai26 As26 (ac (fun w' h => eC call5 (C2.out w')) (bA 0 2 0 Ai26 As26 (bA 0 2 1 Ai26 As26 (ac (fun w' h => eC call6 (C3.out w')) (ak (fun J => ⟨rfl, fun w' _ => exec_neqE2 e_p rfl rfl rfl⟩) (ar (bA 0 2 2 Ai26 As26 (bA 0 2 3 Ai26 As26 (ac (fun w' h => eC call7 (C4.out w')) (bA 0 2 0 Ai26 As26 (bA 0 2 1 Ai26 As26 (ac (fun w' h => eC call8 (C5.out w')) (ak (fun J => ⟨rfl, fun w' _ => exec_neqE2 e_q rfl rfl rfl⟩) (ag (ar (bA 0 2 2 Ai26 As26 (ac (fun w' h => eC call9 (C6.out w')) (bA 0 2 0 Ai26 As26 (ac (fun w' h => eC call10 (C7.out w')) (ak (fun J => ⟨rfl, fun w' _ => exec_neqE2 e_n rfl rfl rfl⟩) (ag (ar (bA 0 2 2 Ai26 As26 (bA 0 2 3 Ai26 As26 (ac (fun w' h => eC call11 (C8.out w')) (bA 0 2 0 Ai26 As26 (bA 0 2 1 Ai26 As26 (ac (fun w' h => eC call12 (C9.out w')) (ak (fun J => ⟨rfl, fun w' _ => exec_neqE2 e_m rfl rfl rfl⟩) (ag (ar (bA 0 2 2 Ai26 As26 (ac (fun w' h => eC call13 (C10.out w')) (bA 0 2 0 Ai26 As26 (ac (fun w' h => eC call14 (C11.out w')) (ak (fun J => ⟨rfl, fun w' _ => exec_neqE2 e_j rfl rfl rfl⟩) (ag trivial))))))))))))))))))))))))))))))))))))))
 intro _ w3 H3
 clear H2
 refine rN (wp_cond_false rfl ?_)
 refine wp_skip (zA (wp_seq ?_))
 refine zD 8 [.q (V [a0, a1]), .call (.tuple #[V [0, 0], .int .i64 6]), .q (.tuple #[V [0, 0], .int .i64 6]), .q (V [0, 0]), .q (.int .i64 6), .made (cel [0, 0]) 26, .laid 5 (cel [0, 0]) (cel [0, 0]), .q (.int .i64 6)] (sB H3) ?ho4 ?he4 (hL := ?hL4)
 case hL4 => exact ⟨⟨_, rfl⟩, trivial⟩
 case ho4 => exact bA 0 2 2 Ai26 As26 (ac (fun w' h => eC call15 (C12.out w' (h.one 4 rfl))) (ar (ag (ag (am (zO rfl) (ak (fun J => ⟨rfl, rfl, rfl, fun w' h => ex_laidA h rfl As26 rfl rfl rfl⟩) (ar trivial)))))))
 intro J w4 l hM hl
 have H4 : Hid (Mm w4 ([(J 5, cel [0, 0])] ++ _) ∧ _) := wB H3 hM hl [5]
 have o4_5 := vB H3 hM hl 5
 clear hM hl l H3
 generalize J 5 = J4_5 at H4 o4_5 ⊢
 clear J
 refine rN (wp_seq ?_)
 refine zD 8 [.q (V [a0, a1]), .call (.tuple #[V [0, 0], .int .i64 6]), .q (.tuple #[V [0, 0], .int .i64 6]), .q (V [0, 0]), .q (.int .i64 6), .made (cel [0, 0]) 26, .laid 5 (cel [0, 0]) (cel [0, 0]), .q (.int .i64 6)] (sB H4) ?ho5 ?he5 (hL := ?hL5)
 case hL5 => exact ⟨⟨_, rfl⟩, trivial⟩
 case ho5 => exact bA 0 2 3 Ai26 As26 (ac (fun w' h => eC call16 (C13.out w' (h.one 5 rfl))) (ar (ag (ag (am (zO rfl) (ak (fun J => ⟨rfl, rfl, rfl, fun w' h => ex_laidA h rfl As26 rfl rfl rfl⟩) (ar trivial)))))))
 intro J w5 l hM hl
 have H5 : Hid (Mm w5 ([(J 5, cel [0, 0])] ++ _) ∧ _) := wB H4 hM hl [5]
 have o5_5 := vB H4 hM hl 5
 clear hM hl l H4
 generalize J 5 = J5_5 at H5 o5_5 ⊢
 clear J
 refine rN (wp_seq ?_)
 refine zD 8 [.q (V [x0, x1]), .call (.tuple #[V [0, 0], .bool false]), .q (.tuple #[V [0, 0], .bool false]), .q (V [0, 0]), .q (.bool false), .made (cel [0, 0]) 26, .laid 5 (cel [0, 0]) (cel [0, 0]), .q (.bool false)] (sB H5) ?ho6 ?he6 (hL := ?hL6)
 case hL6 => exact ⟨⟨_, rfl⟩, trivial⟩
 case ho6 => exact bA 0 2 2 Ai26 As26 (ac (fun w' h => eC call17 (C14.out w')) (ar (ag (ag (am (zO rfl) (ak (fun J => ⟨rfl, rfl, rfl, fun w' h => ex_laidA h rfl As26 rfl rfl rfl⟩) (ar trivial)))))))
 intro J w6 l hM hl
 have H6 : Hid (Mm w6 ([(J 5, cel [0, 0])] ++ _) ∧ _) := wB H5 hM hl [5]
 have o6_5 := vB H5 hM hl 5
 clear hM hl l H5
 generalize J 5 = J6_5 at H6 o6_5 ⊢
 clear J
 refine rN (wp_seq (wp_seq ?_))
 refine zC 25 [.q (.bool false), .q (.int .i64 6), .q (.bool false), .q (.bool false), .q (.bool false), .q (.bool false), .q (.bool true), .q (.bool true), .q (.int .i64 6), .q (.bool false), .q (.bool false), .q (V [0, 0]), .q (V [0, 0]), .q (.bool false), .q (.bool false), .q (.bool false), .q (.bool false), .q (.bool false), .q (.bool false), .q (.bool false), .gone, .gone, .gone, .q (.bool false), .q (.bool false)] H6 ?ho7 ?he7 (hL := ?hL7)
 case hL7 => exact trivial
 case ho7 => exact ar (ar (ag (ag (ar (ar (ag (ar (ar (ag (ar (bA 0 2 1 Ai26 As26 (ak (fun J => ⟨rfl, fun w' _ => ex_buildE2z rfl⟩) (ak (fun J => ⟨rfl, fun w' _ => exec_neqE2 e_z rfl rfl rfl⟩) (ag (ag (ag (ar (ar (ar (ak (fun J => rfl) (ak (fun J => rfl) (ak (fun J => rfl) (ag (ag trivial))))))))))))))))))))))))
 intro _ w7 H7
 clear H6
 refine rN (wp_cond_false rfl ?_)
 refine wp_skip (zA ?_)
 refine wp_seq (wp_seq ?_)
 refine zC 3 [.q (V [x0, x1]), .q (V [0, 0]), .q (.bool true)] H7 ?ho8 ?he8
 case ho8 => exact bA 0 2 3 Ai26 As26 (ak (fun J => ⟨rfl, fun w' _ => ex_buildE2z rfl⟩) (ak (fun J => ⟨rfl, fun w' _ => exec_eqE2 e_x rfl rfl rfl⟩) trivial))
 intro _ w8 H8
 clear H7
 refine rN (wp_cond_true rfl (wp_seq ?_))
 refine zC 8 [.q (V [0, 0]), .q (V [0, 0]), .q (.bool true), .q (.bool true), .q (.int .i64 6), .q (.bool true), .q (.bool true), .q (.bool true)] H8 ?ho9 ?he9
 case ho9 => exact bA 0 2 2 Ai26 As26 (ak (fun J => ⟨rfl, fun w' _ => ex_buildE2z rfl⟩) (ak (fun J => ⟨rfl, fun w' _ => exec_eqE2 e_z rfl rfl rfl⟩) (ar (ar (ag (ag (ar trivial)))))))
 intro _ w9 H9
 clear H8
 refine rN (wp_ret ?_)
 repeat (first | refine zK ?_ | refine zI ?_)
 refine bodyPost_ret (v := .bool true) (by simp [results, Tryz.results3, go_sem, *]) rfl ?_
 exact ⟨rfl, H9.out.2⟩
set_option maxHeartbeats 8000000 in
theorem two_nn (a0 a1 b0 b1 x0 x1 y0 y1 p0 p1 q0 q1 n0 n1 m0 m1 j0 j1 i0 i1 : Nat)
  (e_p : ∀ w, (Op.equalIn 10000 26 (V [p0, p1]) (V [p0, p1])).run Tryz.prog w = .ok true w)
  (e_q : ∀ w, (Op.equalIn 10000 26 (V [q0, q1]) (V [q0, q1])).run Tryz.prog w = .ok true w)
  (e_n : ∀ w, (Op.equalIn 10000 26 (V [n0, n1]) (V [n0, n1])).run Tryz.prog w = .ok true w)
  (e_m : ∀ w, (Op.equalIn 10000 26 (V [m0, m1]) (V [m0, m1])).run Tryz.prog w = .ok true w)
  (e_j : ∀ w, (Op.equalIn 10000 26 (V [j0, j1]) (V [j0, j1])).run Tryz.prog w = .ok true w)
  (e_i : ∀ w, (Op.equalIn 10000 26 (V [i0, i1]) (V [i0, i1])).run Tryz.prog w = .ok true w)
  (e_x : ∀ w, (Op.equalIn 10000 26 (V [x0, x1]) (V [0, 0])).run Tryz.prog w = .ok false w)
  (e_z : ∀ w, (Op.equalIn 10000 26 (V [0, 0]) (V [0, 0])).run Tryz.prog w = .ok true w)
  (c0 : ∀ w, Calls Tryz.prog 4 #[V [a0, a1]] w (Rt w (V [x0, x1])))
  (c1 : ∀ w, Calls Tryz.prog 4 #[V [b0, b1]] w (Rt w (V [y0, y1])))
  (c2 : ∀ w, Calls Tryz.prog 5 #[V [a0, a1], V [b0, b1]] w (Rt w (V [p0, p1])))
  (c3 : ∀ w, Calls Tryz.prog 6 #[V [x0, x1], V [y0, y1]] w (Rt w (V [p0, p1])))
  (c4 : ∀ w, Calls Tryz.prog 7 #[V [a0, a1], V [b0, b1]] w (Rt w (V [q0, q1])))
  (c5 : ∀ w, Calls Tryz.prog 8 #[V [x0, x1], V [y0, y1]] w (Rt w (V [q0, q1])))
  (c6 : ∀ w, Calls Tryz.prog 9 #[V [a0, a1]] w (Rt w (V [n0, n1])))
  (c7 : ∀ w, Calls Tryz.prog 10 #[V [x0, x1]] w (Rt w (V [n0, n1])))
  (c8 : ∀ w, Calls Tryz.prog 11 #[V [a0, a1], V [b0, b1]] w (Rt w (V [m0, m1])))
  (c9 : ∀ w, Calls Tryz.prog 12 #[V [x0, x1], V [y0, y1]] w (Rt w (V [m0, m1])))
  (c10 : ∀ w, Calls Tryz.prog 13 #[V [a0, a1]] w (Rt w (V [j0, j1])))
  (c11 : ∀ w, Calls Tryz.prog 14 #[V [x0, x1]] w (Rt w (V [j0, j1])))
  (c12 : ∀ w, Mm w [(0, dtab)] → Calls Tryz.prog 15 #[V [a0, a1]] w (Rt w (.tuple #[V [i0, i1], .int .i64 0])))
  (c13 : ∀ w, Calls Tryz.prog 18 #[V [x0, x1]] w (Rt w (V [i0, i1])))
  (c14 : ∀ w, Mm w [(0, dtab)] → Calls Tryz.prog 16 #[V [a0, a1]] w (Rt w (.tuple #[V [0, 0], .int .i64 6])))
  (c15 : ∀ w, Calls Tryz.prog 17 #[V [x0, x1]] w (Rt w (.tuple #[V [0, 0], .bool false]))) (w : World) (hm : Mm w [(0, dtab)]) :
  Calls Tryz.prog 3 #[V [a0, a1], V [b0, b1]] w (Rt w (.bool true)) := by
 have H0 : Hid (_ ∧ _) := ⟨hm, Below.refl w.heap.size w⟩
 clear hm
 have C0 : Hid _ := c0
 have C1 : Hid _ := c1
 have C2 : Hid _ := c2
 have C3 : Hid _ := c3
 have C4 : Hid _ := c4
 have C5 : Hid _ := c5
 have C6 : Hid _ := c6
 have C7 : Hid _ := c7
 have C8 : Hid _ := c8
 have C9 : Hid _ := c9
 have C10 : Hid _ := c10
 have C11 : Hid _ := c11
 have C12 : Hid _ := c12
 have C13 : Hid _ := c13
 have C14 : Hid _ := c14
 have C15 : Hid _ := c15
 clear c0 c1 c2 c3 c4 c5 c6 c7 c8 c9 c10 c11 c12 c13 c14 c15
 go_enter Tryz.func3, Tryz.ntmps3
 refine wp_seq ?_
 refine zD 3 [.made (cel [a0, a1]) 26, .made (cel [b0, b1]) 26, .q (.bool false)] (sB H0) ?ho1 ?he1
 case ho1 => exact am (zV rfl rfl) (am (zV rfl rfl) (ar trivial))
 intro J w1 l hM hl
 have H1 : Hid (Mm w1 ([(J 0, cel [a0, a1]), (J 1, cel [b0, b1])] ++ _) ∧ _) := wB H0 hM hl [0, 1]
 have o1_0 := vB H0 hM hl 0
 have o1_1 := vB H0 hM hl 1
 clear hM hl l
 generalize J 0 = J1_0 at H1 o1_0 ⊢
 generalize J 1 = J1_1 at H1 o1_1 ⊢
 clear J
 refine rN (wp_seq ?_)
 refine zQ 8 [.q (V [a0, a1]), .call (V [x0, x1]), .q (V [b0, b1]), .call (V [y0, y1]), .made (cel [0, 0]) 26, .made (cel [0, 0]) 26, .laid 4 (cel [0, 0]) (cel [x0, x1]), .laid 5 (cel [0, 0]) (cel [y0, y1])] (sB H1) ?ho2 ?he2 (hL := ?hL2)
 case hL2 => exact ⟨⟨_, rfl⟩, ⟨_, rfl⟩, trivial⟩
 case ho2 => exact bA 0 2 0 Ai26 As26 (ac (fun w' h => eC call4 (C0.out w')) (bA 0 2 1 Ai26 As26 (ac (fun w' h => eC call4 (C1.out w')) (am (zO rfl) (am (zO rfl) (ak (fun J => ⟨rfl, rfl, rfl, fun w' h => ex_laidA h rfl As26 rfl rfl rfl⟩) (ak (fun J => ⟨rfl, rfl, rfl, fun w' h => ex_laidA h rfl As26 rfl rfl rfl⟩) trivial)))))))
 intro J w2 l hM hl
 have H2 : Hid (Mm w2 ([(J 4, cel [x0, x1]), (J 5, cel [y0, y1])] ++ _) ∧ _) := wB H1 hM hl [4, 5]
 have o2_4 := vB H1 hM hl 4
 have o2_5 := vB H1 hM hl 5
 clear hM hl l H1
 generalize J 4 = J2_4 at H2 o2_4 ⊢
 generalize J 5 = J2_5 at H2 o2_5 ⊢
 clear J
 refine rN (wp_seq (wp_seq ?_))
 refine zS 39 [.q (V [a0, a1]), .q (V [b0, b1]), .call (V [p0, p1]), .q (V [x0, x1]), .q (V [y0, y1]), .call (V [p0, p1]), .q (.bool false), .q (.bool false), .q (V [a0, a1]), .q (V [b0, b1]), .call (V [q0, q1]), .q (V [x0, x1]), .q (V [y0, y1]), .call (V [q0, q1]), .q (.bool false), .q (.bool false), .q (.bool false), .q (V [a0, a1]), .call (V [n0, n1]), .q (V [x0, x1]), .call (V [n0, n1]), .q (.bool false), .q (.bool false), .q (.bool false), .q (V [a0, a1]), .q (V [b0, b1]), .call (V [m0, m1]), .q (V [x0, x1]), .q (V [y0, y1]), .call (V [m0, m1]), .q (.bool false), .q (.bool false), .q (.bool false), .q (V [a0, a1]), .call (V [j0, j1]), .q (V [x0, x1]), .call (V [j0, j1]), .q (.bool false), .q (.bool false)] H2 ?ho3 ?he3 (hL := ?hL3)
 case hL3 => exact trivial
 case ho3 => exact bA 0 2 2 Ai26 As26 (bA 0 2 3 Ai26 As26 (ac (fun w' h => eC call5 (C2.out w')) (bA 0 2 0 Ai26 As26 (bA 0 2 1 Ai26 As26 (ac (fun w' h => eC call6 (C3.out w')) (ak (fun J => ⟨rfl, fun w' _ => exec_neqE2 e_p rfl rfl rfl⟩) (ar (bA 0 2 2 Ai26 As26 (bA 0 2 3 Ai26 As26 (ac (fun w' h => eC call7 (C4.out w')) (bA 0 2 0 Ai26 As26 (bA 0 2 1 Ai26 As26 (ac (fun w' h => eC call8 (C5.out w')) (ak (fun J => ⟨rfl, fun w' _ => exec_neqE2 e_q rfl rfl rfl⟩) (ag (ar (bA 0 2 2 Ai26 As26 (ac (fun w' h => eC call9 (C6.out w')) (bA 0 2 0 Ai26 As26 (ac (fun w' h => eC call10 (C7.out w')) (ak (fun J => ⟨rfl, fun w' _ => exec_neqE2 e_n rfl rfl rfl⟩) (ag (ar (bA 0 2 2 Ai26 As26 (bA 0 2 3 Ai26 As26 (ac (fun w' h => eC call11 (C8.out w')) (bA 0 2 0 Ai26 As26 (bA 0 2 1 Ai26 As26 (ac (fun w' h => eC call12 (C9.out w')) (ak (fun J => ⟨rfl, fun w' _ => exec_neqE2 e_m rfl rfl rfl⟩) (ag (ar (bA 0 2 2 Ai26 As26 (ac (fun w' h => eC call13 (C10.out w')) (bA 0 2 0 Ai26 As26 (ac (fun w' h => eC call14 (C11.out w')) (ak (fun J => ⟨rfl, fun w' _ => exec_neqE2 e_j rfl rfl rfl⟩) (ag trivial))))))))))))))))))))))))))))))))))))))
 intro _ w3 H3
 clear H2
 refine rN (wp_cond_false rfl ?_)
 refine wp_skip (zA (wp_seq ?_))
 refine zD 8 [.q (V [a0, a1]), .call (.tuple #[V [i0, i1], .int .i64 0]), .q (.tuple #[V [i0, i1], .int .i64 0]), .q (V [i0, i1]), .q (.int .i64 0), .made (cel [0, 0]) 26, .laid 5 (cel [0, 0]) (cel [i0, i1]), .q (.int .i64 0)] (sB H3) ?ho4 ?he4 (hL := ?hL4)
 case hL4 => exact ⟨⟨_, rfl⟩, trivial⟩
 case ho4 => exact bA 0 2 2 Ai26 As26 (ac (fun w' h => eC call15 (C12.out w' (h.one 4 rfl))) (ar (ag (ag (am (zO rfl) (ak (fun J => ⟨rfl, rfl, rfl, fun w' h => ex_laidA h rfl As26 rfl rfl rfl⟩) (ar trivial)))))))
 intro J w4 l hM hl
 have H4 : Hid (Mm w4 ([(J 5, cel [i0, i1])] ++ _) ∧ _) := wB H3 hM hl [5]
 have o4_5 := vB H3 hM hl 5
 clear hM hl l H3
 generalize J 5 = J4_5 at H4 o4_5 ⊢
 clear J
 refine rN (wp_seq ?_)
 refine zD 8 [.q (V [a0, a1]), .call (.tuple #[V [0, 0], .int .i64 6]), .q (.tuple #[V [0, 0], .int .i64 6]), .q (V [0, 0]), .q (.int .i64 6), .made (cel [0, 0]) 26, .laid 5 (cel [0, 0]) (cel [0, 0]), .q (.int .i64 6)] (sB H4) ?ho5 ?he5 (hL := ?hL5)
 case hL5 => exact ⟨⟨_, rfl⟩, trivial⟩
 case ho5 => exact bA 0 2 3 Ai26 As26 (ac (fun w' h => eC call16 (C14.out w' (h.one 5 rfl))) (ar (ag (ag (am (zO rfl) (ak (fun J => ⟨rfl, rfl, rfl, fun w' h => ex_laidA h rfl As26 rfl rfl rfl⟩) (ar trivial)))))))
 intro J w5 l hM hl
 have H5 : Hid (Mm w5 ([(J 5, cel [0, 0])] ++ _) ∧ _) := wB H4 hM hl [5]
 have o5_5 := vB H4 hM hl 5
 clear hM hl l H4
 generalize J 5 = J5_5 at H5 o5_5 ⊢
 clear J
 refine rN (wp_seq ?_)
 refine zD 8 [.q (V [x0, x1]), .call (.tuple #[V [0, 0], .bool false]), .q (.tuple #[V [0, 0], .bool false]), .q (V [0, 0]), .q (.bool false), .made (cel [0, 0]) 26, .laid 5 (cel [0, 0]) (cel [0, 0]), .q (.bool false)] (sB H5) ?ho6 ?he6 (hL := ?hL6)
 case hL6 => exact ⟨⟨_, rfl⟩, trivial⟩
 case ho6 => exact bA 0 2 2 Ai26 As26 (ac (fun w' h => eC call17 (C15.out w')) (ar (ag (ag (am (zO rfl) (ak (fun J => ⟨rfl, rfl, rfl, fun w' h => ex_laidA h rfl As26 rfl rfl rfl⟩) (ar trivial)))))))
 intro J w6 l hM hl
 have H6 : Hid (Mm w6 ([(J 5, cel [0, 0])] ++ _) ∧ _) := wB H5 hM hl [5]
 have o6_5 := vB H5 hM hl 5
 clear hM hl l H5
 generalize J 5 = J6_5 at H6 o6_5 ⊢
 clear J
 refine rN (wp_seq (wp_seq ?_))
 refine zC 25 [.q (.bool false), .q (.int .i64 6), .q (.bool false), .q (.bool false), .q (.bool false), .q (.bool false), .q (.bool true), .q (.bool true), .q (.int .i64 6), .q (.bool false), .q (.bool false), .q (V [0, 0]), .q (V [0, 0]), .q (.bool false), .q (.bool false), .q (.bool false), .q (.bool false), .q (.bool false), .q (.bool false), .q (.bool false), .gone, .gone, .gone, .q (.bool false), .q (.bool false)] H6 ?ho7 ?he7 (hL := ?hL7)
 case hL7 => exact trivial
 case ho7 => exact ar (ar (ag (ag (ar (ar (ag (ar (ar (ag (ar (bA 0 2 1 Ai26 As26 (ak (fun J => ⟨rfl, fun w' _ => ex_buildE2z rfl⟩) (ak (fun J => ⟨rfl, fun w' _ => exec_neqE2 e_z rfl rfl rfl⟩) (ag (ag (ag (ar (ar (ar (ak (fun J => rfl) (ak (fun J => rfl) (ak (fun J => rfl) (ag (ag trivial))))))))))))))))))))))))
 intro _ w7 H7
 clear H6
 refine rN (wp_cond_false rfl ?_)
 refine wp_skip (zA ?_)
 refine wp_seq (wp_seq ?_)
 refine zC 3 [.q (V [x0, x1]), .q (V [0, 0]), .q (.bool false)] H7 ?ho8 ?he8
 case ho8 => exact bA 0 2 3 Ai26 As26 (ak (fun J => ⟨rfl, fun w' _ => ex_buildE2z rfl⟩) (ak (fun J => ⟨rfl, fun w' _ => exec_eqE2 e_x rfl rfl rfl⟩) trivial))
 intro _ w8 H8
 clear H7
 refine rN (wp_cond_false rfl ?_)
 refine wp_skip (zA (wp_seq ?_))
 refine zS 9 [.q (V [i0, i1]), .q (V [x0, x1]), .call (V [i0, i1]), .q (.bool true), .q (.bool true), .q (.int .i64 0), .q (.bool true), .q (.bool true), .q (.bool true)] H8 ?ho9 ?he9
 case ho9 => exact bA 0 2 2 Ai26 As26 (bA 0 2 3 Ai26 As26 (ac (fun w' h => eC call18 (C13.out w')) (ak (fun J => ⟨rfl, fun w' _ => exec_eqE2 e_i rfl rfl rfl⟩) (ar (ar (ag (ag (ar trivial))))))))
 intro _ w9 H9
 clear H8
 refine rN (wp_ret ?_)
 repeat (first | refine zK ?_ | refine zI ?_)
 refine bodyPost_ret (v := .bool true) (by simp [results, Tryz.results3, go_sem, *]) rfl ?_
 exact ⟨rfl, H9.out.2⟩
end Rg
end Go.Proofs.YtacicklddhehaaaGreatDoor
end
section
namespace Go.Proofs.YtacicklddhehaaaGreatDoor
open Go.RowKit
namespace Rg
set_option maxRecDepth 100000
theorem eqZ_0t {x y : Int} (h : Dv x ∧ Dv y) (w : World) : (Op.equalIn 10000 26 (V [pz x, pz y]) (V [0, 0])).run Tryz.prog w = .ok true w := by
 rw [run_eqE2 _ _ _ _ (pz_big _) (pz_big _) big_pos big_pos, decide_eq_true ((pz_zero_iff x).2 h.1), decide_eq_true ((pz_zero_iff y).2 h.2)]
 rfl
theorem eqZ_0f {x y : Int} (h : ¬ (Dv x ∧ Dv y)) (w : World) : (Op.equalIn 10000 26 (V [pz x, pz y]) (V [0, 0])).run Tryz.prog w = .ok false w := by
 rw [run_eqE2 _ _ _ _ (pz_big _) (pz_big _) big_pos big_pos, ← Bool.decide_and, decide_eq_false (fun k => h ⟨(pz_zero_iff x).1 k.1, (pz_zero_iff y).1 k.2⟩)]
theorem eq00 (w : World) : (Op.equalIn 10000 26 (V [0, 0]) (V [0, 0])).run Tryz.prog w = .ok true w := run_eqE2 0 0 0 0 big_pos big_pos big_pos big_pos w
theorem two_any (a0 a1 b0 b1 : Nat) (h0 : a0 < big) (h1 : a1 < big) (k0 : b0 < big) (k1 : b1 < big) (w : World) (hm : Mm w [(0, dtab)]) :
  Calls Tryz.prog 3 #[V [a0, a1], V [b0, b1]] w (Rt w (.bool true)) := by
 have R : ∀ p q : Int, ∀ w, (Op.equalIn 10000 26 (V [pz p, pz q]) (V [pz p, pz q])).run Tryz.prog w = .ok true w := fun p q w => eqZ_t ⟨rfl, rfl⟩ w
 have o1 := fun w => dOf2 a0 a1 h0 h1 w
 have o2 := fun w => dOf2 b0 b1 k0 k1 w
 have u1 := fun w => add2_any a0 a1 b0 b1 h0 h1 k0 k1 w
 have u2 := fun w => dAdd2 a0 a1 b0 b1 w
 have s1 := fun w => sub2_any a0 a1 b0 b1 h0 h1 k0 k1 w
 have s2 := fun w => dSub2 a0 a1 b0 b1 w
 rw [← Int.sub_eq_add_neg, ← Int.sub_eq_add_neg] at s2
 have n1 := fun w => neg2_any a0 a1 h0 h1 w
 have n2 := fun w => dNeg2 a0 a1 w
 have m1 := fun w => mulT_any a0 a1 b0 b1 h0 h1 k0 k1 w
 have m2 := fun w => dMul2 a0 a1 b0 b1 w
 have j1 := fun w => conj2_any a0 a1 h0 h1 w
 have j2 := fun w => dConj2 a0 a1 w
 by_cases hz : Dv ((a0 : Int) * a0 + (a1 : Int) * a1)
 ·have hz2 := norm0 hz
  have v1 := fun w hm => invT_bad a0 a1 h0 h1 hz w hm
  by_cases hq : Sq ((a0 : Int) * a0 + (a1 : Int) * a1)
  ·obtain ⟨u, v, hu, hv, hL, hc⟩ := rootT_ex a0 a1 h0 h1 hq
   exact two_oz _ _ _ _ _ _ _ _ _ _ _ _ _ _ _ _ _ _ _ _ (R _ _) (R _ _) (R _ _) (R _ _) (R _ _) (R _ _) (eqZ_0t hz2) eq00 o1 o2 u1 u2 s1 s2 n1 n2 m1 m2 j1 j2 v1 hc (fun w => dRoot_ex hu hv hL w) w hm
  ·exact two_nz _ _ _ _ _ _ _ _ _ _ _ _ _ _ _ _ _ _ (R _ _) (R _ _) (R _ _) (R _ _) (R _ _) (eqZ_0t hz2) eq00 o1 o2 u1 u2 s1 s2 n1 n2 m1 m2 j1 j2 v1 (fun w hm => rootT_none a0 a1 h0 h1 hq w hm) (fun w => dRoot_none a0 a1 hq w) w hm
 ·have hz2 : ¬ (Dv (a0 : Int) ∧ Dv (a1 : Int)) := fun k => hz ((k.1.mul (a0 : Int)).add (k.2.mul (a1 : Int)))
  have v1 := fun w hm => invT_good a0 a1 h0 h1 hz w hm
  have v2 := fun w => dInv2 a0 a1 (iv ((a0 : Int) * a0 + (a1 : Int) * a1)) (fun w => fInvZ hz w) w
  rw [← Int.neg_mul] at v2
  by_cases hq : Sq ((a0 : Int) * a0 + (a1 : Int) * a1)
  ·obtain ⟨u, v, hu, hv, hL, hc⟩ := rootT_ex a0 a1 h0 h1 hq
   exact two_on _ _ _ _ _ _ _ _ _ _ _ _ _ _ _ _ _ _ _ _ _ _ (R _ _) (R _ _) (R _ _) (R _ _) (R _ _) (R _ _) (R _ _) (eqZ_0f hz2) o1 o2 u1 u2 s1 s2 n1 n2 m1 m2 j1 j2 v1 v2 hc (fun w => dRoot_ex hu hv hL w) w hm
  ·exact two_nn _ _ _ _ _ _ _ _ _ _ _ _ _ _ _ _ _ _ _ _ (R _ _) (R _ _) (R _ _) (R _ _) (R _ _) (R _ _) (eqZ_0f hz2) eq00 o1 o2 u1 u2 s1 s2 n1 n2 m1 m2 j1 j2 v1 v2 (fun w hm => rootT_none a0 a1 h0 h1 hq w hm) (fun w => dRoot_none a0 a1 hq w) w hm
end Rg
end Go.Proofs.YtacicklddhehaaaGreatDoor
end
section
namespace Go.Proofs.YtacicklddhehaaaGreatDoor
open Go.ChangeShapes Go.WideShapes Go.ChangeAt Go.RowKit
set_option maxRecDepth 100000
theorem Tryz.own : ownKnob Tryz.prog.godebug = none := by kernel_rfl
theorem Tryz.laidOut : laidOutB Tryz.prog = true := by kernel_rfl
theorem wd_cons_zero (x r : Nat) (hx : x < 18446744073709551616) : wd (x + 18446744073709551616 * r) 0 = x := by
 unfold wd; rw [Nat.mul_zero, Nat.pow_zero, Nat.div_one]; omega
theorem wd_cons_succ (x r i : Nat) (hx : x < 18446744073709551616) : wd (x + 18446744073709551616 * r) (i + 1) = wd r i := by
 unfold wd
 rw [pow_step, Nat.mul_comm (2 ^ (64 * i)), ← Nat.div_div_eq_div_mul, show (x + 18446744073709551616 * r) / 18446744073709551616 = r by omega]
theorem lt_cons (x r k : Nat) (hx : x < 18446744073709551616) (hr : r < 2 ^ (64 * k)) : x + 18446744073709551616 * r < 2 ^ (64 * (k + 1)) := by
 rw [pow_step]; omega
theorem num_of_words (x : Nat → Nat) (hx : ∀ i, x i < 18446744073709551616) (n : Nat) : ∃ a, a < 2 ^ (64 * n) ∧ ∀ i, i < n → wd a i = x i := by
 induction n generalizing x with
 | zero => exact ⟨0, Nat.two_pow_pos _, fun i h => absurd h (Nat.not_lt_zero _)⟩
 | succ n ih =>
  obtain ⟨r, hr, hw⟩ := ih (fun i => x (i + 1)) (fun i => hx _)
  refine ⟨x 0 + 18446744073709551616 * r, lt_cons _ _ _ (hx 0) hr, fun i hi => ?_⟩
  cases i with
  | zero => exact wd_cons_zero _ _ (hx 0)
  | succ i => rw [wd_cons_succ _ _ _ (hx 0)]; exact hw i (by omega)
end Go.Proofs.YtacicklddhehaaaGreatDoor
end
section
namespace Go.Proofs.YtacicklddhehaaaGreatDoor
open Go.ChangeShapes Go.WideShapes Go.ChangeAt Go.RowKit
set_option maxRecDepth 100000
section
variable {H : Type} {enc : TypeId × Value → H} {w : World} {base : Nat} {sp : Nat → Bool} {held : Bool}
theorem cells_num {fuel : Nat} {cs : List Value} {x : DataW H × List MemPlace} (h : DataW.trod enc Tryz.prog w base sp held fuel 24 cs = some x) : ∃ a, a < big ∧ cs = zB a ∧ x.2 = [] := by
 obtain ⟨xs, m, -, hx, hl, hn, hel⟩ := DataW.trod_array Tryz.underlying24 h
 have hc : Tryz.prog.cellsOf 22 = 1 := by kernel_rfl
 have hc6 : Tryz.prog.cellsOf 24 = 6 := by kernel_rfl
 rw [hc6] at hl
 have key : ∀ i, i < 6 → ∃ n : Nat, n < 18446744073709551616 ∧ cs[i]? = some (.int .u64 n) ∧ ∃ z, xs[i]? = some z ∧ z.2 = [] := by
  intro i hi
  have h := hel i hi
  rw [hc] at h
  have hlt : i < xs.length := by rw [hn]; exact hi
  obtain ⟨z, hz⟩ : ∃ z, xs[i]? = some z := ⟨xs[i], List.getElem?_eq_getElem hlt⟩
  rw [hz] at h
  obtain ⟨n, e1, e2, e3⟩ := DataW.trod_int Tryz.underlying22 h
  have hb := bounds_u64 e3
  have e6 : ((cs.drop (i * 1)).take 1)[0]? = some (.int .u64 n) := by rw [e1]; rfl
  rw [Nat.mul_one, List.getElem?_take] at e6
  have e5 : (cs.drop i)[0]? = some (.int .u64 n) := by simpa using e6
  rw [List.getElem?_drop] at e5
  refine ⟨n.toNat, by omega, ?_, z, hz, by rw [e2]⟩
  rw [Int.toNat_of_nonneg hb.1]
  simpa using e5
 obtain ⟨n0, l0, c0, z0, y0, q0⟩ := key 0 (by omega)
 obtain ⟨n1, l1, c1, z1, y1, q1⟩ := key 1 (by omega)
 obtain ⟨n2, l2, c2, z2, y2, q2⟩ := key 2 (by omega)
 obtain ⟨n3, l3, c3, z3, y3, q3⟩ := key 3 (by omega)
 obtain ⟨n4, l4, c4, z4, y4, q4⟩ := key 4 (by omega)
 obtain ⟨n5, l5, c5, z5, y5, q5⟩ := key 5 (by omega)
 have hps : x.2 = [] := by
  have hx2 : x.2 = xs.flatMap (·.2) := congrArg Prod.snd hx
  rw [hx2, List.flatMap_eq_nil_iff]
  intro z hz
  obtain ⟨i, hi⟩ := List.mem_iff_getElem?.1 hz
  have hi6 : i < 6 := by
   have := (List.getElem?_eq_some_iff.1 hi).1
   omega
  obtain ⟨n, _, _, z', y, q⟩ := key i hi6
  rw [hi] at y; injection y with y; rw [y]; exact q
 obtain ⟨a, ha, hw⟩ := num_of_words (fun i => [n0, n1, n2, n3, n4, n5].getD i 0) (by
  intro i
  match i with
  | 0 => exact l0
  | 1 => exact l1
  | 2 => exact l2
  | 3 => exact l3
  | 4 => exact l4
  | 5 => exact l5
  | (i + 6) => simp) 6
 refine ⟨a, by rw [big]; exact ha, ?_, hps⟩
 have w0 : wd a 0 = n0 := hw 0 (by omega)
 have w1 : wd a 1 = n1 := hw 1 (by omega)
 have w2 : wd a 2 = n2 := hw 2 (by omega)
 have w3 : wd a 3 = n3 := hw 3 (by omega)
 have w4 : wd a 4 = n4 := hw 4 (by omega)
 have w5 : wd a 5 = n5 := hw 5 (by omega)
 unfold zB
 rw [w0, w1, w2, w3, w4, w5]
 apply List.ext_getElem?
 intro i
 match i with
 | 0 => exact c0
 | 1 => exact c1
 | 2 => exact c2
 | 3 => exact c3
 | 4 => exact c4
 | 5 => exact c5
 | i + 6 => rw [List.getElem?_eq_none (by omega)]; rfl
/-- An array of n parts of c cells each, whose parts open. -/
theorem cells_parts {t e : TypeId} {n c : Nat} {P : List Value → Prop} {fuel : Nat} {cs : List Value} {x : DataW H × List MemPlace} (ht : Tryz.prog.underlying t = some (.array n e)) (hce : Tryz.prog.cellsOf e = c) (hct : Tryz.prog.cellsOf t = n * c)
  (hop : ∀ {fuel : Nat} {cs : List Value} {x : DataW H × List MemPlace}, DataW.trod enc Tryz.prog w base sp held fuel e cs = some x → P cs ∧ x.2 = []) (h : DataW.trod enc Tryz.prog w base sp held fuel t cs = some x) :
  cs.length = n * c ∧ (∀ i, i < n → P ((cs.drop (i * c)).take c)) ∧ x.2 = [] := by
 obtain ⟨xs, m, -, hx, hl, hn, hel⟩ := DataW.trod_array ht h
 rw [hct] at hl
 rw [hce] at hel
 have key : ∀ i, i < n → P ((cs.drop (i * c)).take c) ∧ ∃ z, xs[i]? = some z ∧ z.2 = [] := fun i hi => by
  have h := hel i hi
  have hlt : i < xs.length := by rw [hn]; exact hi
  obtain ⟨z, hz⟩ : ∃ z, xs[i]? = some z := ⟨xs[i], List.getElem?_eq_getElem hlt⟩
  rw [hz] at h
  exact ⟨(hop h).1, z, hz, (hop h).2⟩
 refine ⟨hl, fun i hi => (key i hi).1, ?_⟩
 have hx2 : x.2 = xs.flatMap (·.2) := congrArg Prod.snd hx
 rw [hx2, List.flatMap_eq_nil_iff]
 intro z hz
 obtain ⟨i, hi⟩ := List.mem_iff_getElem?.1 hz
 have hin : i < n := by
  have := (List.getElem?_eq_some_iff.1 hi).1
  omega
 obtain ⟨_, z', y, q⟩ := key i hin
 rw [hi] at y; injection y with y; rw [y]; exact q
theorem cells_E2 {fuel : Nat} {cs : List Value} {x : DataW H × List MemPlace} (h : DataW.trod enc Tryz.prog w base sp held fuel 26 cs = some x) : (∃ a b, a < big ∧ b < big ∧ cs = Rg.cel [a, b]) ∧ x.2 = [] := by
 obtain ⟨hl, hp, hx⟩ := cells_parts (P := fun l => ∃ a, a < big ∧ l = zB a) (n := 2) (c := 6) Tryz.underlying26 (by kernel_rfl) (by kernel_rfl) (fun h => by obtain ⟨a, h1, h2, h3⟩ := cells_num h; exact ⟨⟨a, h1, h2⟩, h3⟩) h
 obtain ⟨a, ha, ea⟩ := hp 0 (by decide)
 obtain ⟨b, hb, eb⟩ := hp 1 (by decide)
 refine ⟨⟨a, b, ha, hb, ?_⟩, hx⟩
 rw [Nat.zero_mul, List.drop_zero] at ea
 rw [List.take_of_length_le (by rw [List.length_drop]; omega)] at eb
 have e := List.take_append_drop 6 cs
 rw [ea, show (6 : Nat) = 1 * 6 from rfl, eb] at e
 rw [← e]
 rfl
end
section
variable {H : Type} {enc : TypeId × Value → H} {w : World} {base : Nat} {sp : Nat → Bool} {held : Bool} {r : Reach} {b0 : Nat} {v : Value} {d : DataW H} {ps : List MemPlace}
theorem open_E2 (hval : Value.okWide Tryz.prog w r b0 26 v) (hd : DataW.Trod enc Tryz.prog w base sp held 26 v d ps) : ∃ a b, a < big ∧ b < big ∧ v = Rg.V [a, b] ∧ ps = [] := by
 unfold Value.okWide at hval
 rw [Tryz.underlying26] at hval
 obtain ⟨cs, rfl, hsz, _⟩ := hval
 obtain ⟨fuel, hf⟩ := hd
 obtain ⟨⟨a, b, ha, hb, e⟩, hx⟩ := cells_E2 hf
 refine ⟨a, b, ha, hb, ?_, hx⟩
 have e2 : cs.toList = Rg.cel [a, b] := e
 show Value.agg cs = Value.agg (Rg.cel [a, b]).toArray
 rw [← e2, Array.toArray_toList]
end
theorem e2_stays {H : Type} {enc : TypeId × Value → H} {W W' : World} {v : Value} {d : DataW H}
  (h : DataW.Trod enc Tryz.prog W 0 (fun _ => true) true 26 v d []) (hb : Below W.heap.size W W') :
  DataW.Trod enc Tryz.prog W' 0 (fun b => decide (b < W.heap.size)) true 26 v d [] :=
 Below.trod Tryz.laidOut (by kernel_rfl) (by decide +kernel) h hb (fun _ hx => by cases hx)
section
variable {H : Type} {enc : TypeId × Value → H} {w : World} {base : Nat} {sp : Nat → Bool} {held : Bool}
end
section
variable {H : Type} {enc : TypeId × Value → H} {w : World} {base : Nat} {sp : Nat → Bool} {held : Bool} {r : Reach} {b0 : Nat} {v : Value} {d : DataW H} {ps : List MemPlace}
end
section
variable {H : Type} {enc : TypeId × Value → H} {w : World} {base : Nat} {sp : Nat → Bool} {held : Bool}
end
section
variable {H : Type} {enc : TypeId × Value → H} {w : World} {base : Nat} {sp : Nat → Bool} {held : Bool} {r : Reach} {b0 : Nat} {v : Value} {d : DataW H} {ps : List MemPlace}
end
end Go.Proofs.YtacicklddhehaaaGreatDoor
end
section
namespace Go.Proofs.YtacicklddhehaaaGreatDoor
open Go.ChangeShapes Go.WideShapes Go.ChangeAt Go.RowKit
namespace Rg
set_option maxRecDepth 100000
abbrev laidL : List (String × DataW Unit) := Rows.towerTwoRow.laid
abbrev tabName : String := match laidL with
 | (n, _) :: _ => n
 | [] => Tryz.f3.name
theorem gTab : Tryz.prog.globalNamed tabName = some 0 := by kernel_rfl
theorem tTab : (Tryz.prog.globals[0]?).map (·.type) = some 96 := by kernel_rfl
theorem datTab : (Rows.laid_math_bits_deBruijn64tab : DataW Unit) = .agg (Lib.deBruijn64tab.map fun k => .lit (.int .u8 ((k : Nat) : Int))) := by kernel_rfl
theorem tab_of_laid {W : World} (h : laidMetH Tryz.prog laidL W) : Mm W [(0, dtab)] := by
 rw [MakeChecks.laidMetH_plain _ _ _ (by kernel_rfl)] at h
 obtain ⟨ps, ⟨g, t, cs, fuel, p, q, hg, ht, hv, hd, hq, hps⟩, hnd, hc⟩ := h
 obtain rfl := Option.some.inj (gTab.symm.trans hg)
 obtain rfl := Option.some.inj (tTab.symm.trans ht)
 obtain ⟨xs, m, -, hx, hlen, hn, hel⟩ := DataW.trod_array Tryz.underlying96 hd
 rw [datTab] at hx
 simp only [Prod.mk.injEq, DataW.agg.injEq] at hx
 have hc5 : Tryz.prog.cellsOf 5 = 1 := by kernel_rfl
 have hc81 : Tryz.prog.cellsOf 96 = 64 := by kernel_rfl
 rw [hc81] at hlen
 have hsz : cs.size = 64 := by simpa using hlen
 have hpl : ∀ i, i < 64 → MemPlace.cell 0 i ∈ ps := fun i hi => by
  rw [hps]
  refine List.mem_append_left _ (List.mem_append_left _ ?_)
  unfold MemPlace.row
  simp [hsz]
  omega
 obtain ⟨⟨c0, t0, hheap⟩, _⟩ := hc 0 0 (hpl 0 (by decide))
 have h0 : 0 < W.heap.size := by
  rcases Nat.lt_or_ge 0 W.heap.size with h' | h'
  ·exact h'
  ·rw [Array.getElem?_eq_none (by omega)] at hheap; cases hheap
 refine ⟨fun pq hpq => ?_, List.pairwise_singleton _ _⟩
 rw [List.mem_singleton.1 hpq]
 refine ⟨h0, fun j v hj => ?_⟩
 have hj64 : j < 64 := by
  have := (List.getElem?_eq_some_iff.1 hj).1
  exact this
 refine ⟨?_, ?_⟩
 ·rw [World.var?_cell hg hv j]
  have h1 := hel j hj64
  rw [hc5, Nat.mul_one] at h1
  have hlt : j < xs.length := by omega
  rw [List.getElem?_eq_getElem hlt] at h1
  obtain ⟨n, e1, e2, _⟩ := DataW.trod_int Tryz.underlying5 h1
  have e3 : cs[j]? = some (.int .u8 n) := by
   have e4 : ((cs.toList.drop j).take 1)[0]? = some (.int .u8 n) := by rw [e1]; rfl
   rw [List.getElem?_take, if_pos (by decide), List.getElem?_drop] at e4
   simpa using e4
  have e5 : (xs.map (·.1))[j]? = (Lib.deBruijn64tab.map fun k => DataW.lit (.int .u8 ((k : Nat) : Int)))[j]? := by rw [hx.1]
  rw [List.getElem?_map, List.getElem?_eq_getElem hlt, e2, List.getElem?_map] at e5
  unfold dtab at hj
  rw [List.getElem?_map] at hj
  cases hk : Lib.deBruijn64tab[j]? with
  | none => rw [hk] at hj; cases hj
  | some k =>
   rw [hk] at hj e5
   simp only [Option.map_some, Option.some.injEq, DataW.lit.injEq] at hj e5
   rw [e3, ← hj]
   simp only [Option.some.injEq]
   injection e5 with _ e6
   rw [e6]
 ·unfold World.frozen?
  rw [hheap]
  simp
theorem door_met (os : Os) (args : Array Value) : laidMetH Tryz.prog laidL ((World.doorLaid Tryz.prog 400 os).forCall (fun _ _ => 0) ⟨#[], args, []⟩).memory :=
 laidMetH_of_parts3 (fuel := 8) (laidMet_of_run' 8 (by kernel_rfl) (by kernel_rfl)) (by kernel_rfl) (by kernel_rfl)
end Rg
end Go.Proofs.YtacicklddhehaaaGreatDoor
end
