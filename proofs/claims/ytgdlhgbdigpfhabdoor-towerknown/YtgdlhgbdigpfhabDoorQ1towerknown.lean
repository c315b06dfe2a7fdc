/- Texts of the proof, joined. -/
import Derived.Test.YtgdlhgbdigpfhabDoorP9
section
namespace Go.Proofs.YtgdlhgbdigpfhabDoor
open Go.RowKit
namespace Rg
set_option maxHeartbeats 8000000 in
set_option maxRecDepth 100000 in
theorem known_gen (k1 mn : Nat)
  (e_cw : ∀ w, (Op.equalIn 10000 28 (V [0, 0, mn, 0, 0, 0, 0, 0, 0, 0, 0, 0]) (V [0, 0, mn, 0, 0, 0, 0, 0, 0, 0, 0, 0])).run Tryd.prog w = .ok true w) (e_wv : ∀ w, (Op.equalIn 10000 28 (V [0, 0, k1, 0, 0, 0, 0, 0, 0, 0, 0, 0]) (V [0, 0, k1, 0, 0, 0, 0, 0, 0, 0, 0, 0])).run Tryd.prog w = .ok true w) (e_on : ∀ w, (Op.equalIn 10000 28 (V [k1, 0, 0, 0, 0, 0, 0, 0, 0, 0, 0, 0]) (V [k1, 0, 0, 0, 0, 0, 0, 0, 0, 0, 0, 0])).run Tryd.prog w = .ok true w) (e_mn : ∀ w, (Op.equalIn 10000 26 (V [mn, 0]) (V [mn, 0])).run Tryd.prog w = .ok true w) (e_ni : ∀ w, (Op.equalIn 10000 26 (V [0, mn]) (V [0, mn])).run Tryd.prog w = .ok true w) (e_i1 : ∀ w, (Op.equalIn 10000 26 (V [0, k1]) (V [0, k1])).run Tryd.prog w = .ok true w) (e_zz : ∀ w, (Op.equalIn 10000 26 (V [0, 0]) (V [0, 0])).run Tryd.prog w = .ok true w) (e_k : ∀ w, (Op.equalIn 10000 24 (N k1) (N k1)).run Tryd.prog w = .ok true w)
  (c0 : ∀ w, Calls Tryd.prog 9 #[.int .u64 0, .int .u64 1] w (Rt w (V [0, k1])))
  (c1 : ∀ w, Calls Tryd.prog 9 #[.int .u64 1, .int .u64 0] w (Rt w (V [k1, 0])))
  (c2 : ∀ w, Calls Tryd.prog 10 #[V [k1, 0]] w (Rt w (V [mn, 0])))
  (c3 : ∀ w, Mm w [(0, dtab)] → Calls Tryd.prog 11 #[V [0, k1]] w (Rt w (.tuple #[V [0, mn], .int .i64 0])))
  (c4 : ∀ w, Mm w [(0, dtab)] → Calls Tryd.prog 11 #[V [0, 0]] w (Rt w (.tuple #[V [0, 0], .int .i64 6])))
  (c5 : ∀ w, Mm w [(0, dtab)] → Calls Tryd.prog 12 #[V [mn, 0]] w (Rt w (.tuple #[V [0, k1], .int .i64 0])))
  (c6 : ∀ w, Calls Tryd.prog 9 #[.int .u64 1, .int .u64 1] w (Rt w (V [k1, k1])))
  (c7 : ∀ w, Mm w [(0, dtab)] → Calls Tryd.prog 12 #[V [k1, k1]] w (Rt w (.tuple #[V [0, 0], .int .i64 6])))
  (c8 : ∀ w, Mm w [(0, dtab)] → Calls Tryd.prog 12 #[V [0, 0]] w (Rt w (.tuple #[V [0, 0], .int .i64 0])))
  (c9 : ∀ w, Mm w [(0, dtab)] → Calls Tryd.prog 13 #[V [0, 0, 0, 0, 0, 0, 0, 0, 0, 0, 0, 0]] w (Rt w (.tuple #[V [0, 0, 0, 0, 0, 0, 0, 0, 0, 0, 0, 0], .int .i64 6])))
  (c10 : ∀ w, Calls Tryd.prog 15 #[] w (Rt w (V [0, 0, k1, 0, 0, 0, 0, 0, 0, 0, 0, 0])))
  (c11 : ∀ w, Calls Tryd.prog 14 #[V [0, 0, k1, 0, 0, 0, 0, 0, 0, 0, 0, 0]] w (Rt w (V [0, 0, mn, 0, 0, 0, 0, 0, 0, 0, 0, 0])))
  (c12 : ∀ w, Calls Tryd.prog 8 #[V [0, 0, k1, 0, 0, 0, 0, 0, 0, 0, 0, 0], .int .i64 12] w (Rt w (V [0, 0, k1, 0, 0, 0, 0, 0, 0, 0, 0, 0])))
  (c13 : ∀ w, Calls Tryd.prog 16 #[] w (Rt w (V [k1, 0, 0, 0, 0, 0, 0, 0, 0, 0, 0, 0])))
  (c14 : ∀ w, Calls Tryd.prog 8 #[V [k1, 0, 0, 0, 0, 0, 0, 0, 0, 0, 0, 0], .int .i64 5] w (Rt w (V [k1, 0, 0, 0, 0, 0, 0, 0, 0, 0, 0, 0])))
  (c15 : ∀ w, Mm w [(0, dtab)] → Calls Tryd.prog 5 #[] w (Rt w (.bool true)))
  (c16 : ∀ w, Calls Tryd.prog 17 #[V [0, k1], V [0, k1]] w (Rt w (V [mn, 0])))
  (c17 : ∀ w, Calls Tryd.prog 10 #[V [0, k1]] w (Rt w (V [0, mn])))
  (c18 : ∀ w, Calls Tryd.prog 18 #[V [k1, k1]] w (Rt w (V [k1, mn])))
  (c19 : ∀ w, Calls Tryd.prog 19 #[.int .u64 1] w (Rt w (N k1))) (w : World) (hm : Mm w [(0, dtab)]) :
  Calls Tryd.prog 4 #[] w (Rt w (.bool true)) := by
 have H0 : Hid (_ ∧ _) := ⟨hm, Below.refl w.heap.size w⟩
 clear hm
 have C0 : Hid _ := c0
 have C1 : Hid _ := c1
 have C2 : Hid _ := c2
 have C3 : Hid _ := c3
 have C4 : Hid _ := c4
 have C5 : Hid _ := c5
 have C6 : Hid _ := c6
 have C7 : Hid _ := c7
 have C8 : Hid _ := c8
 have C9 : Hid _ := c9
 have C10 : Hid _ := c10
 have C11 : Hid _ := c11
 have C12 : Hid _ := c12
 have C13 : Hid _ := c13
 have C14 : Hid _ := c14
 have C15 : Hid _ := c15
 have C16 : Hid _ := c16
 have C17 : Hid _ := c17
 have C18 : Hid _ := c18
 have C19 : Hid _ := c19
 clear c0 c1 c2 c3 c4 c5 c6 c7 c8 c9 c10 c11 c12 c13 c14 c15 c16 c17 c18 c19
 go_enter Tryd.func4, Tryd.ntmps4
 refine wp_seq ?_
 refine walk_seqB 1 [.quiet (.bool false)] H0 ?ho1 ?he1
 case ho1 => exact ak (fun _ => ⟨rfl, fun _ _ => rfl⟩) trivial
 intro _ w1 H1
 refine rest0 rfl (then_normal (wp_seq ?_))
 refine walk_seqA 3 [.call (V [0, k1]), .made (cel [0, 0]) 26, .laid 1 (cel [0, 0]) (cel [0, k1])] (sB H1) ?ho2 ?he2 (hL := ?hL2)
 case hL2 => exact ⟨⟨_, rfl⟩, trivial⟩
 case ho2 => exact ak (fun γ => ⟨rfl, fun w' h => ⟨9, #[.int .u64 0, .int .u64 1], exec_call rfl call9 rfl (mpn rfl), C0.out w'⟩⟩) (ak (fun γ => ⟨rfl, fun w' => ex_madeE2 rfl⟩) (ak (fun γ => ⟨rfl, rfl, rfl, fun w' h => ex_laidA h rfl Tryd.sizeOf26 rfl rfl rfl⟩) trivial))
 intro γ w2 l hM hl
 have H2 : Hid (Mm w2 [(γ 1, cel [0, k1]), (0, dtab)] ∧ _) := growB H1 hM (Nat.le_refl _) hl [1] rfl (by decide)
 have o2_1 := ownB H1 hM (Nat.le_refl _) hl (i := 1) rfl
 clear hM hl l H1
 generalize γ 1 = γ2_1 at H2 o2_1 ⊢
 clear γ
 refine rest0 rfl (then_normal (wp_seq ?_))
 refine walk_seqA 4 [.call (V [k1, 0]), .call (V [mn, 0]), .made (cel [0, 0]) 26, .laid 2 (cel [0, 0]) (cel [mn, 0])] (sB H2) ?ho3 ?he3 (hL := ?hL3)
 case hL3 => exact ⟨⟨_, rfl⟩, trivial⟩
 case ho3 => exact ak (fun γ => ⟨rfl, fun w' h => ⟨9, #[.int .u64 1, .int .u64 0], exec_call rfl call9 rfl (mpn rfl), C1.out w'⟩⟩) (ak (fun γ => ⟨rfl, fun w' h => ⟨10, #[V [k1, 0]], exec_call rfl call10 rfl (mpn rfl), C2.out w'⟩⟩) (ak (fun γ => ⟨rfl, fun w' => ex_madeE2 rfl⟩) (ak (fun γ => ⟨rfl, rfl, rfl, fun w' h => ex_laidA h rfl Tryd.sizeOf26 rfl rfl rfl⟩) trivial)))
 intro γ w3 l hM hl
 have H3 : Hid (Mm w3 [(γ 2, cel [mn, 0]), (γ2_1, cel [0, k1]), (0, dtab)] ∧ _) := growB H2 hM (Nat.le_refl _) hl [2] rfl (by decide)
 have o3_2 := ownB H2 hM (Nat.le_refl _) hl (i := 2) rfl
 clear hM hl l H2
 generalize γ 2 = γ3_2 at H3 o3_2 ⊢
 clear γ
 refine rest0 rfl (then_normal (wp_seq ?_))
 refine walk_seqA 8 [.quiet (V [0, k1]), .call (.tuple #[V [0, mn], .int .i64 0]), .quiet (.tuple #[V [0, mn], .int .i64 0]), .quiet (V [0, mn]), .quiet (.int .i64 0), .made (cel [0, 0]) 26, .laid 5 (cel [0, 0]) (cel [0, mn]), .quiet (.int .i64 0)] (sB H3) ?ho4 ?he4 (hL := ?hL4)
 case hL4 => exact ⟨⟨_, rfl⟩, trivial⟩
 case ho4 => exact ak (fun γ => ⟨rfl, fun w' h => ex_loadA (i := 0) (k := 2) h 1 rfl rfl rfl Tryd.isAgg26 Tryd.sizeOf26 rfl rfl⟩) (ak (fun γ => ⟨rfl, fun w' h => ⟨11, #[V [0, k1]], exec_call rfl call11 rfl (mpn rfl), C3.out w' (h.one 2 rfl)⟩⟩) (ak (fun _ => ⟨rfl, fun _ _ => rfl⟩) (ak (by refine fun γ => ⟨rfl, fun w' h => ?_⟩; clear h; go_simp) (ak (by refine fun γ => ⟨rfl, fun w' h => ?_⟩; clear h; go_simp) (ak (fun γ => ⟨rfl, fun w' => ex_madeE2 rfl⟩) (ak (fun γ => ⟨rfl, rfl, rfl, fun w' h => ex_laidA h rfl Tryd.sizeOf26 rfl rfl rfl⟩) (ak (fun _ => ⟨rfl, fun _ _ => rfl⟩) trivial)))))))
 intro γ w4 l hM hl
 have H4 : Hid (Mm w4 [(γ 5, cel [0, mn]), (γ3_2, cel [mn, 0]), (γ2_1, cel [0, k1]), (0, dtab)] ∧ _) := growB H3 hM (Nat.le_refl _) hl [5] rfl (by decide)
 have o4_5 := ownB H3 hM (Nat.le_refl _) hl (i := 5) rfl
 clear hM hl l H3
 generalize γ 5 = γ4_5 at H4 o4_5 ⊢
 clear γ
 refine rest0 rfl (then_normal (wp_seq ?_))
 refine walk_seqA 8 [.quiet (V [0, 0]), .call (.tuple #[V [0, 0], .int .i64 6]), .quiet (.tuple #[V [0, 0], .int .i64 6]), .quiet (V [0, 0]), .quiet (.int .i64 6), .made (cel [0, 0]) 26, .laid 5 (cel [0, 0]) (cel [0, 0]), .quiet (.int .i64 6)] (sB H4) ?ho5 ?he5 (hL := ?hL5)
 case hL5 => exact ⟨⟨_, rfl⟩, trivial⟩
 case ho5 => exact ak (fun γ => ⟨rfl, fun w' _ => ex_buildE2z rfl⟩) (ak (fun γ => ⟨rfl, fun w' h => ⟨11, #[V [0, 0]], exec_call rfl call11 rfl (mpn rfl), C4.out w' (h.one 3 rfl)⟩⟩) (ak (fun _ => ⟨rfl, fun _ _ => rfl⟩) (ak (by refine fun γ => ⟨rfl, fun w' h => ?_⟩; clear h; go_simp) (ak (by refine fun γ => ⟨rfl, fun w' h => ?_⟩; clear h; go_simp) (ak (fun γ => ⟨rfl, fun w' => ex_madeE2 rfl⟩) (ak (fun γ => ⟨rfl, rfl, rfl, fun w' h => ex_laidA h rfl Tryd.sizeOf26 rfl rfl rfl⟩) (ak (fun _ => ⟨rfl, fun _ _ => rfl⟩) trivial)))))))
 intro γ w5 l hM hl
 have H5 : Hid (Mm w5 [(γ 5, cel [0, 0]), (γ4_5, cel [0, mn]), (γ3_2, cel [mn, 0]), (γ2_1, cel [0, k1]), (0, dtab)] ∧ _) := growB H4 hM (Nat.le_refl _) hl [5] rfl (by decide)
 have o5_5 := ownB H4 hM (Nat.le_refl _) hl (i := 5) rfl
 clear hM hl l H4
 generalize γ 5 = γ5_5 at H5 o5_5 ⊢
 clear γ
 refine rest0 rfl (then_normal (wp_seq ?_))
 refine walk_seqA 8 [.quiet (V [mn, 0]), .call (.tuple #[V [0, k1], .int .i64 0]), .quiet (.tuple #[V [0, k1], .int .i64 0]), .quiet (V [0, k1]), .quiet (.int .i64 0), .made (cel [0, 0]) 26, .laid 5 (cel [0, 0]) (cel [0, k1]), .quiet (.int .i64 0)] (sB H5) ?ho6 ?he6 (hL := ?hL6)
 case hL6 => exact ⟨⟨_, rfl⟩, trivial⟩
 case ho6 => exact ak (fun γ => ⟨rfl, fun w' h => ex_loadA (i := 0) (k := 2) h 2 rfl rfl rfl Tryd.isAgg26 Tryd.sizeOf26 rfl rfl⟩) (ak (fun γ => ⟨rfl, fun w' h => ⟨12, #[V [mn, 0]], exec_call rfl call12 rfl (mpn rfl), C5.out w' (h.one 4 rfl)⟩⟩) (ak (fun _ => ⟨rfl, fun _ _ => rfl⟩) (ak (by refine fun γ => ⟨rfl, fun w' h => ?_⟩; clear h; go_simp) (ak (by refine fun γ => ⟨rfl, fun w' h => ?_⟩; clear h; go_simp) (ak (fun γ => ⟨rfl, fun w' => ex_madeE2 rfl⟩) (ak (fun γ => ⟨rfl, rfl, rfl, fun w' h => ex_laidA h rfl Tryd.sizeOf26 rfl rfl rfl⟩) (ak (fun _ => ⟨rfl, fun _ _ => rfl⟩) trivial)))))))
 intro γ w6 l hM hl
 have H6 : Hid (Mm w6 [(γ 5, cel [0, k1]), (γ5_5, cel [0, 0]), (γ4_5, cel [0, mn]), (γ3_2, cel [mn, 0]), (γ2_1, cel [0, k1]), (0, dtab)] ∧ _) := growB H5 hM (Nat.le_refl _) hl [5] rfl (by decide)
 have o6_5 := ownB H5 hM (Nat.le_refl _) hl (i := 5) rfl
 clear hM hl l H5
 generalize γ 5 = γ6_5 at H6 o6_5 ⊢
 clear γ
 refine rest0 rfl (then_normal (wp_seq ?_))
 refine walk_seqA 8 [.call (V [k1, k1]), .call (.tuple #[V [0, 0], .int .i64 6]), .quiet (.tuple #[V [0, 0], .int .i64 6]), .quiet (V [0, 0]), .quiet (.int .i64 6), .made (cel [0, 0]) 26, .laid 5 (cel [0, 0]) (cel [0, 0]), .quiet (.int .i64 6)] (sB H6) ?ho7 ?he7 (hL := ?hL7)
 case hL7 => exact ⟨⟨_, rfl⟩, trivial⟩
 case ho7 => exact ak (fun γ => ⟨rfl, fun w' h => ⟨9, #[.int .u64 1, .int .u64 1], exec_call rfl call9 rfl (mpn rfl), C6.out w'⟩⟩) (ak (fun γ => ⟨rfl, fun w' h => ⟨12, #[V [k1, k1]], exec_call rfl call12 rfl (mpn rfl), C7.out w' (h.one 5 rfl)⟩⟩) (ak (fun _ => ⟨rfl, fun _ _ => rfl⟩) (ak (by refine fun γ => ⟨rfl, fun w' h => ?_⟩; clear h; go_simp) (ak (by refine fun γ => ⟨rfl, fun w' h => ?_⟩; clear h; go_simp) (ak (fun γ => ⟨rfl, fun w' => ex_madeE2 rfl⟩) (ak (fun γ => ⟨rfl, rfl, rfl, fun w' h => ex_laidA h rfl Tryd.sizeOf26 rfl rfl rfl⟩) (ak (fun _ => ⟨rfl, fun _ _ => rfl⟩) trivial)))))))
 intro γ w7 l hM hl
 have H7 : Hid (Mm w7 [(γ 5, cel [0, 0]), (γ6_5, cel [0, k1]), (γ5_5, cel [0, 0]), (γ4_5, cel [0, mn]), (γ3_2, cel [mn, 0]), (γ2_1, cel [0, k1]), (0, dtab)] ∧ _) := growB H6 hM (Nat.le_refl _) hl [5] rfl (by decide)
 have o7_5 := ownB H6 hM (Nat.le_refl _) hl (i := 5) rfl
 clear hM hl l H6
 generalize γ 5 = γ7_5 at H7 o7_5 ⊢
 clear γ
 refine rest0 rfl (then_normal (wp_seq ?_))
 refine walk_seqA 8 [.quiet (V [0, 0]), .call (.tuple #[V [0, 0], .int .i64 0]), .quiet (.tuple #[V [0, 0], .int .i64 0]), .quiet (V [0, 0]), .quiet (.int .i64 0), .made (cel [0, 0]) 26, .laid 5 (cel [0, 0]) (cel [0, 0]), .quiet (.int .i64 0)] (sB H7) ?ho8 ?he8 (hL := ?hL8)
 case hL8 => exact ⟨⟨_, rfl⟩, trivial⟩
 case ho8 => exact ak (fun γ => ⟨rfl, fun w' _ => ex_buildE2z rfl⟩) (ak (fun γ => ⟨rfl, fun w' h => ⟨12, #[V [0, 0]], exec_call rfl call12 rfl (mpn rfl), C8.out w' (h.one 6 rfl)⟩⟩) (ak (fun _ => ⟨rfl, fun _ _ => rfl⟩) (ak (by refine fun γ => ⟨rfl, fun w' h => ?_⟩; clear h; go_simp) (ak (by refine fun γ => ⟨rfl, fun w' h => ?_⟩; clear h; go_simp) (ak (fun γ => ⟨rfl, fun w' => ex_madeE2 rfl⟩) (ak (fun γ => ⟨rfl, rfl, rfl, fun w' h => ex_laidA h rfl Tryd.sizeOf26 rfl rfl rfl⟩) (ak (fun _ => ⟨rfl, fun _ _ => rfl⟩) trivial)))))))
 intro γ w8 l hM hl
 have H8 : Hid (Mm w8 [(γ 5, cel [0, 0]), (γ7_5, cel [0, 0]), (γ6_5, cel [0, k1]), (γ5_5, cel [0, 0]), (γ4_5, cel [0, mn]), (γ3_2, cel [mn, 0]), (γ2_1, cel [0, k1]), (0, dtab)] ∧ _) := growB H7 hM (Nat.le_refl _) hl [5] rfl (by decide)
 have o8_5 := ownB H7 hM (Nat.le_refl _) hl (i := 5) rfl
 clear hM hl l H7
 generalize γ 5 = γ8_5 at H8 o8_5 ⊢
 clear γ
 refine rest0 rfl (then_normal (wp_seq ?_))
 refine walk_seqA 8 [.quiet (V [0, 0, 0, 0, 0, 0, 0, 0, 0, 0, 0, 0]), .call (.tuple #[V [0, 0, 0, 0, 0, 0, 0, 0, 0, 0, 0, 0], .int .i64 6]), .quiet (.tuple #[V [0, 0, 0, 0, 0, 0, 0, 0, 0, 0, 0, 0], .int .i64 6]), .quiet (V [0, 0, 0, 0, 0, 0, 0, 0, 0, 0, 0, 0]), .quiet (.int .i64 6), .made (cel [0, 0, 0, 0, 0, 0, 0, 0, 0, 0, 0, 0]) 28, .laid 5 (cel [0, 0, 0, 0, 0, 0, 0, 0, 0, 0, 0, 0]) (cel [0, 0, 0, 0, 0, 0, 0, 0, 0, 0, 0, 0]), .quiet (.int .i64 6)] (sB H8) ?ho9 ?he9 (hL := ?hL9)
 case hL9 => exact ⟨⟨_, rfl⟩, trivial⟩
 case ho9 => exact ak (fun γ => ⟨rfl, fun w' _ => ex_buildE12z rfl⟩) (ak (fun γ => ⟨rfl, fun w' h => ⟨13, #[V [0, 0, 0, 0, 0, 0, 0, 0, 0, 0, 0, 0]], exec_call rfl call13 rfl (mpn rfl), C9.out w' (h.one 7 rfl)⟩⟩) (ak (fun _ => ⟨rfl, fun _ _ => rfl⟩) (ak (by refine fun γ => ⟨rfl, fun w' h => ?_⟩; clear h; go_simp) (ak (by refine fun γ => ⟨rfl, fun w' h => ?_⟩; clear h; go_simp) (ak (fun γ => ⟨rfl, fun w' => ex_madeE12 rfl⟩) (ak (fun γ => ⟨rfl, rfl, rfl, fun w' h => ex_laidA h rfl Tryd.sizeOf28 rfl rfl rfl⟩) (ak (fun _ => ⟨rfl, fun _ _ => rfl⟩) trivial)))))))
 intro γ w9 l hM hl
 have H9 : Hid (Mm w9 [(γ 5, cel [0, 0, 0, 0, 0, 0, 0, 0, 0, 0, 0, 0]), (γ8_5, cel [0, 0]), (γ7_5, cel [0, 0]), (γ6_5, cel [0, k1]), (γ5_5, cel [0, 0]), (γ4_5, cel [0, mn]), (γ3_2, cel [mn, 0]), (γ2_1, cel [0, k1]), (0, dtab)] ∧ _) := growB H8 hM (Nat.le_refl _) hl [5] rfl (by decide)
 have o9_5 := ownB H8 hM (Nat.le_refl _) hl (i := 5) rfl
 clear hM hl l H8
 generalize γ 5 = γ9_5 at H9 o9_5 ⊢
 clear γ
 refine rest0 rfl (then_normal (wp_seq ?_))
 refine walk_anyB 19 [.call (V [0, 0, k1, 0, 0, 0, 0, 0, 0, 0, 0, 0]), .call (V [0, 0, mn, 0, 0, 0, 0, 0, 0, 0, 0, 0]), .quiet (V [0, 0]), .quiet (V [mn, 0]), .quiet (V [0, 0, mn, 0, 0, 0, 0, 0, 0, 0, 0, 0]), .quiet (.bool true), .quiet (.bool true), .call (V [0, 0, k1, 0, 0, 0, 0, 0, 0, 0, 0, 0]), .call (V [0, 0, k1, 0, 0, 0, 0, 0, 0, 0, 0, 0]), .call (V [0, 0, k1, 0, 0, 0, 0, 0, 0, 0, 0, 0]), .quiet (.bool true), .quiet (.bool true), .quiet (.bool true), .call (V [k1, 0, 0, 0, 0, 0, 0, 0, 0, 0, 0, 0]), .call (V [k1, 0, 0, 0, 0, 0, 0, 0, 0, 0, 0, 0]), .call (V [k1, 0, 0, 0, 0, 0, 0, 0, 0, 0, 0, 0]), .quiet (.bool true), .quiet (.bool true), .quiet (.bool true)] H9 ?ho10 ?he10
 case ho10 => exact ak (fun γ => ⟨rfl, fun w' h => ⟨15, #[], exec_call rfl call15 rfl (mpn rfl), C10.out w'⟩⟩) (ak (fun γ => ⟨rfl, fun w' h => ⟨14, #[V [0, 0, k1, 0, 0, 0, 0, 0, 0, 0, 0, 0]], exec_call rfl call14 rfl (mpn rfl), C11.out w'⟩⟩) (ak (fun γ => ⟨rfl, fun w' _ => ex_buildE2z rfl⟩) (ak (fun γ => ⟨rfl, fun w' h => ex_loadA (i := 0) (k := 2) h 6 rfl rfl rfl Tryd.isAgg26 Tryd.sizeOf26 rfl rfl⟩) (ak (fun γ => ⟨rfl, fun w' _ => ex_buildE12b rfl rfl rfl⟩) (ak (fun γ => ⟨rfl, fun w' _ => exec_eqE12 e_cw rfl rfl rfl⟩) (ak (fun _ => ⟨rfl, fun _ _ => rfl⟩) (ak (fun γ => ⟨rfl, fun w' h => ⟨15, #[], exec_call rfl call15 rfl (mpn rfl), C10.out w'⟩⟩) (ak (fun γ => ⟨rfl, fun w' h => ⟨8, #[V [0, 0, k1, 0, 0, 0, 0, 0, 0, 0, 0, 0], .int .i64 12], exec_call rfl call8 rfl (mpn rfl), C12.out w'⟩⟩) (ak (fun γ => ⟨rfl, fun w' h => ⟨15, #[], exec_call rfl call15 rfl (mpn rfl), C10.out w'⟩⟩) (ak (fun γ => ⟨rfl, fun w' _ => exec_eqE12 e_wv rfl rfl rfl⟩) (ak (by refine fun γ => ⟨rfl, fun w' h => ?_⟩; clear h; go_simp) (ak (fun _ => ⟨rfl, fun _ _ => rfl⟩) (ak (fun γ => ⟨rfl, fun w' h => ⟨16, #[], exec_call rfl call16 rfl (mpn rfl), C13.out w'⟩⟩) (ak (fun γ => ⟨rfl, fun w' h => ⟨8, #[V [k1, 0, 0, 0, 0, 0, 0, 0, 0, 0, 0, 0], .int .i64 5], exec_call rfl call8 rfl (mpn rfl), C14.out w'⟩⟩) (ak (fun γ => ⟨rfl, fun w' h => ⟨16, #[], exec_call rfl call16 rfl (mpn rfl), C13.out w'⟩⟩) (ak (fun γ => ⟨rfl, fun w' _ => exec_eqE12 e_on rfl rfl rfl⟩) (ak (by refine fun γ => ⟨rfl, fun w' h => ?_⟩; clear h; go_simp) (ak (fun _ => ⟨rfl, fun _ _ => rfl⟩) trivial))))))))))))))))))
 intro _ w10 H10
 clear H9
 refine rest0 rfl (then_normal (wp_seq ?_))
 refine walk_anyB 59 [.call (.bool true), .quiet (.bool true), .quiet (V [0, k1]), .quiet (V [0, k1]), .call (V [mn, 0]), .quiet (V [mn, 0]), .quiet (.bool true), .quiet (.bool true), .quiet (.bool true), .quiet (V [0, mn]), .quiet (V [0, k1]), .call (V [0, mn]), .quiet (.bool true), .quiet (.bool true), .quiet (.bool true), .quiet (.int .i64 0), .quiet (.bool true), .quiet (.bool true), .quiet (.bool true), .quiet (.int .i64 6), .quiet (.bool true), .quiet (.bool true), .quiet (.bool true), .quiet (V [0, k1]), .quiet (V [0, k1]), .quiet (.bool true), .quiet (.bool true), .quiet (.bool true), .quiet (.int .i64 0), .quiet (.bool true), .quiet (.bool true), .quiet (.bool true), .quiet (.int .i64 6), .quiet (.bool true), .quiet (.bool true), .quiet (.bool true), .quiet (V [0, 0]), .quiet (V [0, 0]), .quiet (.bool true), .quiet (.bool true), .quiet (.bool true), .quiet (.int .i64 0), .quiet (.bool true), .quiet (.bool true), .quiet (.bool true), .quiet (.int .i64 6), .quiet (.bool true), .quiet (.bool true), .quiet (.bool true), .quiet (.bool true), .quiet (.bool true), .quiet (.bool true), .call (V [k1, k1]), .call (V [k1, mn]), .quiet (N k1), .call (N k1), .quiet (.bool true), .quiet (.bool true), .quiet (.bool true)] H10 ?ho11 ?he11 (hL := ?hL11)
 case hL11 => exact trivial
 case ho11 => exact ak (fun γ => ⟨rfl, fun w' h => ⟨5, #[], exec_call rfl call5 rfl (mpn rfl), C15.out w' (h.one 8 rfl)⟩⟩) (ak (fun _ => ⟨rfl, fun _ _ => rfl⟩) (ak (fun γ => ⟨rfl, fun w' h => ex_loadA (i := 0) (k := 2) h 7 rfl rfl rfl Tryd.isAgg26 Tryd.sizeOf26 rfl rfl⟩) (ak (fun γ => ⟨rfl, fun w' h => ex_loadA (i := 0) (k := 2) h 7 rfl rfl rfl Tryd.isAgg26 Tryd.sizeOf26 rfl rfl⟩) (ak (fun γ => ⟨rfl, fun w' h => ⟨17, #[V [0, k1], V [0, k1]], exec_call rfl call17 rfl (mpn rfl), C16.out w'⟩⟩) (ak (fun γ => ⟨rfl, fun w' h => ex_loadA (i := 0) (k := 2) h 6 rfl rfl rfl Tryd.isAgg26 Tryd.sizeOf26 rfl rfl⟩) (ak (fun γ => ⟨rfl, fun w' _ => exec_eqE2 e_mn rfl rfl rfl⟩) (ak (by refine fun γ => ⟨rfl, fun w' h => ?_⟩; clear h; go_simp) (ak (fun _ => ⟨rfl, fun _ _ => rfl⟩) (ak (fun γ => ⟨rfl, fun w' h => ex_loadA (i := 0) (k := 2) h 5 rfl rfl rfl Tryd.isAgg26 Tryd.sizeOf26 rfl rfl⟩) (ak (fun γ => ⟨rfl, fun w' h => ex_loadA (i := 0) (k := 2) h 7 rfl rfl rfl Tryd.isAgg26 Tryd.sizeOf26 rfl rfl⟩) (ak (fun γ => ⟨rfl, fun w' h => ⟨10, #[V [0, k1]], exec_call rfl call10 rfl (mpn rfl), C17.out w'⟩⟩) (ak (fun γ => ⟨rfl, fun w' _ => exec_eqE2 e_ni rfl rfl rfl⟩) (ak (by refine fun γ => ⟨rfl, fun w' h => ?_⟩; clear h; go_simp) (ak (fun _ => ⟨rfl, fun _ _ => rfl⟩) (ak (fun _ => ⟨rfl, fun _ _ => rfl⟩) (ak (by refine fun γ => ⟨rfl, fun w' h => ?_⟩; clear h; go_simp) (ak (by refine fun γ => ⟨rfl, fun w' h => ?_⟩; clear h; go_simp) (ak (fun _ => ⟨rfl, fun _ _ => rfl⟩) (ak (fun _ => ⟨rfl, fun _ _ => rfl⟩) (ak (by refine fun γ => ⟨rfl, fun w' h => ?_⟩; clear h; go_simp) (ak (by refine fun γ => ⟨rfl, fun w' h => ?_⟩; clear h; go_simp) (ak (fun _ => ⟨rfl, fun _ _ => rfl⟩) (ak (fun γ => ⟨rfl, fun w' h => ex_loadA (i := 0) (k := 2) h 3 rfl rfl rfl Tryd.isAgg26 Tryd.sizeOf26 rfl rfl⟩) (ak (fun γ => ⟨rfl, fun w' h => ex_loadA (i := 0) (k := 2) h 7 rfl rfl rfl Tryd.isAgg26 Tryd.sizeOf26 rfl rfl⟩) (ak (fun γ => ⟨rfl, fun w' _ => exec_eqE2 e_i1 rfl rfl rfl⟩) (ak (by refine fun γ => ⟨rfl, fun w' h => ?_⟩; clear h; go_simp) (ak (fun _ => ⟨rfl, fun _ _ => rfl⟩) (ak (fun _ => ⟨rfl, fun _ _ => rfl⟩) (ak (by refine fun γ => ⟨rfl, fun w' h => ?_⟩; clear h; go_simp) (ak (by refine fun γ => ⟨rfl, fun w' h => ?_⟩; clear h; go_simp) (ak (fun _ => ⟨rfl, fun _ _ => rfl⟩) (ak (fun _ => ⟨rfl, fun _ _ => rfl⟩) (ak (by refine fun γ => ⟨rfl, fun w' h => ?_⟩; clear h; go_simp) (ak (by refine fun γ => ⟨rfl, fun w' h => ?_⟩; clear h; go_simp) (ak (fun _ => ⟨rfl, fun _ _ => rfl⟩) (ak (fun γ => ⟨rfl, fun w' h => ex_loadA (i := 0) (k := 2) h 1 rfl rfl rfl Tryd.isAgg26 Tryd.sizeOf26 rfl rfl⟩) (ak (fun γ => ⟨rfl, fun w' _ => ex_buildE2z rfl⟩) (ak (fun γ => ⟨rfl, fun w' _ => exec_eqE2 e_zz rfl rfl rfl⟩) (ak (by refine fun γ => ⟨rfl, fun w' h => ?_⟩; clear h; go_simp) (ak (fun _ => ⟨rfl, fun _ _ => rfl⟩) (ak (fun _ => ⟨rfl, fun _ _ => rfl⟩) (ak (by refine fun γ => ⟨rfl, fun w' h => ?_⟩; clear h; go_simp) (ak (by refine fun γ => ⟨rfl, fun w' h => ?_⟩; clear h; go_simp) (ak (fun _ => ⟨rfl, fun _ _ => rfl⟩) (ak (fun _ => ⟨rfl, fun _ _ => rfl⟩) (ak (by refine fun γ => ⟨rfl, fun w' h => ?_⟩; clear h; go_simp) (ak (by refine fun γ => ⟨rfl, fun w' h => ?_⟩; clear h; go_simp) (ak (fun _ => ⟨rfl, fun _ _ => rfl⟩) (ak (fun _ => ⟨rfl, fun _ _ => rfl⟩) (ak (by refine fun γ => ⟨rfl, fun w' h => ?_⟩; clear h; go_simp) (ak (fun _ => ⟨rfl, fun _ _ => rfl⟩) (ak (fun γ => ⟨rfl, fun w' h => ⟨9, #[.int .u64 1, .int .u64 1], exec_call rfl call9 rfl (mpn rfl), C6.out w'⟩⟩) (ak (fun γ => ⟨rfl, fun w' h => ⟨18, #[V [k1, k1]], exec_call rfl call18 rfl (mpn rfl), C18.out w'⟩⟩) (ak (fun γ => ⟨rfl, fun w' _ => ex_indexE2_0 rfl rfl rfl⟩) (ak (fun γ => ⟨rfl, fun w' h => ⟨19, #[.int .u64 1], exec_call rfl call19 rfl (mpn rfl), C19.out w'⟩⟩) (ak (fun γ => ⟨rfl, fun w' _ => exec_eq6 e_k rfl rfl rfl⟩) (ak (by refine fun γ => ⟨rfl, fun w' h => ?_⟩; clear h; go_simp) (ak (fun _ => ⟨rfl, fun _ _ => rfl⟩) trivial))))))))))))))))))))))))))))))))))))))))))))))))))))))))))
 intro _ w11 H11
 clear H10
 refine rest0 rfl (then_normal (wp_ret ?_))
 repeat (first | refine then_ret ?_ | refine block_ret ?_)
 refine bodyPost_ret (v := .bool true) (by simp [results, Tryd.results4, go_sem, *]) rfl ?_
 exact ⟨rfl, H11.out.2⟩
theorem iv_one {x : Int} (e : x = 1) : iv x = 1 := by
 subst e
 have h1 : ¬ Dv 1 := by rw [← pz_zero_iff]; decide +kernel
 have h := iv_mul h1
 rw [Int.mul_one, pz_small (iv_lt h1)] at h
 exact h
theorem not_one : ¬ Dv 1 := by rw [← pz_zero_iff]; decide +kernel
theorem sq_zero : Sq (((0 : Nat) : Int) * (0 : Nat) + ((0 : Nat) : Int) * (0 : Nat)) := sq_of (m := 0) (dv_zero.of (by decide))
theorem root00 (w : World) (hm : Mm w [(0, dtab)]) : Calls Tryd.prog 12 #[V [0, 0]] w (Rt w (.tuple #[V [0, 0], .int .i64 0])) := by
 obtain ⟨x, y, hu, hv, _, hc⟩ := rootT_ex 0 0 big_pos big_pos sq_zero
 have h1 : Dv (x * x - y * y) := hu.of (by omega)
 have h2 : Dv (2 * (x * y)) := hv.of (by omega)
 have h3 : O2 (x, y) := O2.sq ⟨h1, h2.of (by unfold cm; grind)⟩
 rw [(pz_zero_iff x).2 h3.1, (pz_zero_iff y).2 h3.2] at hc
 exact hc w hm
theorem root11 (w : World) (hm : Mm w [(0, dtab)]) : Calls Tryd.prog 12 #[V [1, 1]] w (Rt w (.tuple #[V [0, 0], .int .i64 6])) := by
 refine rootT_none 1 1 (small_big 1 (by decide)) (small_big 1 (by decide)) (fun hs => ?_) w hm
 have h' : Dv ((rr (((1 : Nat) : Int) * (1 : Nat) + ((1 : Nat) : Int) * (1 : Nat)) : Int) * (rr (((1 : Nat) : Int) * (1 : Nat) + ((1 : Nat) : Int) * (1 : Nat)) : Int) - (((1 : Nat) : Int) * (1 : Nat) + ((1 : Nat) : Int) * (1 : Nat))) := hs
 exact not_one (two_sq (m := (rr (((1 : Nat) : Int) * (1 : Nat) + ((1 : Nat) : Int) * (1 : Nat)) : Int)) (k := 1) (h'.of (by omega)))
theorem rootMn (w : World) (hm : Mm w [(0, dtab)]) : Calls Tryd.prog 12 #[V [pz (-1), 0]] w (Rt w (.tuple #[V [0, 1], .int .i64 0])) := by
 have hd := dv_pz (-1)
 have hs : Sq ((pz (-1) : Int) * (pz (-1) : Nat) + ((0 : Nat) : Int) * (0 : Nat)) := sq_of (m := 1) ((hd.mul (1 - (pz (-1) : Int))).of (by grind))
 obtain ⟨x, y, h1, h2, hle, hc⟩ := rootT_ex (pz (-1)) 0 (pz_big _) big_pos hs
 have k1 : Dv (2 * (x * y)) := h2.of (by omega)
 have h3 : Dv (x * x - y * y + 1) := (h1.add hd).of (by omega)
 have hx : Dv x := by
  rcases (k1.prime.resolve_left not_two).prime with hx | hy
  ·exact hx
  ·exact absurd (norm0 ((h3.add (hy.mul y)).of (show _ = x * x + 1 * 1 by omega))).2 not_one
 have k3 : Dv ((y - 1) * (y + 1)) := ((hx.mul x).sub h3).of (by grind)
 have hy : pz y = 1 := by
  rcases k3.prime with k | k
  ·rw [pz_mod y 1 k]
   exact pz_one
  ·exfalso
   have e1 : pz y = pz (-1) := pz_mod y (-1) (k.of (by omega))
   have e2 : pz (-y) = pz 1 := pz_mod (-y) 1 ((k.mul (-1)).of (by omega))
   unfold Le2 at hle
   rw [e1, e2] at hle
   have e3 : pz 1 < pz (-1) := by decide +kernel
   omega
 rw [(pz_zero_iff x).2 hx, hy] at hc
 exact hc w hm
theorem invI (w : World) (hm : Mm w [(0, dtab)]) : Calls Tryd.prog 11 #[V [0, 1]] w (Rt w (.tuple #[V [0, pz (-1)], .int .i64 0])) := by
 have h : ¬ Dv (((0 : Nat) : Int) * (0 : Nat) + ((1 : Nat) : Int) * (1 : Nat)) := fun k => not_one (k.of (by decide))
 have hc := invT_good 0 1 big_pos (small_big 1 (by decide)) h w hm
 rw [iv_one (show ((0 : Nat) : Int) * (0 : Nat) + ((1 : Nat) : Int) * (1 : Nat) = 1 by decide)] at hc
 have e0 : pz (((0 : Nat) : Int) * ((1 : Nat) : Int)) = 0 := pz_zero
 rw [e0] at hc
 exact hc
theorem inv00 (w : World) (hm : Mm w [(0, dtab)]) : Calls Tryd.prog 11 #[V [0, 0]] w (Rt w (.tuple #[V [0, 0], .int .i64 6])) := invT_bad 0 0 big_pos big_pos (dv_zero.of (by decide)) w hm
theorem inv12z (w : World) (hm : Mm w [(0, dtab)]) : Calls Tryd.prog 13 #[V [0, 0, 0, 0, 0, 0, 0, 0, 0, 0, 0, 0]] w (Rt w (.tuple #[V [0, 0, 0, 0, 0, 0, 0, 0, 0, 0, 0, 0], .int .i64 6])) :=
 inv12_bad zf (fun _ _ => big_pos) (nE_zero fun _ _ => dv_zero) w hm
theorem wn1_big : ∀ j, j < 12 → wn1 j < big := fun _ _ => by unfold wn1; split <;> exact small_big _ (by decide)
theorem conjW (w : World) : Calls Tryd.prog 14 #[V [0, 0, 1, 0, 0, 0, 0, 0, 0, 0, 0, 0]] w (Rt w (V [0, 0, pz (-1), 0, 0, 0, 0, 0, 0, 0, 0, 0])) := by
 have h := conjT12_any wn1 wn1_big w
 have e : lz (cj12 (zn wn1)) = [0, 0, pz (-1), 0, 0, 0, 0, 0, 0, 0, 0, 0] := by
  rw [zn_wn]
  simp only [lz, cj12, un1, pz_zero, Int.neg_zero]
 rw [e] at h
 exact h
theorem frobW (w : World) : Calls Tryd.prog 8 #[V [0, 0, 1, 0, 0, 0, 0, 0, 0, 0, 0, 0], .int .i64 12] w (Rt w (V [0, 0, 1, 0, 0, 0, 0, 0, 0, 0, 0, 0])) := by
 have h := frob_any wn1 wn1_big 12 w
 have e : lz (Tn (em 12) (zn wn1)) = [0, 0, 1, 0, 0, 0, 0, 0, 0, 0, 0, 0] := by
  rw [show em 12 = 0 from rfl, Tn_zero, zn_wn]
  show lz un1 = _
  simp only [lz, un1, pz_zero, pz_one]
 rw [e] at h
 exact h
theorem frobO (w : World) : Calls Tryd.prog 8 #[V [1, 0, 0, 0, 0, 0, 0, 0, 0, 0, 0, 0], .int .i64 5] w (Rt w (V [1, 0, 0, 0, 0, 0, 0, 0, 0, 0, 0, 0])) := by
 have h := frob_any oneN oneN_big 5 w
 have h5 : ∀ j, j < 12 → pz (Tn 5 one12 j) = pz (one12 j) := fun j hj => by
  unfold Tn
  rw [show (5 : Nat) = 2 * 2 + 1 from rfl, cjn_odd]
  match j, hj with
  | 0, _ => exact congrArg pz (by show (1 : Int) * 1 - -(0 : Int) * 0 = 1; decide)
  | 1, _ => exact congrArg pz (by show (1 : Int) * 0 + -(0 : Int) * 1 = 0; decide)
  | 2, _ => exact congrArg pz (by show (0 : Int) * _ - -(0 : Int) * _ = 0; simp only [Int.neg_zero, Int.zero_mul]; rfl)
  | 3, _ => exact congrArg pz (by show (0 : Int) * _ + -(0 : Int) * _ = 0; simp only [Int.neg_zero, Int.zero_mul]; rfl)
  | 4, _ => exact congrArg pz (by show (0 : Int) * _ - -(0 : Int) * _ = 0; simp only [Int.neg_zero, Int.zero_mul]; rfl)
  | 5, _ => exact congrArg pz (by show (0 : Int) * _ + -(0 : Int) * _ = 0; simp only [Int.neg_zero, Int.zero_mul]; rfl)
  | 6, _ => exact congrArg pz (by show (0 : Int) * _ - -(0 : Int) * _ = 0; simp only [Int.neg_zero, Int.zero_mul]; rfl)
  | 7, _ => exact congrArg pz (by show (0 : Int) * _ + -(0 : Int) * _ = 0; simp only [Int.neg_zero, Int.zero_mul]; rfl)
  | 8, _ => exact congrArg pz (by show (0 : Int) * _ - -(0 : Int) * _ = 0; simp only [Int.neg_zero, Int.zero_mul]; rfl)
  | 9, _ => exact congrArg pz (by show (0 : Int) * _ + -(0 : Int) * _ = 0; simp only [Int.neg_zero, Int.zero_mul]; rfl)
  | 10, _ => exact congrArg pz (by show (0 : Int) * _ - -(0 : Int) * _ = 0; simp only [Int.neg_zero, Int.zero_mul]; rfl)
  | 11, _ => exact congrArg pz (by show (0 : Int) * _ + -(0 : Int) * _ = 0; simp only [Int.neg_zero, Int.zero_mul]; rfl)
 have e : lz (Tn (em 5) (zn oneN)) = [1, 0, 0, 0, 0, 0, 0, 0, 0, 0, 0, 0] := by
  rw [show em 5 = 5 from rfl, zn_one, lz_congr2 h5]
  exact one_lz.symm
 rw [e] at h
 exact h
theorem reflE2 {x y : Nat} (hx : x < big) (hy : y < big) (w : World) : (Op.equalIn 10000 26 (V [x, y]) (V [x, y])).run Tryd.prog w = .ok true w := by
 rw [run_eqE2 x y x y hx hy hx hy, decide_eq_true rfl, decide_eq_true rfl]
 rfl
theorem reflE12 (a : Nat → Nat) (h : ∀ j, j < 12 → a j < big) (w : World) : (Op.equalIn 10000 28 (V (tl a)) (V (tl a))).run Tryd.prog w = .ok true w := by
 rw [run_eqE12 a a h h, decide_eq_true rfl]
def cwN : Nat → Nat
 | 2 => pz (-1)
 | _ => 0
theorem cwN_big : ∀ j, j < 12 → cwN j < big := fun _ _ => by
 unfold cwN
 split
 ·exact pz_big _
 ·exact big_pos
set_option maxRecDepth 100000 in
set_option maxHeartbeats 2000000 in
theorem known_any (w : World) (hm : Mm w [(0, dtab)]) : Calls Tryd.prog 4 #[] w (Rt w (.bool true)) := by
 have s1 : (1 : Nat) < big := small_big 1 (by decide)
 have n1 := fun w => neg2_any 1 0 s1 big_pos w
 have z0 : pz (-((0 : Nat) : Int)) = 0 := by decide +kernel
 have m1 : pz (-((1 : Nat) : Int)) = pz (-1) := rfl
 rw [z0, m1] at n1
 have n2 := fun w => neg2_any 0 1 big_pos s1 w
 rw [z0, m1] at n2
 have c1 := fun w => mulT_any 0 1 0 1 big_pos s1 big_pos s1 w
 rw [show pz (((0 : Nat) : Int) * (0 : Nat) - ((1 : Nat) : Int) * (1 : Nat)) = pz (-1) by decide +kernel, show pz (((0 : Nat) : Int) * (1 : Nat) + ((1 : Nat) : Int) * (0 : Nat)) = 0 by decide +kernel] at c1
 have c2 := fun w => conj2_any 1 1 s1 s1 w
 rw [m1, show pz ((1 : Nat) : Int) = 1 by decide +kernel] at c2
 exact known_gen 1 (pz (-1)) (fun w => reflE12 cwN cwN_big w) (fun w => reflE12 wn1 wn1_big w) (fun w => reflE12 oneN oneN_big w) (reflE2 (pz_big _) big_pos) (reflE2 big_pos (pz_big _)) (reflE2 big_pos s1) (reflE2 big_pos big_pos) (fun w => by rw [run_eqN 1 1 s1 s1, decide_eq_true rfl])
  (fun w => small_any 0 1 (by decide) (by decide) w) (fun w => small_any 1 0 (by decide) (by decide) w) n1 invI inv00 rootMn (fun w => small_any 1 1 (by decide) (by decide) w) root11 root00 inv12z w_any conjW frobW one_any frobO awake_any c1 n2 c2 (fun w => of_any 1 (by decide) w) w hm
end Rg
end Go.Proofs.YtgdlhgbdigpfhabDoor
end
