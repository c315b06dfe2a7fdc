/- Texts of the proof, joined. -/
import Derived.Test.YtgdlhgbdigpfhaaGreatDoorP6
section
namespace Go.Proofs.YtgdlhgbdigpfhaaGreatDoor
open Go.RowKit
namespace Rg
set_option maxHeartbeats 1000000 in
set_option maxRecDepth 100000 in
theorem rooN_1 (g n o s a k1 x ee r q : Nat) (e1 : ∀ w, (Op.equalIn 10000 24 (N q) (N a)).run Tryz.prog w = .ok true w)
  (c0 : ∀ w, Mm w [(g, modx n o s)] → Calls Tryz.prog 127 #[PT g 0] w (Rt w (N n)))
  (c1 : ∀ w, Calls Tryz.prog 75 #[.int .u64 1] w (Rt w (N k1)))
  (c2 : ∀ w, Calls Tryz.prog 79 #[N n, N k1] w (Rt w (N x)))
  (c3 : ∀ w, Calls Tryz.prog 126 #[N x, .int .i64 (-2)] w (Rt w (N ee)))
  (c4 : ∀ w, Mm w [(g, modx n o s)] → Calls Tryz.prog 125 #[PT g 0, N a, N ee] w (Rt w (N r)))
  (c5 : ∀ w, Mm w [(g, modx n o s)] → Calls Tryz.prog 91 #[PT g 0, N r, N r] w (Rt w (N q))) (w : World) (hm : Mm w [(g, modx n o s)]) :
  Calls Tryz.prog 94 #[.agg #[PT g 0], N a] w (Rt w (.tuple #[N r, .bool true])) := by
 have H0 : Hid (_ ∧ _) := ⟨hm, Below.refl w.heap.size w⟩
 clear hm
 have C0 : Hid _ := c0
 have C1 : Hid _ := c1
 have C2 : Hid _ := c2
 have C3 : Hid _ := c3
 have C4 : Hid _ := c4
 have C5 : Hid _ := c5
 clear c0 c1 c2 c3 c4 c5
 go_enter Tryz.func94, Tryz.ntmps94
 refine wp_seq ?_
 refine walk_seqA 4 [.made [PT g 0] 55, .made (cells6 a) 24, .made zero6 24, .quiet (.bool false)] (sB H0) ?ho1 ?he1
 case ho1 => exact ak (fun γ => ⟨rfl, fun w' => ex_boxF rfl rfl⟩) (ak (fun γ => ⟨rfl, fun w' => ex_box6 rfl rfl⟩) (ak (fun γ => ⟨rfl, fun w' => exec_made6 rfl⟩) (ak (fun _ => ⟨rfl, fun _ _ => rfl⟩) trivial)))
 intro γ w1 l hM hl
 have H1 : Hid (Mm w1 [(γ 0, [PT g 0]), (γ 1, cells6 a), (γ 2, zero6), (g, modx n o s)] ∧ _) := growB H0 hM (Nat.le_refl _) hl [0, 1, 2] rfl (by decide)
 have o1_0 := ownB H0 hM (Nat.le_refl _) hl (i := 0) rfl
 have o1_1 := ownB H0 hM (Nat.le_refl _) hl (i := 1) rfl
 have o1_2 := ownB H0 hM (Nat.le_refl _) hl (i := 2) rfl
 clear hM hl l
 generalize γ 0 = γ1_0 at H1 o1_0 ⊢
 generalize γ 1 = γ1_1 at H1 o1_1 ⊢
 generalize γ 2 = γ1_2 at H1 o1_2 ⊢
 clear γ
 refine rest0 rfl (then_normal (wp_seq ?_))
 refine walk_seqA 7 [.quiet (PT γ1_0 0), .quiet (PT g 0), .call (N n), .call (N k1), .call (N x), .made zero6 24, .laid 5 zero6 (cells6 x)] (sB H1) ?ho2 ?he2 (hL := ?hL2)
 case hL2 => exact ⟨⟨_, rfl⟩, trivial⟩
 case ho2 => exact ak (by refine fun γ => ⟨rfl, fun w' h => ?_⟩; clear h; go_simp) (ak (fun γ => ⟨rfl, fun w' h => ex_loadQ h 0 rfl rfl rfl rfl⟩) (ak (fun γ => ⟨rfl, fun w' h => ⟨127, #[PT g 0], exec_call rfl call127 rfl (mpn rfl), C0.out w' (h.one 3 rfl)⟩⟩) (ak (fun γ => ⟨rfl, fun w' h => ⟨75, #[.int .u64 1], exec_call rfl call75 rfl (mpn rfl), C1.out w'⟩⟩) (ak (fun γ => ⟨rfl, fun w' h => ⟨79, #[N n, N k1], exec_call rfl call79 rfl (mpn rfl), C2.out w'⟩⟩) (ak (fun γ => ⟨rfl, fun w' => exec_made6 rfl⟩) (ak (fun γ => ⟨rfl, rfl, rfl, fun w' h => exec_laid6 h rfl rfl rfl⟩) trivial))))))
 intro γ w2 l hM hl
 have H2 : Hid (Mm w2 [(γ 5, cells6 x), (γ1_0, [PT g 0]), (γ1_1, cells6 a), (γ1_2, zero6), (g, modx n o s)] ∧ _) := growB H1 hM (Nat.le_refl _) hl [5] rfl (by decide)
 have o2_5 := ownB H1 hM (Nat.le_refl _) hl (i := 5) rfl
 clear hM hl l H1
 generalize γ 5 = γ2_5 at H2 o2_5 ⊢
 clear γ
 refine rest0 rfl (then_normal (wp_seq ?_))
 refine walk_anyA 8 [.quiet (PT γ1_0 0), .quiet (PT g 0), .quiet (N a), .quiet (N x), .call (N ee), .call (N r), .made zero6 24, .laid 6 zero6 (cells6 r)] (sB H2) ?ho3 ?he3 (hL := ?hL3)
 case hL3 => exact ⟨⟨_, rfl⟩, trivial⟩
 case ho3 => exact ak (by refine fun γ => ⟨rfl, fun w' h => ?_⟩; clear h; go_simp) (ak (fun γ => ⟨rfl, fun w' h => ex_loadQ h 1 rfl rfl rfl rfl⟩) (ak (fun γ => ⟨rfl, fun w' h => ex_load6 h 2 rfl rfl rfl rfl⟩) (ak (fun γ => ⟨rfl, fun w' h => ex_load6 h 0 rfl rfl rfl rfl⟩) (ak (fun γ => ⟨rfl, fun w' h => ⟨126, #[N x, .int .i64 (-2)], exec_call rfl call126 rfl (mpn rfl), C3.out w'⟩⟩) (ak (fun γ => ⟨rfl, fun w' h => ⟨125, #[PT g 0, N a, N ee], exec_call rfl call125 rfl (mpn rfl), C4.out w' (h.one 4 rfl)⟩⟩) (ak (fun γ => ⟨rfl, fun w' => exec_made6 rfl⟩) (ak (fun γ => ⟨rfl, rfl, rfl, fun w' h => exec_laid6 h rfl rfl rfl⟩) trivial)))))))
 intro γ w3 l hM hl
 have H3 : Hid (Mm w3 [(γ 6, cells6 r), (γ2_5, cells6 x), (γ1_0, [PT g 0]), (γ1_1, cells6 a), (γ1_2, zero6), (g, modx n o s)] ∧ _) := growB H2 hM (Nat.le_refl _) hl [6] rfl (by decide)
 have o3_6 := ownB H2 hM (Nat.le_refl _) hl (i := 6) rfl
 clear hM hl l H2
 generalize γ 6 = γ3_6 at H3 o3_6 ⊢
 clear γ
 refine rest0 rfl (then_normal (wp_seq ?_))
 refine walk_put2 (by kernel_rfl) 8 [6, 7] [.quiet (N r), .quiet (PT γ1_0 0), .quiet (PT g 0), .quiet (N r), .quiet (N r), .call (N q), .quiet (N a), .quiet (.bool true)] _ ?pre4 ?F4 _ ?hpre4 (fun γ => ?hF4) (by kernel_rfl) rfl trivial (sB H3) ?ho4 ?hla4 ?he4
 case hpre4 => simp only [tk, tz]; rfl
 case hF4 => simp only [fill, Kind.val, Act.put, sa, sz, ss]; rfl
 case ho4 =>
  refine ak (fun γ => ⟨rfl, fun w' h => ex_load6 h 0 rfl rfl rfl rfl⟩) ?_
  refine ak (by refine fun γ => ⟨rfl, fun w' h => ?_⟩; clear h; go_simp) ?_
  refine ak (fun γ => ⟨rfl, fun w' h => ex_loadQ h 2 rfl rfl rfl rfl⟩) ?_
  refine ak (fun γ => ⟨rfl, fun w' h => ex_load6 h 0 rfl rfl rfl rfl⟩) ?_
  refine ak (fun γ => ⟨rfl, fun w' h => ex_load6 h 0 rfl rfl rfl rfl⟩) ?_
  refine ak (fun γ => ⟨rfl, fun w' h => ⟨91, #[PT g 0, N r, N r], exec_call rfl call91 rfl (mpn rfl), C5.out w' (h.one 5 rfl)⟩⟩) ?_
  refine ak (fun γ => ⟨rfl, fun w' h => ex_load6 h 3 rfl rfl rfl rfl⟩) ?_
  refine ak (fun γ => ⟨rfl, fun w' _ => exec_eq6 e1 rfl rfl rfl⟩) ?_
  exact trivial
 case hla4 => exact rfl
 intro γ w4 l hM hl
 have H4 := keepB H3 hM.below
 clear hM hl l H3 γ
 have H5 : Hid (Mm (w4.setCells γ1_2 0 (cells6 r)) [(γ3_6, cells6 r), (γ2_5, cells6 x), (γ1_0, [PT g 0]), (γ1_1, cells6 a), (γ1_2, cells6 r), (g, modx n o s)] ∧ Below w.heap.size w (w4.setCells γ1_2 0 (cells6 r))) := ⟨H4.out.1.put 4 (off := 0) (vs := cells6 r) rfl (Nat.le_of_ble_eq_true rfl), below_setCells _ o1_2.out _ _ _ H4.out.2⟩
 refine ⟨_, ex_store6 H4.out.1 4 rfl rfl rfl rfl (Nat.le_of_ble_eq_true rfl), ⟨⟨_, _, rfl, rfl, rfl, ex_load6 H5.out.1 3 rfl rfl rfl rfl⟩, ⟨_, _, rfl, rfl, rfl, by first | rfl | go_simp⟩, trivial⟩, ?_⟩
 clear H4
 generalize hgw : World.setCells _ _ _ _ = w5 at H5 ⊢
 clear hgw
 refine rest_at (l := [9]) rfl ?_
 refine rest_set (d := 5) rfl rfl rfl rfl ?_
 simp only [Act.put, sa, sz, ss]
 refine rest_nil (then_normal (wp_ret ?_))
 repeat (first | refine then_ret ?_ | refine block_ret ?_)
 have c0 := H5.out.1.get 4 rfl 0 rfl
 have c1 := H5.out.1.get 4 rfl 1 rfl
 have c2 := H5.out.1.get 4 rfl 2 rfl
 have c3 := H5.out.1.get 4 rfl 3 rfl
 have c4 := H5.out.1.get 4 rfl 4 rfl
 have c5 := H5.out.1.get 4 rfl 5 rfl
 refine bodyPost_ret (v := .tuple #[N r, .bool true]) (by simp [results, Tryz.results94, go_sem, *]) rfl ?_
 exact ⟨rfl, H5.out.2⟩
set_option maxHeartbeats 1000000 in
set_option maxRecDepth 100000 in
theorem rooN_2 (g n o s a k1 x ee r q : Nat) (e1 : ∀ w, (Op.equalIn 10000 24 (N q) (N a)).run Tryz.prog w = .ok false w)
  (c0 : ∀ w, Mm w [(g, modx n o s)] → Calls Tryz.prog 127 #[PT g 0] w (Rt w (N n)))
  (c1 : ∀ w, Calls Tryz.prog 75 #[.int .u64 1] w (Rt w (N k1)))
  (c2 : ∀ w, Calls Tryz.prog 79 #[N n, N k1] w (Rt w (N x)))
  (c3 : ∀ w, Calls Tryz.prog 126 #[N x, .int .i64 (-2)] w (Rt w (N ee)))
  (c4 : ∀ w, Mm w [(g, modx n o s)] → Calls Tryz.prog 125 #[PT g 0, N a, N ee] w (Rt w (N r)))
  (c5 : ∀ w, Mm w [(g, modx n o s)] → Calls Tryz.prog 91 #[PT g 0, N r, N r] w (Rt w (N q))) (w : World) (hm : Mm w [(g, modx n o s)]) :
  Calls Tryz.prog 94 #[.agg #[PT g 0], N a] w (Rt w (.tuple #[N r, .bool false])) := by
 have H0 : Hid (_ ∧ _) := ⟨hm, Below.refl w.heap.size w⟩
 clear hm
 have C0 : Hid _ := c0
 have C1 : Hid _ := c1
 have C2 : Hid _ := c2
 have C3 : Hid _ := c3
 have C4 : Hid _ := c4
 have C5 : Hid _ := c5
 clear c0 c1 c2 c3 c4 c5
 go_enter Tryz.func94, Tryz.ntmps94
 refine wp_seq ?_
 refine walk_seqA 4 [.made [PT g 0] 55, .made (cells6 a) 24, .made zero6 24, .quiet (.bool false)] (sB H0) ?ho1 ?he1
 case ho1 => exact ak (fun γ => ⟨rfl, fun w' => ex_boxF rfl rfl⟩) (ak (fun γ => ⟨rfl, fun w' => ex_box6 rfl rfl⟩) (ak (fun γ => ⟨rfl, fun w' => exec_made6 rfl⟩) (ak (fun _ => ⟨rfl, fun _ _ => rfl⟩) trivial)))
 intro γ w1 l hM hl
 have H1 : Hid (Mm w1 [(γ 0, [PT g 0]), (γ 1, cells6 a), (γ 2, zero6), (g, modx n o s)] ∧ _) := growB H0 hM (Nat.le_refl _) hl [0, 1, 2] rfl (by decide)
 have o1_0 := ownB H0 hM (Nat.le_refl _) hl (i := 0) rfl
 have o1_1 := ownB H0 hM (Nat.le_refl _) hl (i := 1) rfl
 have o1_2 := ownB H0 hM (Nat.le_refl _) hl (i := 2) rfl
 clear hM hl l
 generalize γ 0 = γ1_0 at H1 o1_0 ⊢
 generalize γ 1 = γ1_1 at H1 o1_1 ⊢
 generalize γ 2 = γ1_2 at H1 o1_2 ⊢
 clear γ
 refine rest0 rfl (then_normal (wp_seq ?_))
 refine walk_seqA 7 [.quiet (PT γ1_0 0), .quiet (PT g 0), .call (N n), .call (N k1), .call (N x), .made zero6 24, .laid 5 zero6 (cells6 x)] (sB H1) ?ho2 ?he2 (hL := ?hL2)
 case hL2 => exact ⟨⟨_, rfl⟩, trivial⟩
 case ho2 => exact ak (by refine fun γ => ⟨rfl, fun w' h => ?_⟩; clear h; go_simp) (ak (fun γ => ⟨rfl, fun w' h => ex_loadQ h 0 rfl rfl rfl rfl⟩) (ak (fun γ => ⟨rfl, fun w' h => ⟨127, #[PT g 0], exec_call rfl call127 rfl (mpn rfl), C0.out w' (h.one 3 rfl)⟩⟩) (ak (fun γ => ⟨rfl, fun w' h => ⟨75, #[.int .u64 1], exec_call rfl call75 rfl (mpn rfl), C1.out w'⟩⟩) (ak (fun γ => ⟨rfl, fun w' h => ⟨79, #[N n, N k1], exec_call rfl call79 rfl (mpn rfl), C2.out w'⟩⟩) (ak (fun γ => ⟨rfl, fun w' => exec_made6 rfl⟩) (ak (fun γ => ⟨rfl, rfl, rfl, fun w' h => exec_laid6 h rfl rfl rfl⟩) trivial))))))
 intro γ w2 l hM hl
 have H2 : Hid (Mm w2 [(γ 5, cells6 x), (γ1_0, [PT g 0]), (γ1_1, cells6 a), (γ1_2, zero6), (g, modx n o s)] ∧ _) := growB H1 hM (Nat.le_refl _) hl [5] rfl (by decide)
 have o2_5 := ownB H1 hM (Nat.le_refl _) hl (i := 5) rfl
 clear hM hl l H1
 generalize γ 5 = γ2_5 at H2 o2_5 ⊢
 clear γ
 refine rest0 rfl (then_normal (wp_seq ?_))
 refine walk_anyA 8 [.quiet (PT γ1_0 0), .quiet (PT g 0), .quiet (N a), .quiet (N x), .call (N ee), .call (N r), .made zero6 24, .laid 6 zero6 (cells6 r)] (sB H2) ?ho3 ?he3 (hL := ?hL3)
 case hL3 => exact ⟨⟨_, rfl⟩, trivial⟩
 case ho3 => exact ak (by refine fun γ => ⟨rfl, fun w' h => ?_⟩; clear h; go_simp) (ak (fun γ => ⟨rfl, fun w' h => ex_loadQ h 1 rfl rfl rfl rfl⟩) (ak (fun γ => ⟨rfl, fun w' h => ex_load6 h 2 rfl rfl rfl rfl⟩) (ak (fun γ => ⟨rfl, fun w' h => ex_load6 h 0 rfl rfl rfl rfl⟩) (ak (fun γ => ⟨rfl, fun w' h => ⟨126, #[N x, .int .i64 (-2)], exec_call rfl call126 rfl (mpn rfl), C3.out w'⟩⟩) (ak (fun γ => ⟨rfl, fun w' h => ⟨125, #[PT g 0, N a, N ee], exec_call rfl call125 rfl (mpn rfl), C4.out w' (h.one 4 rfl)⟩⟩) (ak (fun γ => ⟨rfl, fun w' => exec_made6 rfl⟩) (ak (fun γ => ⟨rfl, rfl, rfl, fun w' h => exec_laid6 h rfl rfl rfl⟩) trivial)))))))
 intro γ w3 l hM hl
 have H3 : Hid (Mm w3 [(γ 6, cells6 r), (γ2_5, cells6 x), (γ1_0, [PT g 0]), (γ1_1, cells6 a), (γ1_2, zero6), (g, modx n o s)] ∧ _) := growB H2 hM (Nat.le_refl _) hl [6] rfl (by decide)
 have o3_6 := ownB H2 hM (Nat.le_refl _) hl (i := 6) rfl
 clear hM hl l H2
 generalize γ 6 = γ3_6 at H3 o3_6 ⊢
 clear γ
 refine rest0 rfl (then_normal (wp_seq ?_))
 refine walk_put2 (by kernel_rfl) 8 [6, 7] [.quiet (N r), .quiet (PT γ1_0 0), .quiet (PT g 0), .quiet (N r), .quiet (N r), .call (N q), .quiet (N a), .quiet (.bool false)] _ ?pre4 ?F4 _ ?hpre4 (fun γ => ?hF4) (by kernel_rfl) rfl trivial (sB H3) ?ho4 ?hla4 ?he4
 case hpre4 => simp only [tk, tz]; rfl
 case hF4 => simp only [fill, Kind.val, Act.put, sa, sz, ss]; rfl
 case ho4 =>
  refine ak (fun γ => ⟨rfl, fun w' h => ex_load6 h 0 rfl rfl rfl rfl⟩) ?_
  refine ak (by refine fun γ => ⟨rfl, fun w' h => ?_⟩; clear h; go_simp) ?_
  refine ak (fun γ => ⟨rfl, fun w' h => ex_loadQ h 2 rfl rfl rfl rfl⟩) ?_
  refine ak (fun γ => ⟨rfl, fun w' h => ex_load6 h 0 rfl rfl rfl rfl⟩) ?_
  refine ak (fun γ => ⟨rfl, fun w' h => ex_load6 h 0 rfl rfl rfl rfl⟩) ?_
  refine ak (fun γ => ⟨rfl, fun w' h => ⟨91, #[PT g 0, N r, N r], exec_call rfl call91 rfl (mpn rfl), C5.out w' (h.one 5 rfl)⟩⟩) ?_
  refine ak (fun γ => ⟨rfl, fun w' h => ex_load6 h 3 rfl rfl rfl rfl⟩) ?_
  refine ak (fun γ => ⟨rfl, fun w' _ => exec_eq6 e1 rfl rfl rfl⟩) ?_
  exact trivial
 case hla4 => exact rfl
 intro γ w4 l hM hl
 have H4 := keepB H3 hM.below
 clear hM hl l H3 γ
 have H5 : Hid (Mm (w4.setCells γ1_2 0 (cells6 r)) [(γ3_6, cells6 r), (γ2_5, cells6 x), (γ1_0, [PT g 0]), (γ1_1, cells6 a), (γ1_2, cells6 r), (g, modx n o s)] ∧ Below w.heap.size w (w4.setCells γ1_2 0 (cells6 r))) := ⟨H4.out.1.put 4 (off := 0) (vs := cells6 r) rfl (Nat.le_of_ble_eq_true rfl), below_setCells _ o1_2.out _ _ _ H4.out.2⟩
 refine ⟨_, ex_store6 H4.out.1 4 rfl rfl rfl rfl (Nat.le_of_ble_eq_true rfl), ⟨⟨_, _, rfl, rfl, rfl, ex_load6 H5.out.1 3 rfl rfl rfl rfl⟩, ⟨_, _, rfl, rfl, rfl, by first | rfl | go_simp⟩, trivial⟩, ?_⟩
 clear H4
 generalize hgw : World.setCells _ _ _ _ = w5 at H5 ⊢
 clear hgw
 refine rest_at (l := [9]) rfl ?_
 refine rest_set (d := 5) rfl rfl rfl rfl ?_
 simp only [Act.put, sa, sz, ss]
 refine rest_nil (then_normal (wp_ret ?_))
 repeat (first | refine then_ret ?_ | refine block_ret ?_)
 have c0 := H5.out.1.get 4 rfl 0 rfl
 have c1 := H5.out.1.get 4 rfl 1 rfl
 have c2 := H5.out.1.get 4 rfl 2 rfl
 have c3 := H5.out.1.get 4 rfl 3 rfl
 have c4 := H5.out.1.get 4 rfl 4 rfl
 have c5 := H5.out.1.get 4 rfl 5 rfl
 refine bodyPost_ret (v := .tuple #[N r, .bool false]) (by simp [results, Tryz.results94, go_sem, *]) rfl ?_
 exact ⟨rfl, H5.out.2⟩
set_option maxHeartbeats 1000000 in
set_option maxRecDepth 100000 in
theorem rootN_1 (g n o s a r : Nat)
  (c0 : ∀ w, Mm w [(g, modx n o s)] → Calls Tryz.prog 94 #[.agg #[PT g 0], N a] w (Rt w (.tuple #[N r, .bool true]))) (w : World) (hm : Mm w [(g, modx n o s)]) :
  Calls Tryz.prog 92 #[.agg #[PT g 0], N a] w (Rt w (V [r, 0])) := by
 have H0 : Hid (_ ∧ _) := ⟨hm, Below.refl w.heap.size w⟩
 clear hm
 have C0 : Hid _ := c0
 clear c0
 go_enter Tryz.func92, Tryz.ntmps92
 refine wp_seq ?_
 refine walk_seqA 3 [.made [PT g 0] 55, .made (cells6 a) 24, .made (cel [0, 0]) 26] (sB H0) ?ho1 ?he1
 case ho1 => exact ak (fun γ => ⟨rfl, fun w' => ex_boxF rfl rfl⟩) (ak (fun γ => ⟨rfl, fun w' => ex_box6 rfl rfl⟩) (ak (fun γ => ⟨rfl, fun w' => ex_madeE2 rfl⟩) trivial))
 intro γ w1 l hM hl
 have H1 : Hid (Mm w1 [(γ 0, [PT g 0]), (γ 1, cells6 a), (γ 2, cel [0, 0]), (g, modx n o s)] ∧ _) := growB H0 hM (Nat.le_refl _) hl [0, 1, 2] rfl (by decide)
 have o1_0 := ownB H0 hM (Nat.le_refl _) hl (i := 0) rfl
 have o1_1 := ownB H0 hM (Nat.le_refl _) hl (i := 1) rfl
 have o1_2 := ownB H0 hM (Nat.le_refl _) hl (i := 2) rfl
 clear hM hl l
 generalize γ 0 = γ1_0 at H1 o1_0 ⊢
 generalize γ 1 = γ1_1 at H1 o1_1 ⊢
 generalize γ 2 = γ1_2 at H1 o1_2 ⊢
 clear γ
 refine rest0 rfl (then_normal (wp_seq ?_))
 refine walk_seqA 9 [.quiet (.agg #[PT g 0]), .quiet (N a), .call (.tuple #[N r, .bool true]), .quiet (.tuple #[N r, .bool true]), .quiet (N r), .quiet (.bool true), .made zero6 24, .laid 6 zero6 (cells6 r), .quiet (.bool true)] (sB H1) ?ho2 ?he2 (hL := ?hL2)
 case hL2 => exact ⟨⟨_, rfl⟩, trivial⟩
 case ho2 => exact ak (fun γ => ⟨rfl, fun w' h => ex_loadF h 0 rfl rfl rfl rfl⟩) (ak (fun γ => ⟨rfl, fun w' h => ex_load6 h 1 rfl rfl rfl rfl⟩) (ak (fun γ => ⟨rfl, fun w' h => ⟨94, #[.agg #[PT g 0], N a], exec_call rfl call94 rfl (mpn rfl), C0.out w' (h.one 3 rfl)⟩⟩) (ak (fun _ => ⟨rfl, fun _ _ => rfl⟩) (ak (by refine fun γ => ⟨rfl, fun w' h => ?_⟩; clear h; go_simp) (ak (by refine fun γ => ⟨rfl, fun w' h => ?_⟩; clear h; go_simp) (ak (fun γ => ⟨rfl, fun w' => exec_made6 rfl⟩) (ak (fun γ => ⟨rfl, rfl, rfl, fun w' h => exec_laid6 h rfl rfl rfl⟩) (ak (fun _ => ⟨rfl, fun _ _ => rfl⟩) trivial))))))))
 intro γ w2 l hM hl
 have H2 : Hid (Mm w2 [(γ 6, cells6 r), (γ1_0, [PT g 0]), (γ1_1, cells6 a), (γ1_2, cel [0, 0]), (g, modx n o s)] ∧ _) := growB H1 hM (Nat.le_refl _) hl [6] rfl (by decide)
 have o2_6 := ownB H1 hM (Nat.le_refl _) hl (i := 6) rfl
 clear hM hl l H1
 generalize γ 6 = γ2_6 at H2 o2_6 ⊢
 clear γ
 refine rest0 rfl (then_normal (wp_seq (wp_seq ?_)))
 refine walk_seqB 2 [.quiet (.bool true), .quiet (.bool false)] H2 ?ho3 ?he3
 case ho3 => exact ak (fun _ => ⟨rfl, fun _ _ => rfl⟩) (ak (by refine fun γ => ⟨rfl, fun w' h => ?_⟩; clear h; go_simp) trivial)
 intro _ w3 H3
 clear H2
 refine rest0 rfl (then_normal (wp_cond_false rfl ?_))
 refine wp_skip (then_normal (wp_seq ?_))
 refine walk_seqB 2 [.quiet (N r), .quiet (V [r, 0])] H3 ?ho4 ?he4
 case ho4 => exact ak (fun γ => ⟨rfl, fun w' h => ex_load6 h 0 rfl rfl rfl rfl⟩) (ak (fun γ => ⟨rfl, fun w' _ => ex_buildE2a rfl rfl⟩) trivial)
 intro _ w4 H4
 clear H3
 refine rest_at (l := [2]) rfl ?_
 refine rest_store rfl rfl rfl (ex_storeA (i := 0) (ms := [r, 0]) H4.out.1 3 rfl rfl rfl rfl Tryz.sizeOf26 (Nat.le_of_ble_eq_true rfl)) ?_
 have H5 : Hid (Mm (w4.setCells γ1_2 (6 * 0) (cel [r, 0])) [(γ2_6, cells6 r), (γ1_0, [PT g 0]), (γ1_1, cells6 a), (γ1_2, cel [r, 0]), (g, modx n o s)] ∧ Below w.heap.size w (w4.setCells γ1_2 (6 * 0) (cel [r, 0]))) := ⟨by
  have h := H4.out.1.put 3 (off := 6 * 0) (vs := cel [r, 0]) rfl (by simp only [cel_len]; exact Nat.le_of_ble_eq_true rfl)
  rw [cel_patch] at h
  exact h, below_setCells _ o1_2.out _ _ _ H4.out.2⟩
 clear H4
 generalize hgw : World.setCells _ _ _ _ = w5 at H5 ⊢
 clear hgw
 refine rest_nil (then_normal (wp_ret ?_))
 repeat (first | refine then_ret ?_ | refine block_ret ?_)
 have hf0 := cel_var (k := 2) H5.out.1 3 rfl Tryz.isAgg26 Tryz.sizeOf26 rfl
 refine bodyPost_ret (v := V [r, 0]) (by simp [results, Tryz.results92, asAddr, hf0]) rfl ?_
 exact ⟨rfl, H5.out.2⟩
set_option maxHeartbeats 1000000 in
set_option maxRecDepth 100000 in
theorem rootN_2 (g n o s a r : Nat)
  (c0 : ∀ w, Mm w [(g, modx n o s)] → Calls Tryz.prog 94 #[.agg #[PT g 0], N a] w (Rt w (.tuple #[N r, .bool false]))) (w : World) (hm : Mm w [(g, modx n o s)]) :
  Calls Tryz.prog 92 #[.agg #[PT g 0], N a] w (Rt w (V [0, r])) := by
 have H0 : Hid (_ ∧ _) := ⟨hm, Below.refl w.heap.size w⟩
 clear hm
 have C0 : Hid _ := c0
 clear c0
 go_enter Tryz.func92, Tryz.ntmps92
 refine wp_seq ?_
 refine walk_seqA 3 [.made [PT g 0] 55, .made (cells6 a) 24, .made (cel [0, 0]) 26] (sB H0) ?ho1 ?he1
 case ho1 => exact ak (fun γ => ⟨rfl, fun w' => ex_boxF rfl rfl⟩) (ak (fun γ => ⟨rfl, fun w' => ex_box6 rfl rfl⟩) (ak (fun γ => ⟨rfl, fun w' => ex_madeE2 rfl⟩) trivial))
 intro γ w1 l hM hl
 have H1 : Hid (Mm w1 [(γ 0, [PT g 0]), (γ 1, cells6 a), (γ 2, cel [0, 0]), (g, modx n o s)] ∧ _) := growB H0 hM (Nat.le_refl _) hl [0, 1, 2] rfl (by decide)
 have o1_0 := ownB H0 hM (Nat.le_refl _) hl (i := 0) rfl
 have o1_1 := ownB H0 hM (Nat.le_refl _) hl (i := 1) rfl
 have o1_2 := ownB H0 hM (Nat.le_refl _) hl (i := 2) rfl
 clear hM hl l
 generalize γ 0 = γ1_0 at H1 o1_0 ⊢
 generalize γ 1 = γ1_1 at H1 o1_1 ⊢
 generalize γ 2 = γ1_2 at H1 o1_2 ⊢
 clear γ
 refine rest0 rfl (then_normal (wp_seq ?_))
 refine walk_seqA 9 [.quiet (.agg #[PT g 0]), .quiet (N a), .call (.tuple #[N r, .bool false]), .quiet (.tuple #[N r, .bool false]), .quiet (N r), .quiet (.bool false), .made zero6 24, .laid 6 zero6 (cells6 r), .quiet (.bool false)] (sB H1) ?ho2 ?he2 (hL := ?hL2)
 case hL2 => exact ⟨⟨_, rfl⟩, trivial⟩
 case ho2 => exact ak (fun γ => ⟨rfl, fun w' h => ex_loadF h 0 rfl rfl rfl rfl⟩) (ak (fun γ => ⟨rfl, fun w' h => ex_load6 h 1 rfl rfl rfl rfl⟩) (ak (fun γ => ⟨rfl, fun w' h => ⟨94, #[.agg #[PT g 0], N a], exec_call rfl call94 rfl (mpn rfl), C0.out w' (h.one 3 rfl)⟩⟩) (ak (fun _ => ⟨rfl, fun _ _ => rfl⟩) (ak (by refine fun γ => ⟨rfl, fun w' h => ?_⟩; clear h; go_simp) (ak (by refine fun γ => ⟨rfl, fun w' h => ?_⟩; clear h; go_simp) (ak (fun γ => ⟨rfl, fun w' => exec_made6 rfl⟩) (ak (fun γ => ⟨rfl, rfl, rfl, fun w' h => exec_laid6 h rfl rfl rfl⟩) (ak (fun _ => ⟨rfl, fun _ _ => rfl⟩) trivial))))))))
 intro γ w2 l hM hl
 have H2 : Hid (Mm w2 [(γ 6, cells6 r), (γ1_0, [PT g 0]), (γ1_1, cells6 a), (γ1_2, cel [0, 0]), (g, modx n o s)] ∧ _) := growB H1 hM (Nat.le_refl _) hl [6] rfl (by decide)
 have o2_6 := ownB H1 hM (Nat.le_refl _) hl (i := 6) rfl
 clear hM hl l H1
 generalize γ 6 = γ2_6 at H2 o2_6 ⊢
 clear γ
 refine rest0 rfl (then_normal (wp_seq (wp_seq ?_)))
 refine walk_seqB 2 [.quiet (.bool false), .quiet (.bool true)] H2 ?ho3 ?he3
 case ho3 => exact ak (fun _ => ⟨rfl, fun _ _ => rfl⟩) (ak (by refine fun γ => ⟨rfl, fun w' h => ?_⟩; clear h; go_simp) trivial)
 intro _ w3 H3
 clear H2
 refine rest0 rfl (then_normal (wp_cond_true rfl (wp_seq ?_)))
 refine walk_seqB 3 [.quiet (N 0), .quiet (N r), .quiet (V [0, r])] H3 ?ho4 ?he4
 case ho4 => exact ak (by refine fun γ => ⟨rfl, fun w' h => ?_⟩; clear h; exact ex_zero6 rfl) (ak (fun γ => ⟨rfl, fun w' h => ex_load6 h 0 rfl rfl rfl rfl⟩) (ak (fun γ => ⟨rfl, fun w' _ => ex_buildE2 rfl rfl rfl⟩) trivial))
 intro _ w4 H4
 clear H3
 refine rest_at (l := [3]) rfl ?_
 refine rest_store rfl rfl rfl (ex_storeA (i := 0) (ms := [0, r]) H4.out.1 3 rfl rfl rfl rfl Tryz.sizeOf26 (Nat.le_of_ble_eq_true rfl)) ?_
 have H5 : Hid (Mm (w4.setCells γ1_2 (6 * 0) (cel [0, r])) [(γ2_6, cells6 r), (γ1_0, [PT g 0]), (γ1_1, cells6 a), (γ1_2, cel [0, r]), (g, modx n o s)] ∧ Below w.heap.size w (w4.setCells γ1_2 (6 * 0) (cel [0, r]))) := ⟨by
  have h := H4.out.1.put 3 (off := 6 * 0) (vs := cel [0, r]) rfl (by simp only [cel_len]; exact Nat.le_of_ble_eq_true rfl)
  rw [cel_patch] at h
  exact h, below_setCells _ o1_2.out _ _ _ H4.out.2⟩
 clear H4
 generalize hgw : World.setCells _ _ _ _ = w5 at H5 ⊢
 clear hgw
 refine rest_nil (then_normal (wp_ret ?_))
 repeat (first | refine then_ret ?_ | refine block_ret ?_)
 have hf0 := cel_var (k := 2) H5.out.1 3 rfl Tryz.isAgg26 Tryz.sizeOf26 rfl
 refine bodyPost_ret (v := V [0, r]) (by simp [results, Tryz.results92, asAddr, hf0]) rfl ?_
 exact ⟨rfl, H5.out.2⟩
set_option maxHeartbeats 1000000 in
set_option maxRecDepth 100000 in
theorem half_1 (g n o s a x r : Nat)
  (c0 : ∀ w, Calls Tryz.prog 71 #[N a, .int .i64 0] w (Rt w (.int .i64 1)))
  (c1 : ∀ w, Mm w [(g, modx n o s)] → Calls Tryz.prog 127 #[PT g 0] w (Rt w (N n)))
  (c2 : ∀ w, Calls Tryz.prog 79 #[N a, N n] w (Rt w (N x)))
  (c3 : ∀ w, Calls Tryz.prog 126 #[N x, .int .i64 (-1)] w (Rt w (N r))) (w : World) (hm : Mm w [(g, modx n o s)]) :
  Calls Tryz.prog 95 #[.agg #[PT g 0], N a] w (Rt w (N r)) := by
 have H0 : Hid (_ ∧ _) := ⟨hm, Below.refl w.heap.size w⟩
 clear hm
 have C0 : Hid _ := c0
 have C1 : Hid _ := c1
 have C2 : Hid _ := c2
 have C3 : Hid _ := c3
 clear c0 c1 c2 c3
 go_enter Tryz.func95, Tryz.ntmps95
 refine wp_seq ?_
 refine walk_seqA 3 [.made [PT g 0] 55, .made (cells6 a) 24, .made zero6 24] (sB H0) ?ho1 ?he1
 case ho1 => exact ak (fun γ => ⟨rfl, fun w' => ex_boxF rfl rfl⟩) (ak (fun γ => ⟨rfl, fun w' => ex_box6 rfl rfl⟩) (ak (fun γ => ⟨rfl, fun w' => exec_made6 rfl⟩) trivial))
 intro γ w1 l hM hl
 have H1 : Hid (Mm w1 [(γ 0, [PT g 0]), (γ 1, cells6 a), (γ 2, zero6), (g, modx n o s)] ∧ _) := growB H0 hM (Nat.le_refl _) hl [0, 1, 2] rfl (by decide)
 have o1_0 := ownB H0 hM (Nat.le_refl _) hl (i := 0) rfl
 have o1_1 := ownB H0 hM (Nat.le_refl _) hl (i := 1) rfl
 have o1_2 := ownB H0 hM (Nat.le_refl _) hl (i := 2) rfl
 clear hM hl l
 generalize γ 0 = γ1_0 at H1 o1_0 ⊢
 generalize γ 1 = γ1_1 at H1 o1_1 ⊢
 generalize γ 2 = γ1_2 at H1 o1_2 ⊢
 clear γ
 refine rest0 rfl (then_normal (wp_seq (wp_seq ?_)))
 refine walk_seqB 3 [.quiet (N a), .call (.int .i64 1), .quiet (.bool true)] H1 ?ho2 ?he2
 case ho2 => exact ak (fun γ => ⟨rfl, fun w' h => ex_load6 h 1 rfl rfl rfl rfl⟩) (ak (fun γ => ⟨rfl, fun w' h => ⟨71, #[N a, .int .i64 0], exec_call rfl call71 rfl (mpn rfl), C0.out w'⟩⟩) (ak (by refine fun γ => ⟨rfl, fun w' h => ?_⟩; clear h; go_simp) trivial))
 intro _ w2 H2
 clear H1
 refine rest0 rfl (then_normal (wp_cond_true rfl ?_))
 refine walk_anyB 5 [.quiet (N a), .quiet (PT γ1_0 0), .quiet (PT g 0), .call (N n), .call (N x)] H2 ?ho3 ?he3
 case ho3 => exact ak (fun γ => ⟨rfl, fun w' h => ex_load6 h 1 rfl rfl rfl rfl⟩) (ak (by refine fun γ => ⟨rfl, fun w' h => ?_⟩; clear h; go_simp) (ak (fun γ => ⟨rfl, fun w' h => ex_loadQ h 0 rfl rfl rfl rfl⟩) (ak (fun γ => ⟨rfl, fun w' h => ⟨127, #[PT g 0], exec_call rfl call127 rfl (mpn rfl), C1.out w' (h.one 3 rfl)⟩⟩) (ak (fun γ => ⟨rfl, fun w' h => ⟨79, #[N a, N n], exec_call rfl call79 rfl (mpn rfl), C2.out w'⟩⟩) trivial))))
 intro _ w3 H3
 clear H2
 refine rest_at (l := [5]) rfl ?_
 refine rest_store rfl rfl rfl (ex_store6 H3.out.1 1 rfl rfl rfl rfl (Nat.le_of_ble_eq_true rfl)) ?_
 have H4 : Hid (Mm (w3.setCells γ1_1 0 (cells6 x)) [(γ1_0, [PT g 0]), (γ1_1, cells6 x), (γ1_2, zero6), (g, modx n o s)] ∧ Below w.heap.size w (w3.setCells γ1_1 0 (cells6 x))) := ⟨H3.out.1.put 1 (off := 0) (vs := cells6 x) rfl (Nat.le_of_ble_eq_true rfl), below_setCells _ o1_1.out _ _ _ H3.out.2⟩
 clear H3
 generalize hgw : World.setCells _ _ _ _ = w4 at H4 ⊢
 clear hgw
 refine rest_nil (then_normal (wp_seq ?_))
 refine walk_seqB 2 [.quiet (N x), .call (N r)] H4 ?ho4 ?he4
 case ho4 => exact ak (fun γ => ⟨rfl, fun w' h => ex_load6 h 1 rfl rfl rfl rfl⟩) (ak (fun γ => ⟨rfl, fun w' h => ⟨126, #[N x, .int .i64 (-1)], exec_call rfl call126 rfl (mpn rfl), C3.out w'⟩⟩) trivial)
 intro _ w5 H5
 clear H4
 refine rest_at (l := [2]) rfl ?_
 refine rest_store rfl rfl rfl (ex_store6 H5.out.1 2 rfl rfl rfl rfl (Nat.le_of_ble_eq_true rfl)) ?_
 have H6 : Hid (Mm (w5.setCells γ1_2 0 (cells6 r)) [(γ1_0, [PT g 0]), (γ1_1, cells6 x), (γ1_2, cells6 r), (g, modx n o s)] ∧ Below w.heap.size w (w5.setCells γ1_2 0 (cells6 r))) := ⟨H5.out.1.put 2 (off := 0) (vs := cells6 r) rfl (Nat.le_of_ble_eq_true rfl), below_setCells _ o1_2.out _ _ _ H5.out.2⟩
 clear H5
 generalize hgw : World.setCells _ _ _ _ = w6 at H6 ⊢
 clear hgw
 refine rest_nil (then_normal (wp_ret ?_))
 repeat (first | refine then_ret ?_ | refine block_ret ?_)
 have c0 := H6.out.1.get 2 rfl 0 rfl
 have c1 := H6.out.1.get 2 rfl 1 rfl
 have c2 := H6.out.1.get 2 rfl 2 rfl
 have c3 := H6.out.1.get 2 rfl 3 rfl
 have c4 := H6.out.1.get 2 rfl 4 rfl
 have c5 := H6.out.1.get 2 rfl 5 rfl
 refine bodyPost_ret (v := N r) (by simp [results, Tryz.results95, go_sem, *]) rfl ?_
 exact ⟨rfl, H6.out.2⟩
set_option maxHeartbeats 1000000 in
set_option maxRecDepth 100000 in
theorem half_2 (g n o s a r : Nat)
  (c0 : ∀ w, Calls Tryz.prog 71 #[N a, .int .i64 0] w (Rt w (.int .i64 0)))
  (c1 : ∀ w, Calls Tryz.prog 126 #[N a, .int .i64 (-1)] w (Rt w (N r))) (w : World) (hm : Mm w [(g, modx n o s)]) :
  Calls Tryz.prog 95 #[.agg #[PT g 0], N a] w (Rt w (N r)) := by
 have H0 : Hid (_ ∧ _) := ⟨hm, Below.refl w.heap.size w⟩
 clear hm
 have C0 : Hid _ := c0
 have C1 : Hid _ := c1
 clear c0 c1
 go_enter Tryz.func95, Tryz.ntmps95
 refine wp_seq ?_
 refine walk_seqA 3 [.made [PT g 0] 55, .made (cells6 a) 24, .made zero6 24] (sB H0) ?ho1 ?he1
 case ho1 => exact ak (fun γ => ⟨rfl, fun w' => ex_boxF rfl rfl⟩) (ak (fun γ => ⟨rfl, fun w' => ex_box6 rfl rfl⟩) (ak (fun γ => ⟨rfl, fun w' => exec_made6 rfl⟩) trivial))
 intro γ w1 l hM hl
 have H1 : Hid (Mm w1 [(γ 0, [PT g 0]), (γ 1, cells6 a), (γ 2, zero6), (g, modx n o s)] ∧ _) := growB H0 hM (Nat.le_refl _) hl [0, 1, 2] rfl (by decide)
 have o1_0 := ownB H0 hM (Nat.le_refl _) hl (i := 0) rfl
 have o1_1 := ownB H0 hM (Nat.le_refl _) hl (i := 1) rfl
 have o1_2 := ownB H0 hM (Nat.le_refl _) hl (i := 2) rfl
 clear hM hl l
 generalize γ 0 = γ1_0 at H1 o1_0 ⊢
 generalize γ 1 = γ1_1 at H1 o1_1 ⊢
 generalize γ 2 = γ1_2 at H1 o1_2 ⊢
 clear γ
 refine rest0 rfl (then_normal (wp_seq (wp_seq ?_)))
 refine walk_seqB 3 [.quiet (N a), .call (.int .i64 0), .quiet (.bool false)] H1 ?ho2 ?he2
 case ho2 => exact ak (fun γ => ⟨rfl, fun w' h => ex_load6 h 1 rfl rfl rfl rfl⟩) (ak (fun γ => ⟨rfl, fun w' h => ⟨71, #[N a, .int .i64 0], exec_call rfl call71 rfl (mpn rfl), C0.out w'⟩⟩) (ak (by refine fun γ => ⟨rfl, fun w' h => ?_⟩; clear h; go_simp) trivial))
 intro _ w2 H2
 clear H1
 refine rest0 rfl (then_normal (wp_cond_false rfl ?_))
 refine wp_skip (then_normal (wp_seq ?_))
 refine walk_seqB 2 [.quiet (N a), .call (N r)] H2 ?ho3 ?he3
 case ho3 => exact ak (fun γ => ⟨rfl, fun w' h => ex_load6 h 1 rfl rfl rfl rfl⟩) (ak (fun γ => ⟨rfl, fun w' h => ⟨126, #[N a, .int .i64 (-1)], exec_call rfl call126 rfl (mpn rfl), C1.out w'⟩⟩) trivial)
 intro _ w3 H3
 clear H2
 refine rest_at (l := [2]) rfl ?_
 refine rest_store rfl rfl rfl (ex_store6 H3.out.1 2 rfl rfl rfl rfl (Nat.le_of_ble_eq_true rfl)) ?_
 have H4 : Hid (Mm (w3.setCells γ1_2 0 (cells6 r)) [(γ1_0, [PT g 0]), (γ1_1, cells6 a), (γ1_2, cells6 r), (g, modx n o s)] ∧ Below w.heap.size w (w3.setCells γ1_2 0 (cells6 r))) := ⟨H3.out.1.put 2 (off := 0) (vs := cells6 r) rfl (Nat.le_of_ble_eq_true rfl), below_setCells _ o1_2.out _ _ _ H3.out.2⟩
 clear H3
 generalize hgw : World.setCells _ _ _ _ = w4 at H4 ⊢
 clear hgw
 refine rest_nil (then_normal (wp_ret ?_))
 repeat (first | refine then_ret ?_ | refine block_ret ?_)
 have c0 := H4.out.1.get 2 rfl 0 rfl
 have c1 := H4.out.1.get 2 rfl 1 rfl
 have c2 := H4.out.1.get 2 rfl 2 rfl
 have c3 := H4.out.1.get 2 rfl 3 rfl
 have c4 := H4.out.1.get 2 rfl 4 rfl
 have c5 := H4.out.1.get 2 rfl 5 rfl
 refine bodyPost_ret (v := N r) (by simp [results, Tryz.results95, go_sem, *]) rfl ?_
 exact ⟨rfl, H4.out.2⟩
end Rg
end Go.Proofs.YtgdlhgbdigpfhaaGreatDoor
end
section
namespace Go.Proofs.YtgdlhgbdigpfhaaGreatDoor
open Go.RowKit
namespace Rg
set_option maxHeartbeats 2000000 in
set_option maxRecDepth 100000 in
theorem root2_1 (g n o s a0 a1 r0 r1 : Nat) (e1 : ∀ w, (Op.equalIn 10000 24 (N a1) (N 0)).run Tryz.prog w = .ok true w)
  (c0 : ∀ w, Mm w [(g, modx n o s)] → Calls Tryz.prog 92 #[.agg #[PT g 0], N a0] w (Rt w (V [r0, r1]))) (w : World) (hm : Mm w [(g, modx n o s), (0, dtab)]) :
  Calls Tryz.prog 54 #[.agg #[PT g 0], V [a0, a1]] w (Rt w (.tuple #[V [r0, r1], .int .i64 0])) := by
 have H0 : Hid (_ ∧ _) := ⟨hm, Below.refl w.heap.size w⟩
 clear hm
 have C0 : Hid _ := c0
 clear c0
 go_enter Tryz.func54, Tryz.ntmps54
 refine wp_seq ?_
 refine walk_seqA 4 [.made [PT g 0] 55, .made (cel [a0, a1]) 26, .made (cel [0, 0]) 26, .quiet (.int .i64 0)] (sB H0) ?ho1 ?he1
 case ho1 => exact ak (fun γ => ⟨rfl, fun w' => ex_boxF rfl rfl⟩) (ak (fun γ => ⟨rfl, fun w' => ex_boxA rfl rfl⟩) (ak (fun γ => ⟨rfl, fun w' => ex_madeE2 rfl⟩) (ak (fun _ => ⟨rfl, fun _ _ => rfl⟩) trivial)))
 intro γ w1 l hM hl
 have H1 : Hid (Mm w1 [(γ 0, [PT g 0]), (γ 1, cel [a0, a1]), (γ 2, cel [0, 0]), (g, modx n o s), (0, dtab)] ∧ _) := growB H0 hM (Nat.le_refl _) hl [0, 1, 2] rfl (by decide)
 have o1_0 := ownB H0 hM (Nat.le_refl _) hl (i := 0) rfl
 have o1_1 := ownB H0 hM (Nat.le_refl _) hl (i := 1) rfl
 have o1_2 := ownB H0 hM (Nat.le_refl _) hl (i := 2) rfl
 clear hM hl l
 generalize γ 0 = γ1_0 at H1 o1_0 ⊢
 generalize γ 1 = γ1_1 at H1 o1_1 ⊢
 generalize γ 2 = γ1_2 at H1 o1_2 ⊢
 clear γ
 refine rest0 rfl (then_normal (wp_seq (wp_seq ?_)))
 refine walk_seqB 4 [.quiet (PT γ1_1 6), .quiet (N a1), .quiet (N 0), .quiet (.bool true)] H1 ?ho2 ?he2
 case ho2 => exact ak (by refine fun γ => ⟨rfl, fun w' h => ?_⟩; clear h; go_simp) (ak (fun γ => ⟨rfl, fun w' h => ex_loadN (i := 1) h 1 rfl rfl rfl rfl⟩) (ak (by refine fun γ => ⟨rfl, fun w' h => ?_⟩; clear h; exact ex_zero6 rfl) (ak (fun γ => ⟨rfl, fun w' _ => exec_eq6 e1 rfl rfl rfl⟩) trivial)))
 intro _ w2 H2
 clear H1
 refine rest0 rfl (then_normal (wp_cond_true rfl (wp_seq ?_)))
 refine walk_seqB 4 [.quiet (.agg #[PT g 0]), .quiet (PT γ1_1 0), .quiet (N a0), .call (V [r0, r1])] H2 ?ho3 ?he3
 case ho3 => exact ak (fun γ => ⟨rfl, fun w' h => ex_loadF h 0 rfl rfl rfl rfl⟩) (ak (by refine fun γ => ⟨rfl, fun w' h => ?_⟩; clear h; go_simp) (ak (fun γ => ⟨rfl, fun w' h => ex_loadN (i := 0) h 1 rfl rfl rfl rfl⟩) (ak (fun γ => ⟨rfl, fun w' h => ⟨92, #[.agg #[PT g 0], N a0], exec_call rfl call92 rfl (mpn rfl), C0.out w' (h.one 3 rfl)⟩⟩) trivial)))
 intro _ w3 H3
 clear H2
 refine rest_at (l := [4, 5]) rfl ?_
 refine rest_store rfl rfl rfl (ex_storeA (i := 0) (ms := [r0, r1]) H3.out.1 2 rfl rfl rfl rfl Tryz.sizeOf26 (Nat.le_of_ble_eq_true rfl)) ?_
 have H4 : Hid (Mm (w3.setCells γ1_2 (6 * 0) (cel [r0, r1])) [(γ1_0, [PT g 0]), (γ1_1, cel [a0, a1]), (γ1_2, cel [r0, r1]), (g, modx n o s), (0, dtab)] ∧ Below w.heap.size w (w3.setCells γ1_2 (6 * 0) (cel [r0, r1]))) := ⟨by
  have h := H3.out.1.put 2 (off := 6 * 0) (vs := cel [r0, r1]) rfl (by simp only [cel_len]; exact Nat.le_of_ble_eq_true rfl)
  rw [cel_patch] at h
  exact h, below_setCells _ o1_2.out _ _ _ H3.out.2⟩
 clear H3
 generalize hgw : World.setCells _ _ _ _ = w4 at H4 ⊢
 clear hgw
 refine rest_set (d := 5) rfl rfl rfl rfl ?_
 simp only [Act.put, sa, sz, ss]
 refine rest_nil (then_normal (wp_ret ?_))
 repeat (first | refine then_ret ?_ | refine block_ret ?_)
 have hf0 := cel_var (k := 2) H4.out.1 2 rfl Tryz.isAgg26 Tryz.sizeOf26 rfl
 refine bodyPost_ret (v := .tuple #[V [r0, r1], .int .i64 0]) (by simp [results, Tryz.results54, asAddr, Act.eval, hf0]) rfl ?_
 exact ⟨rfl, H4.out.2⟩
set_option maxHeartbeats 2000000 in
set_option maxRecDepth 100000 in
theorem root2_3 (g n o s a0 a1 q sq x y p d i t : Nat) (ie : Int) (e1 : ∀ w, (Op.equalIn 10000 24 (N a1) (N 0)).run Tryz.prog w = .ok false w)
  (c0 : ∀ w, Mm w [(g, modx n o s)] → Calls Tryz.prog 90 #[.agg #[PT g 0], V [a0, a1]] w (Rt w (N q)))
  (c1 : ∀ w, Mm w [(g, modx n o s)] → Calls Tryz.prog 93 #[PT g 0, N q] w (Rt w (.tuple #[N sq, .int .i64 0])))
  (c2 : ∀ w, Calls Tryz.prog 44 #[N a0, N sq] w (Rt w (N x)))
  (c3 : ∀ w, Mm w [(g, modx n o s)] → Calls Tryz.prog 95 #[.agg #[PT g 0], N x] w (Rt w (N y)))
  (c4 : ∀ w, Mm w [(g, modx n o s)] → Calls Tryz.prog 94 #[.agg #[PT g 0], N y] w (Rt w (.tuple #[N p, .bool true])))
  (c5 : ∀ w, Calls Tryz.prog 44 #[N p, N p] w (Rt w (N d)))
  (c6 : ∀ w, Mm w [(g, modx n o s), (0, dtab)] → Calls Tryz.prog 89 #[PT g 0, N d] w (Rt w (.tuple #[N i, .int .i64 ie])))
  (c7 : ∀ w, Mm w [(g, modx n o s)] → Calls Tryz.prog 91 #[PT g 0, N a1, N i] w (Rt w (N t))) (w : World) (hm : Mm w [(g, modx n o s), (0, dtab)]) :
  Calls Tryz.prog 54 #[.agg #[PT g 0], V [a0, a1]] w (Rt w (.tuple #[V [p, t], .int .i64 0])) := by
 have H0 : Hid (_ ∧ _) := ⟨hm, Below.refl w.heap.size w⟩
 clear hm
 have C0 : Hid _ := c0
 have C1 : Hid _ := c1
 have C2 : Hid _ := c2
 have C3 : Hid _ := c3
 have C4 : Hid _ := c4
 have C5 : Hid _ := c5
 have C6 : Hid _ := c6
 have C7 : Hid _ := c7
 clear c0 c1 c2 c3 c4 c5 c6 c7
 go_enter Tryz.func54, Tryz.ntmps54
 refine wp_seq ?_
 refine walk_seqA 4 [.made [PT g 0] 55, .made (cel [a0, a1]) 26, .made (cel [0, 0]) 26, .quiet (.int .i64 0)] (sB H0) ?ho1 ?he1
 case ho1 => exact ak (fun γ => ⟨rfl, fun w' => ex_boxF rfl rfl⟩) (ak (fun γ => ⟨rfl, fun w' => ex_boxA rfl rfl⟩) (ak (fun γ => ⟨rfl, fun w' => ex_madeE2 rfl⟩) (ak (fun _ => ⟨rfl, fun _ _ => rfl⟩) trivial)))
 intro γ w1 l hM hl
 have H1 : Hid (Mm w1 [(γ 0, [PT g 0]), (γ 1, cel [a0, a1]), (γ 2, cel [0, 0]), (g, modx n o s), (0, dtab)] ∧ _) := growB H0 hM (Nat.le_refl _) hl [0, 1, 2] rfl (by decide)
 have o1_0 := ownB H0 hM (Nat.le_refl _) hl (i := 0) rfl
 have o1_1 := ownB H0 hM (Nat.le_refl _) hl (i := 1) rfl
 have o1_2 := ownB H0 hM (Nat.le_refl _) hl (i := 2) rfl
 clear hM hl l
 generalize γ 0 = γ1_0 at H1 o1_0 ⊢
 generalize γ 1 = γ1_1 at H1 o1_1 ⊢
 generalize γ 2 = γ1_2 at H1 o1_2 ⊢
 clear γ
 refine rest0 rfl (then_normal (wp_seq (wp_seq ?_)))
 refine walk_seqB 4 [.quiet (PT γ1_1 6), .quiet (N a1), .quiet (N 0), .quiet (.bool false)] H1 ?ho2 ?he2
 case ho2 => exact ak (by refine fun γ => ⟨rfl, fun w' h => ?_⟩; clear h; go_simp) (ak (fun γ => ⟨rfl, fun w' h => ex_loadN (i := 1) h 1 rfl rfl rfl rfl⟩) (ak (by refine fun γ => ⟨rfl, fun w' h => ?_⟩; clear h; exact ex_zero6 rfl) (ak (fun γ => ⟨rfl, fun w' _ => exec_eq6 e1 rfl rfl rfl⟩) trivial)))
 intro _ w2 H2
 clear H1
 refine rest0 rfl (then_normal (wp_cond_false rfl ?_))
 refine wp_skip (then_normal (wp_seq ?_))
 refine walk_anyA 12 [.quiet (PT γ1_0 0), .quiet (PT g 0), .quiet (.agg #[PT g 0]), .quiet (V [a0, a1]), .call (N q), .call (.tuple #[N sq, .int .i64 0]), .quiet (.tuple #[N sq, .int .i64 0]), .quiet (N sq), .quiet (.int .i64 0), .made zero6 24, .laid 9 zero6 (cells6 sq), .quiet (.int .i64 0)] (sB H2) ?ho3 ?he3 (hL := ?hL3)
 case hL3 => exact ⟨⟨_, rfl⟩, trivial⟩
 case ho3 => exact ak (by refine fun γ => ⟨rfl, fun w' h => ?_⟩; clear h; go_simp) (ak (fun γ => ⟨rfl, fun w' h => ex_loadQ h 0 rfl rfl rfl rfl⟩) (ak (fun γ => ⟨rfl, fun w' h => ex_loadF h 0 rfl rfl rfl rfl⟩) (ak (fun γ => ⟨rfl, fun w' h => ex_loadA (i := 0) (k := 2) h 1 rfl rfl rfl Tryz.isAgg26 Tryz.sizeOf26 rfl rfl⟩) (ak (fun γ => ⟨rfl, fun w' h => ⟨90, #[.agg #[PT g 0], V [a0, a1]], exec_call rfl call90 rfl (mpn rfl), C0.out w' (h.one 3 rfl)⟩⟩) (ak (fun γ => ⟨rfl, fun w' h => ⟨93, #[PT g 0, N q], exec_call rfl call93 rfl (mpn rfl), C1.out w' (h.one 3 rfl)⟩⟩) (ak (fun _ => ⟨rfl, fun _ _ => rfl⟩) (ak (by refine fun γ => ⟨rfl, fun w' h => ?_⟩; clear h; go_simp) (ak (by refine fun γ => ⟨rfl, fun w' h => ?_⟩; clear h; go_simp) (ak (fun γ => ⟨rfl, fun w' => exec_made6 rfl⟩) (ak (fun γ => ⟨rfl, rfl, rfl, fun w' h => exec_laid6 h rfl rfl rfl⟩) (ak (fun _ => ⟨rfl, fun _ _ => rfl⟩) trivial)))))))))))
 intro γ w3 l hM hl
 have H3 : Hid (Mm w3 [(γ 9, cells6 sq), (γ1_0, [PT g 0]), (γ1_1, cel [a0, a1]), (γ1_2, cel [0, 0]), (g, modx n o s), (0, dtab)] ∧ _) := growB H2 hM (Nat.le_refl _) hl [9] rfl (by decide)
 have o3_9 := ownB H2 hM (Nat.le_refl _) hl (i := 9) rfl
 clear hM hl l H2
 generalize γ 9 = γ3_9 at H3 o3_9 ⊢
 clear γ
 refine rest0 rfl (then_normal (wp_seq (wp_seq ?_)))
 refine walk_seqB 2 [.quiet (.int .i64 0), .quiet (.bool false)] H3 ?ho4 ?he4
 case ho4 => exact ak (fun _ => ⟨rfl, fun _ _ => rfl⟩) (ak (by refine fun γ => ⟨rfl, fun w' h => ?_⟩; clear h; go_simp) trivial)
 intro _ w4 H4
 clear H3
 refine rest0 rfl (then_normal (wp_cond_false rfl ?_))
 refine wp_skip (then_normal (wp_seq ?_))
 refine walk_anyA 14 [.quiet (.agg #[PT g 0]), .quiet (.agg #[PT g 0]), .quiet (PT γ1_1 0), .quiet (N a0), .quiet (N sq), .call (N x), .call (N y), .call (.tuple #[N p, .bool true]), .quiet (.tuple #[N p, .bool true]), .quiet (N p), .quiet (.bool true), .made zero6 24, .laid 11 zero6 (cells6 p), .quiet (.bool true)] (sB H4) ?ho5 ?he5 (hL := ?hL5)
 case hL5 => exact ⟨⟨_, rfl⟩, trivial⟩
 case ho5 => exact ak (fun γ => ⟨rfl, fun w' h => ex_loadF h 1 rfl rfl rfl rfl⟩) (ak (fun γ => ⟨rfl, fun w' h => ex_loadF h 1 rfl rfl rfl rfl⟩) (ak (by refine fun γ => ⟨rfl, fun w' h => ?_⟩; clear h; go_simp) (ak (fun γ => ⟨rfl, fun w' h => ex_loadN (i := 0) h 2 rfl rfl rfl rfl⟩) (ak (fun γ => ⟨rfl, fun w' h => ex_load6 h 0 rfl rfl rfl rfl⟩) (ak (fun γ => ⟨rfl, fun w' h => ⟨44, #[N a0, N sq], exec_call rfl call44 rfl (mpn rfl), C2.out w'⟩⟩) (ak (fun γ => ⟨rfl, fun w' h => ⟨95, #[.agg #[PT g 0], N x], exec_call rfl call95 rfl (mpn rfl), C3.out w' (h.one 4 rfl)⟩⟩) (ak (fun γ => ⟨rfl, fun w' h => ⟨94, #[.agg #[PT g 0], N y], exec_call rfl call94 rfl (mpn rfl), C4.out w' (h.one 4 rfl)⟩⟩) (ak (fun _ => ⟨rfl, fun _ _ => rfl⟩) (ak (by refine fun γ => ⟨rfl, fun w' h => ?_⟩; clear h; go_simp) (ak (by refine fun γ => ⟨rfl, fun w' h => ?_⟩; clear h; go_simp) (ak (fun γ => ⟨rfl, fun w' => exec_made6 rfl⟩) (ak (fun γ => ⟨rfl, rfl, rfl, fun w' h => exec_laid6 h rfl rfl rfl⟩) (ak (fun _ => ⟨rfl, fun _ _ => rfl⟩) trivial)))))))))))))
 intro γ w5 l hM hl
 have H5 : Hid (Mm w5 [(γ 11, cells6 p), (γ3_9, cells6 sq), (γ1_0, [PT g 0]), (γ1_1, cel [a0, a1]), (γ1_2, cel [0, 0]), (g, modx n o s), (0, dtab)] ∧ _) := growB H4 hM (Nat.le_refl _) hl [11] rfl (by decide)
 have o5_11 := ownB H4 hM (Nat.le_refl _) hl (i := 11) rfl
 clear hM hl l H4
 generalize γ 11 = γ5_11 at H5 o5_11 ⊢
 clear γ
 refine rest0 rfl (then_normal (wp_seq ?_))
 refine walk_anyA 12 [.quiet (PT γ1_0 0), .quiet (PT g 0), .quiet (N p), .quiet (N p), .call (N d), .call (.tuple #[N i, .int .i64 ie]), .quiet (.tuple #[N i, .int .i64 ie]), .quiet (N i), .quiet (.int .i64 ie), .made zero6 24, .laid 9 zero6 (cells6 i), .quiet (.int .i64 ie)] (sB H5) ?ho6 ?he6 (hL := ?hL6)
 case hL6 => exact ⟨⟨_, rfl⟩, trivial⟩
 case ho6 => exact ak (by refine fun γ => ⟨rfl, fun w' h => ?_⟩; clear h; go_simp) (ak (fun γ => ⟨rfl, fun w' h => ex_loadQ h 2 rfl rfl rfl rfl⟩) (ak (fun γ => ⟨rfl, fun w' h => ex_load6 h 0 rfl rfl rfl rfl⟩) (ak (fun γ => ⟨rfl, fun w' h => ex_load6 h 0 rfl rfl rfl rfl⟩) (ak (fun γ => ⟨rfl, fun w' h => ⟨44, #[N p, N p], exec_call rfl call44 rfl (mpn rfl), C5.out w'⟩⟩) (ak (fun γ => ⟨rfl, fun w' h => ⟨89, #[PT g 0, N d], exec_call rfl call89 rfl (mpn rfl), C6.out w' (h.two 5 6 rfl rfl (by decide))⟩⟩) (ak (fun _ => ⟨rfl, fun _ _ => rfl⟩) (ak (by refine fun γ => ⟨rfl, fun w' h => ?_⟩; clear h; go_simp) (ak (by refine fun γ => ⟨rfl, fun w' h => ?_⟩; clear h; go_simp) (ak (fun γ => ⟨rfl, fun w' => exec_made6 rfl⟩) (ak (fun γ => ⟨rfl, rfl, rfl, fun w' h => exec_laid6 h rfl rfl rfl⟩) (ak (fun _ => ⟨rfl, fun _ _ => rfl⟩) trivial)))))))))))
 intro γ w6 l hM hl
 have H6 : Hid (Mm w6 [(γ 9, cells6 i), (γ5_11, cells6 p), (γ3_9, cells6 sq), (γ1_0, [PT g 0]), (γ1_1, cel [a0, a1]), (γ1_2, cel [0, 0]), (g, modx n o s), (0, dtab)] ∧ _) := growB H5 hM (Nat.le_refl _) hl [9] rfl (by decide)
 have o6_9 := ownB H5 hM (Nat.le_refl _) hl (i := 9) rfl
 clear hM hl l H5
 generalize γ 9 = γ6_9 at H6 o6_9 ⊢
 clear γ
 refine rest0 rfl (then_normal (wp_seq ?_))
 refine walk_seqA 8 [.quiet (PT γ1_0 0), .quiet (PT g 0), .quiet (PT γ1_1 6), .quiet (N a1), .quiet (N i), .call (N t), .made zero6 24, .laid 6 zero6 (cells6 t)] (sB H6) ?ho7 ?he7 (hL := ?hL7)
 case hL7 => exact ⟨⟨_, rfl⟩, trivial⟩
 case ho7 => exact ak (by refine fun γ => ⟨rfl, fun w' h => ?_⟩; clear h; go_simp) (ak (fun γ => ⟨rfl, fun w' h => ex_loadQ h 3 rfl rfl rfl rfl⟩) (ak (by refine fun γ => ⟨rfl, fun w' h => ?_⟩; clear h; go_simp) (ak (fun γ => ⟨rfl, fun w' h => ex_loadN (i := 1) h 4 rfl rfl rfl rfl⟩) (ak (fun γ => ⟨rfl, fun w' h => ex_load6 h 0 rfl rfl rfl rfl⟩) (ak (fun γ => ⟨rfl, fun w' h => ⟨91, #[PT g 0, N a1, N i], exec_call rfl call91 rfl (mpn rfl), C7.out w' (h.one 6 rfl)⟩⟩) (ak (fun γ => ⟨rfl, fun w' => exec_made6 rfl⟩) (ak (fun γ => ⟨rfl, rfl, rfl, fun w' h => exec_laid6 h rfl rfl rfl⟩) trivial)))))))
 intro γ w7 l hM hl
 have H7 : Hid (Mm w7 [(γ 6, cells6 t), (γ6_9, cells6 i), (γ5_11, cells6 p), (γ3_9, cells6 sq), (γ1_0, [PT g 0]), (γ1_1, cel [a0, a1]), (γ1_2, cel [0, 0]), (g, modx n o s), (0, dtab)] ∧ _) := growB H6 hM (Nat.le_refl _) hl [6] rfl (by decide)
 have o7_6 := ownB H6 hM (Nat.le_refl _) hl (i := 6) rfl
 clear hM hl l H6
 generalize γ 6 = γ7_6 at H7 o7_6 ⊢
 clear γ
 refine rest0 rfl (then_normal (wp_seq (wp_seq ?_)))
 refine walk_seqB 2 [.quiet (.bool true), .quiet (.bool false)] H7 ?ho8 ?he8
 case ho8 => exact ak (fun _ => ⟨rfl, fun _ _ => rfl⟩) (ak (by refine fun γ => ⟨rfl, fun w' h => ?_⟩; clear h; go_simp) trivial)
 intro _ w8 H8
 clear H7
 refine rest0 rfl (then_normal (wp_cond_false rfl ?_))
 refine wp_skip (then_normal (wp_seq ?_))
 refine walk_seqB 3 [.quiet (N p), .quiet (N t), .quiet (V [p, t])] H8 ?ho9 ?he9
 case ho9 => exact ak (fun γ => ⟨rfl, fun w' h => ex_load6 h 2 rfl rfl rfl rfl⟩) (ak (fun γ => ⟨rfl, fun w' h => ex_load6 h 0 rfl rfl rfl rfl⟩) (ak (fun γ => ⟨rfl, fun w' _ => ex_buildE2 rfl rfl rfl⟩) trivial))
 intro _ w9 H9
 clear H8
 refine rest_at (l := [3, 4]) rfl ?_
 refine rest_store rfl rfl rfl (ex_storeA (i := 0) (ms := [p, t]) H9.out.1 6 rfl rfl rfl rfl Tryz.sizeOf26 (Nat.le_of_ble_eq_true rfl)) ?_
 have H10 : Hid (Mm (w9.setCells γ1_2 (6 * 0) (cel [p, t])) [(γ7_6, cells6 t), (γ6_9, cells6 i), (γ5_11, cells6 p), (γ3_9, cells6 sq), (γ1_0, [PT g 0]), (γ1_1, cel [a0, a1]), (γ1_2, cel [p, t]), (g, modx n o s), (0, dtab)] ∧ Below w.heap.size w (w9.setCells γ1_2 (6 * 0) (cel [p, t]))) := ⟨by
  have h := H9.out.1.put 6 (off := 6 * 0) (vs := cel [p, t]) rfl (by simp only [cel_len]; exact Nat.le_of_ble_eq_true rfl)
  rw [cel_patch] at h
  exact h, below_setCells _ o1_2.out _ _ _ H9.out.2⟩
 clear H9
 generalize hgw : World.setCells _ _ _ _ = w10 at H10 ⊢
 clear hgw
 refine rest_set (d := 5) rfl rfl rfl rfl ?_
 simp only [Act.put, sa, sz, ss]
 refine rest_nil (then_normal (wp_ret ?_))
 repeat (first | refine then_ret ?_ | refine block_ret ?_)
 have hf0 := cel_var (k := 2) H10.out.1 6 rfl Tryz.isAgg26 Tryz.sizeOf26 rfl
 refine bodyPost_ret (v := .tuple #[V [p, t], .int .i64 0]) (by simp [results, Tryz.results54, asAddr, Act.eval, hf0]) rfl ?_
 exact ⟨rfl, H10.out.2⟩
set_option maxHeartbeats 2000000 in
set_option maxRecDepth 100000 in
theorem root2_4 (g n o s a0 a1 q sq x y p d i t : Nat) (ie : Int) (e1 : ∀ w, (Op.equalIn 10000 24 (N a1) (N 0)).run Tryz.prog w = .ok false w)
  (c0 : ∀ w, Mm w [(g, modx n o s)] → Calls Tryz.prog 90 #[.agg #[PT g 0], V [a0, a1]] w (Rt w (N q)))
  (c1 : ∀ w, Mm w [(g, modx n o s)] → Calls Tryz.prog 93 #[PT g 0, N q] w (Rt w (.tuple #[N sq, .int .i64 0])))
  (c2 : ∀ w, Calls Tryz.prog 44 #[N a0, N sq] w (Rt w (N x)))
  (c3 : ∀ w, Mm w [(g, modx n o s)] → Calls Tryz.prog 95 #[.agg #[PT g 0], N x] w (Rt w (N y)))
  (c4 : ∀ w, Mm w [(g, modx n o s)] → Calls Tryz.prog 94 #[.agg #[PT g 0], N y] w (Rt w (.tuple #[N p, .bool false])))
  (c5 : ∀ w, Calls Tryz.prog 44 #[N p, N p] w (Rt w (N d)))
  (c6 : ∀ w, Mm w [(g, modx n o s), (0, dtab)] → Calls Tryz.prog 89 #[PT g 0, N d] w (Rt w (.tuple #[N i, .int .i64 ie])))
  (c7 : ∀ w, Mm w [(g, modx n o s)] → Calls Tryz.prog 91 #[PT g 0, N a1, N i] w (Rt w (N t))) (w : World) (hm : Mm w [(g, modx n o s), (0, dtab)]) :
  Calls Tryz.prog 54 #[.agg #[PT g 0], V [a0, a1]] w (Rt w (.tuple #[V [t, p], .int .i64 0])) := by
 have H0 : Hid (_ ∧ _) := ⟨hm, Below.refl w.heap.size w⟩
 clear hm
 have C0 : Hid _ := c0
 have C1 : Hid _ := c1
 have C2 : Hid _ := c2
 have C3 : Hid _ := c3
 have C4 : Hid _ := c4
 have C5 : Hid _ := c5
 have C6 : Hid _ := c6
 have C7 : Hid _ := c7
 clear c0 c1 c2 c3 c4 c5 c6 c7
 go_enter Tryz.func54, Tryz.ntmps54
 refine wp_seq ?_
 refine walk_seqA 4 [.made [PT g 0] 55, .made (cel [a0, a1]) 26, .made (cel [0, 0]) 26, .quiet (.int .i64 0)] (sB H0) ?ho1 ?he1
 case ho1 => exact ak (fun γ => ⟨rfl, fun w' => ex_boxF rfl rfl⟩) (ak (fun γ => ⟨rfl, fun w' => ex_boxA rfl rfl⟩) (ak (fun γ => ⟨rfl, fun w' => ex_madeE2 rfl⟩) (ak (fun _ => ⟨rfl, fun _ _ => rfl⟩) trivial)))
 intro γ w1 l hM hl
 have H1 : Hid (Mm w1 [(γ 0, [PT g 0]), (γ 1, cel [a0, a1]), (γ 2, cel [0, 0]), (g, modx n o s), (0, dtab)] ∧ _) := growB H0 hM (Nat.le_refl _) hl [0, 1, 2] rfl (by decide)
 have o1_0 := ownB H0 hM (Nat.le_refl _) hl (i := 0) rfl
 have o1_1 := ownB H0 hM (Nat.le_refl _) hl (i := 1) rfl
 have o1_2 := ownB H0 hM (Nat.le_refl _) hl (i := 2) rfl
 clear hM hl l
 generalize γ 0 = γ1_0 at H1 o1_0 ⊢
 generalize γ 1 = γ1_1 at H1 o1_1 ⊢
 generalize γ 2 = γ1_2 at H1 o1_2 ⊢
 clear γ
 refine rest0 rfl (then_normal (wp_seq (wp_seq ?_)))
 refine walk_seqB 4 [.quiet (PT γ1_1 6), .quiet (N a1), .quiet (N 0), .quiet (.bool false)] H1 ?ho2 ?he2
 case ho2 => exact ak (by refine fun γ => ⟨rfl, fun w' h => ?_⟩; clear h; go_simp) (ak (fun γ => ⟨rfl, fun w' h => ex_loadN (i := 1) h 1 rfl rfl rfl rfl⟩) (ak (by refine fun γ => ⟨rfl, fun w' h => ?_⟩; clear h; exact ex_zero6 rfl) (ak (fun γ => ⟨rfl, fun w' _ => exec_eq6 e1 rfl rfl rfl⟩) trivial)))
 intro _ w2 H2
 clear H1
 refine rest0 rfl (then_normal (wp_cond_false rfl ?_))
 refine wp_skip (then_normal (wp_seq ?_))
 refine walk_anyA 12 [.quiet (PT γ1_0 0), .quiet (PT g 0), .quiet (.agg #[PT g 0]), .quiet (V [a0, a1]), .call (N q), .call (.tuple #[N sq, .int .i64 0]), .quiet (.tuple #[N sq, .int .i64 0]), .quiet (N sq), .quiet (.int .i64 0), .made zero6 24, .laid 9 zero6 (cells6 sq), .quiet (.int .i64 0)] (sB H2) ?ho3 ?he3 (hL := ?hL3)
 case hL3 => exact ⟨⟨_, rfl⟩, trivial⟩
 case ho3 => exact ak (by refine fun γ => ⟨rfl, fun w' h => ?_⟩; clear h; go_simp) (ak (fun γ => ⟨rfl, fun w' h => ex_loadQ h 0 rfl rfl rfl rfl⟩) (ak (fun γ => ⟨rfl, fun w' h => ex_loadF h 0 rfl rfl rfl rfl⟩) (ak (fun γ => ⟨rfl, fun w' h => ex_loadA (i := 0) (k := 2) h 1 rfl rfl rfl Tryz.isAgg26 Tryz.sizeOf26 rfl rfl⟩) (ak (fun γ => ⟨rfl, fun w' h => ⟨90, #[.agg #[PT g 0], V [a0, a1]], exec_call rfl call90 rfl (mpn rfl), C0.out w' (h.one 3 rfl)⟩⟩) (ak (fun γ => ⟨rfl, fun w' h => ⟨93, #[PT g 0, N q], exec_call rfl call93 rfl (mpn rfl), C1.out w' (h.one 3 rfl)⟩⟩) (ak (fun _ => ⟨rfl, fun _ _ => rfl⟩) (ak (by refine fun γ => ⟨rfl, fun w' h => ?_⟩; clear h; go_simp) (ak (by refine fun γ => ⟨rfl, fun w' h => ?_⟩; clear h; go_simp) (ak (fun γ => ⟨rfl, fun w' => exec_made6 rfl⟩) (ak (fun γ => ⟨rfl, rfl, rfl, fun w' h => exec_laid6 h rfl rfl rfl⟩) (ak (fun _ => ⟨rfl, fun _ _ => rfl⟩) trivial)))))))))))
 intro γ w3 l hM hl
 have H3 : Hid (Mm w3 [(γ 9, cells6 sq), (γ1_0, [PT g 0]), (γ1_1, cel [a0, a1]), (γ1_2, cel [0, 0]), (g, modx n o s), (0, dtab)] ∧ _) := growB H2 hM (Nat.le_refl _) hl [9] rfl (by decide)
 have o3_9 := ownB H2 hM (Nat.le_refl _) hl (i := 9) rfl
 clear hM hl l H2
 generalize γ 9 = γ3_9 at H3 o3_9 ⊢
 clear γ
 refine rest0 rfl (then_normal (wp_seq (wp_seq ?_)))
 refine walk_seqB 2 [.quiet (.int .i64 0), .quiet (.bool false)] H3 ?ho4 ?he4
 case ho4 => exact ak (fun _ => ⟨rfl, fun _ _ => rfl⟩) (ak (by refine fun γ => ⟨rfl, fun w' h => ?_⟩; clear h; go_simp) trivial)
 intro _ w4 H4
 clear H3
 refine rest0 rfl (then_normal (wp_cond_false rfl ?_))
 refine wp_skip (then_normal (wp_seq ?_))
 refine walk_anyA 14 [.quiet (.agg #[PT g 0]), .quiet (.agg #[PT g 0]), .quiet (PT γ1_1 0), .quiet (N a0), .quiet (N sq), .call (N x), .call (N y), .call (.tuple #[N p, .bool false]), .quiet (.tuple #[N p, .bool false]), .quiet (N p), .quiet (.bool false), .made zero6 24, .laid 11 zero6 (cells6 p), .quiet (.bool false)] (sB H4) ?ho5 ?he5 (hL := ?hL5)
 case hL5 => exact ⟨⟨_, rfl⟩, trivial⟩
 case ho5 => exact ak (fun γ => ⟨rfl, fun w' h => ex_loadF h 1 rfl rfl rfl rfl⟩) (ak (fun γ => ⟨rfl, fun w' h => ex_loadF h 1 rfl rfl rfl rfl⟩) (ak (by refine fun γ => ⟨rfl, fun w' h => ?_⟩; clear h; go_simp) (ak (fun γ => ⟨rfl, fun w' h => ex_loadN (i := 0) h 2 rfl rfl rfl rfl⟩) (ak (fun γ => ⟨rfl, fun w' h => ex_load6 h 0 rfl rfl rfl rfl⟩) (ak (fun γ => ⟨rfl, fun w' h => ⟨44, #[N a0, N sq], exec_call rfl call44 rfl (mpn rfl), C2.out w'⟩⟩) (ak (fun γ => ⟨rfl, fun w' h => ⟨95, #[.agg #[PT g 0], N x], exec_call rfl call95 rfl (mpn rfl), C3.out w' (h.one 4 rfl)⟩⟩) (ak (fun γ => ⟨rfl, fun w' h => ⟨94, #[.agg #[PT g 0], N y], exec_call rfl call94 rfl (mpn rfl), C4.out w' (h.one 4 rfl)⟩⟩) (ak (fun _ => ⟨rfl, fun _ _ => rfl⟩) (ak (by refine fun γ => ⟨rfl, fun w' h => ?_⟩; clear h; go_simp) (ak (by refine fun γ => ⟨rfl, fun w' h => ?_⟩; clear h; go_simp) (ak (fun γ => ⟨rfl, fun w' => exec_made6 rfl⟩) (ak (fun γ => ⟨rfl, rfl, rfl, fun w' h => exec_laid6 h rfl rfl rfl⟩) (ak (fun _ => ⟨rfl, fun _ _ => rfl⟩) trivial)))))))))))))
 intro γ w5 l hM hl
 have H5 : Hid (Mm w5 [(γ 11, cells6 p), (γ3_9, cells6 sq), (γ1_0, [PT g 0]), (γ1_1, cel [a0, a1]), (γ1_2, cel [0, 0]), (g, modx n o s), (0, dtab)] ∧ _) := growB H4 hM (Nat.le_refl _) hl [11] rfl (by decide)
 have o5_11 := ownB H4 hM (Nat.le_refl _) hl (i := 11) rfl
 clear hM hl l H4
 generalize γ 11 = γ5_11 at H5 o5_11 ⊢
 clear γ
 refine rest0 rfl (then_normal (wp_seq ?_))
 refine walk_anyA 12 [.quiet (PT γ1_0 0), .quiet (PT g 0), .quiet (N p), .quiet (N p), .call (N d), .call (.tuple #[N i, .int .i64 ie]), .quiet (.tuple #[N i, .int .i64 ie]), .quiet (N i), .quiet (.int .i64 ie), .made zero6 24, .laid 9 zero6 (cells6 i), .quiet (.int .i64 ie)] (sB H5) ?ho6 ?he6 (hL := ?hL6)
 case hL6 => exact ⟨⟨_, rfl⟩, trivial⟩
 case ho6 => exact ak (by refine fun γ => ⟨rfl, fun w' h => ?_⟩; clear h; go_simp) (ak (fun γ => ⟨rfl, fun w' h => ex_loadQ h 2 rfl rfl rfl rfl⟩) (ak (fun γ => ⟨rfl, fun w' h => ex_load6 h 0 rfl rfl rfl rfl⟩) (ak (fun γ => ⟨rfl, fun w' h => ex_load6 h 0 rfl rfl rfl rfl⟩) (ak (fun γ => ⟨rfl, fun w' h => ⟨44, #[N p, N p], exec_call rfl call44 rfl (mpn rfl), C5.out w'⟩⟩) (ak (fun γ => ⟨rfl, fun w' h => ⟨89, #[PT g 0, N d], exec_call rfl call89 rfl (mpn rfl), C6.out w' (h.two 5 6 rfl rfl (by decide))⟩⟩) (ak (fun _ => ⟨rfl, fun _ _ => rfl⟩) (ak (by refine fun γ => ⟨rfl, fun w' h => ?_⟩; clear h; go_simp) (ak (by refine fun γ => ⟨rfl, fun w' h => ?_⟩; clear h; go_simp) (ak (fun γ => ⟨rfl, fun w' => exec_made6 rfl⟩) (ak (fun γ => ⟨rfl, rfl, rfl, fun w' h => exec_laid6 h rfl rfl rfl⟩) (ak (fun _ => ⟨rfl, fun _ _ => rfl⟩) trivial)))))))))))
 intro γ w6 l hM hl
 have H6 : Hid (Mm w6 [(γ 9, cells6 i), (γ5_11, cells6 p), (γ3_9, cells6 sq), (γ1_0, [PT g 0]), (γ1_1, cel [a0, a1]), (γ1_2, cel [0, 0]), (g, modx n o s), (0, dtab)] ∧ _) := growB H5 hM (Nat.le_refl _) hl [9] rfl (by decide)
 have o6_9 := ownB H5 hM (Nat.le_refl _) hl (i := 9) rfl
 clear hM hl l H5
 generalize γ 9 = γ6_9 at H6 o6_9 ⊢
 clear γ
 refine rest0 rfl (then_normal (wp_seq ?_))
 refine walk_seqA 8 [.quiet (PT γ1_0 0), .quiet (PT g 0), .quiet (PT γ1_1 6), .quiet (N a1), .quiet (N i), .call (N t), .made zero6 24, .laid 6 zero6 (cells6 t)] (sB H6) ?ho7 ?he7 (hL := ?hL7)
 case hL7 => exact ⟨⟨_, rfl⟩, trivial⟩
 case ho7 => exact ak (by refine fun γ => ⟨rfl, fun w' h => ?_⟩; clear h; go_simp) (ak (fun γ => ⟨rfl, fun w' h => ex_loadQ h 3 rfl rfl rfl rfl⟩) (ak (by refine fun γ => ⟨rfl, fun w' h => ?_⟩; clear h; go_simp) (ak (fun γ => ⟨rfl, fun w' h => ex_loadN (i := 1) h 4 rfl rfl rfl rfl⟩) (ak (fun γ => ⟨rfl, fun w' h => ex_load6 h 0 rfl rfl rfl rfl⟩) (ak (fun γ => ⟨rfl, fun w' h => ⟨91, #[PT g 0, N a1, N i], exec_call rfl call91 rfl (mpn rfl), C7.out w' (h.one 6 rfl)⟩⟩) (ak (fun γ => ⟨rfl, fun w' => exec_made6 rfl⟩) (ak (fun γ => ⟨rfl, rfl, rfl, fun w' h => exec_laid6 h rfl rfl rfl⟩) trivial)))))))
 intro γ w7 l hM hl
 have H7 : Hid (Mm w7 [(γ 6, cells6 t), (γ6_9, cells6 i), (γ5_11, cells6 p), (γ3_9, cells6 sq), (γ1_0, [PT g 0]), (γ1_1, cel [a0, a1]), (γ1_2, cel [0, 0]), (g, modx n o s), (0, dtab)] ∧ _) := growB H6 hM (Nat.le_refl _) hl [6] rfl (by decide)
 have o7_6 := ownB H6 hM (Nat.le_refl _) hl (i := 6) rfl
 clear hM hl l H6
 generalize γ 6 = γ7_6 at H7 o7_6 ⊢
 clear γ
 refine rest0 rfl (then_normal (wp_seq (wp_seq ?_)))
 refine walk_seqB 2 [.quiet (.bool false), .quiet (.bool true)] H7 ?ho8 ?he8
 case ho8 => exact ak (fun _ => ⟨rfl, fun _ _ => rfl⟩) (ak (by refine fun γ => ⟨rfl, fun w' h => ?_⟩; clear h; go_simp) trivial)
 intro _ w8 H8
 clear H7
 refine rest0 rfl (then_normal (wp_cond_true rfl (wp_seq ?_)))
 refine walk_seqB 3 [.quiet (N t), .quiet (N p), .quiet (V [t, p])] H8 ?ho9 ?he9
 case ho9 => exact ak (fun γ => ⟨rfl, fun w' h => ex_load6 h 0 rfl rfl rfl rfl⟩) (ak (fun γ => ⟨rfl, fun w' h => ex_load6 h 2 rfl rfl rfl rfl⟩) (ak (fun γ => ⟨rfl, fun w' _ => ex_buildE2 rfl rfl rfl⟩) trivial))
 intro _ w9 H9
 clear H8
 refine rest_at (l := [3, 4]) rfl ?_
 refine rest_store rfl rfl rfl (ex_storeA (i := 0) (ms := [t, p]) H9.out.1 6 rfl rfl rfl rfl Tryz.sizeOf26 (Nat.le_of_ble_eq_true rfl)) ?_
 have H10 : Hid (Mm (w9.setCells γ1_2 (6 * 0) (cel [t, p])) [(γ7_6, cells6 t), (γ6_9, cells6 i), (γ5_11, cells6 p), (γ3_9, cells6 sq), (γ1_0, [PT g 0]), (γ1_1, cel [a0, a1]), (γ1_2, cel [t, p]), (g, modx n o s), (0, dtab)] ∧ Below w.heap.size w (w9.setCells γ1_2 (6 * 0) (cel [t, p]))) := ⟨by
  have h := H9.out.1.put 6 (off := 6 * 0) (vs := cel [t, p]) rfl (by simp only [cel_len]; exact Nat.le_of_ble_eq_true rfl)
  rw [cel_patch] at h
  exact h, below_setCells _ o1_2.out _ _ _ H9.out.2⟩
 clear H9
 generalize hgw : World.setCells _ _ _ _ = w10 at H10 ⊢
 clear hgw
 refine rest_set (d := 5) rfl rfl rfl rfl ?_
 simp only [Act.put, sa, sz, ss]
 refine rest_nil (then_normal (wp_ret ?_))
 repeat (first | refine then_ret ?_ | refine block_ret ?_)
 have hf0 := cel_var (k := 2) H10.out.1 6 rfl Tryz.isAgg26 Tryz.sizeOf26 rfl
 refine bodyPost_ret (v := .tuple #[V [t, p], .int .i64 0]) (by simp [results, Tryz.results54, asAddr, Act.eval, hf0]) rfl ?_
 exact ⟨rfl, H10.out.2⟩
end Rg
end Go.Proofs.YtgdlhgbdigpfhaaGreatDoor
end
section
namespace Go.Proofs.YtgdlhgbdigpfhaaGreatDoor
open Go.RowKit
namespace Rg
set_option maxHeartbeats 1000000 in
set_option maxRecDepth 100000 in
theorem rootT_ok (n a0 a1 m0 m1 r0 r1 q0 q1 t0 t1 : Nat)
  (c0 : ∀ w, Calls Tryz.prog 48 #[] w fun e w' => Below w.heap.size w w' ∧ ∃ g, e = .returned (.agg #[PT g 0]) ∧ w.heap.size ≤ g ∧ g < w'.heap.size ∧ Blk w' g (modc n))
  (c1 : ∀ w, Calls Tryz.prog 43 #[V [a0, a1]] w (Rt w (V [m0, m1])))
  (c2 : ∀ g w, Mm w [(g, modc n), (0, dtab)] → Calls Tryz.prog 54 #[.agg #[PT g 0], V [m0, m1]] w (Rt w (.tuple #[V [r0, r1], .int .i64 0])))
  (c3 : ∀ w, Calls Tryz.prog 11 #[V [r0, r1]] w (Rt w (V [q0, q1])))
  (c4 : ∀ w, Calls Tryz.prog 55 #[V [r0, r1], V [q0, q1]] w (Rt w (V [t0, t1]))) (w : World) (hm : Mm w [(0, dtab)]) :
  Calls Tryz.prog 18 #[V [a0, a1]] w (Rt w (.tuple #[V [t0, t1], .int .i64 0])) := by
 have H0 : Hid (_ ∧ _) := ⟨hm, Below.refl w.heap.size w⟩
 clear hm
 have C0 : Hid _ := c0
 have C1 : Hid _ := c1
 have C2 : Hid _ := c2
 have C3 : Hid _ := c3
 have C4 : Hid _ := c4
 clear c0 c1 c2 c3 c4
 go_enter Tryz.func18, Tryz.ntmps18
 refine wp_seq ?_
 refine walk_seqA 3 [.made (cel [a0, a1]) 26, .made (cel [0, 0]) 26, .quiet (.int .i64 0)] (sB H0) ?ho1 ?he1
 case ho1 => exact ak (fun γ => ⟨rfl, fun w' => ex_boxA rfl rfl⟩) (ak (fun γ => ⟨rfl, fun w' => ex_madeE2 rfl⟩) (ak (fun _ => ⟨rfl, fun _ _ => rfl⟩) trivial))
 intro γ w1 l hM hl
 have H1 : Hid (Mm w1 [(γ 0, cel [a0, a1]), (γ 1, cel [0, 0]), (0, dtab)] ∧ _) := growB H0 hM (Nat.le_refl _) hl [0, 1] rfl (by decide)
 have o1_0 := ownB H0 hM (Nat.le_refl _) hl (i := 0) rfl
 have o1_1 := ownB H0 hM (Nat.le_refl _) hl (i := 1) rfl
 clear hM hl l
 generalize γ 0 = γ1_0 at H1 o1_0 ⊢
 generalize γ 1 = γ1_1 at H1 o1_1 ⊢
 clear γ
 refine rest0 rfl (then_normal (wp_seq ?_))
 refine walk_anyA 10 [.born (fun g => .agg #[PT g 0]) (modc n), .quiet (V [a0, a1]), .call (V [m0, m1]), .over (.tuple #[V [r0, r1], .int .i64 0]) 0 (modc n), .quiet (.tuple #[V [r0, r1], .int .i64 0]), .quiet (V [r0, r1]), .quiet (.int .i64 0), .made (cel [0, 0]) 26, .laid 7 (cel [0, 0]) (cel [r0, r1]), .quiet (.int .i64 0)] (sB H1) ?ho2 ?he2 (hL := ?hL2)
 case hL2 => exact ⟨⟨_, rfl⟩, ⟨_, rfl⟩, trivial⟩
 case ho2 => exact ak (fun γ => ⟨rfl, fun w' h => ⟨48, #[], exec_call rfl call48 rfl (mpn rfl), C0.out w'⟩⟩) (ak (fun γ => ⟨rfl, fun w' h => ex_loadA (i := 0) (k := 2) h 0 rfl rfl rfl Tryz.isAgg26 Tryz.sizeOf26 rfl rfl⟩) (ak (fun γ => ⟨rfl, fun w' h => ⟨43, #[V [a0, a1]], exec_call rfl call43 rfl (mpn rfl), C1.out w'⟩⟩) (ak (fun γ => ⟨rfl, fun u w' h0 hge h1 hb hlt => by have h := Mm.over h0 hge h1 hb hlt; exact ⟨54, #[.agg #[PT (γ 0) 0], V [m0, m1]], exec_call rfl call54 rfl (mpn rfl), C2.out _ w' (h.two 0 3 rfl rfl (by decide))⟩⟩) (ak (fun _ => ⟨rfl, fun _ _ => rfl⟩) (ak (by refine fun γ => ⟨rfl, fun w' h => ?_⟩; clear h; go_simp) (ak (by refine fun γ => ⟨rfl, fun w' h => ?_⟩; clear h; go_simp) (ak (fun γ => ⟨rfl, fun w' => ex_madeE2 rfl⟩) (ak (fun γ => ⟨rfl, rfl, rfl, fun w' h => ex_laidA h rfl Tryz.sizeOf26 rfl rfl rfl⟩) (ak (fun _ => ⟨rfl, fun _ _ => rfl⟩) trivial)))))))))
 intro γ w2 l hM hl
 have H2 : Hid (Mm w2 [(γ 0, modc n), (γ 7, cel [r0, r1]), (γ1_0, cel [a0, a1]), (γ1_1, cel [0, 0]), (0, dtab)] ∧ _) := growB H1 hM (Nat.le_refl _) hl [0, 7] rfl (by decide)
 have o2_0 := ownB H1 hM (Nat.le_refl _) hl (i := 0) rfl
 have o2_7 := ownB H1 hM (Nat.le_refl _) hl (i := 7) rfl
 clear hM hl l H1
 generalize γ 0 = γ2_0 at H2 o2_0 ⊢
 generalize γ 7 = γ2_7 at H2 o2_7 ⊢
 clear γ
 refine rest0 rfl (then_normal (wp_seq (wp_seq ?_)))
 refine walk_seqB 2 [.quiet (.int .i64 0), .quiet (.bool false)] H2 ?ho3 ?he3
 case ho3 => exact ak (fun _ => ⟨rfl, fun _ _ => rfl⟩) (ak (by refine fun γ => ⟨rfl, fun w' h => ?_⟩; clear h; go_simp) trivial)
 intro _ w3 H3
 clear H2
 refine rest0 rfl (then_normal (wp_cond_false rfl ?_))
 refine wp_skip (then_normal (wp_seq ?_))
 refine walk_anyB 4 [.quiet (V [r0, r1]), .quiet (V [r0, r1]), .call (V [q0, q1]), .call (V [t0, t1])] H3 ?ho4 ?he4
 case ho4 => exact ak (fun γ => ⟨rfl, fun w' h => ex_loadA (i := 0) (k := 2) h 1 rfl rfl rfl Tryz.isAgg26 Tryz.sizeOf26 rfl rfl⟩) (ak (fun γ => ⟨rfl, fun w' h => ex_loadA (i := 0) (k := 2) h 1 rfl rfl rfl Tryz.isAgg26 Tryz.sizeOf26 rfl rfl⟩) (ak (fun γ => ⟨rfl, fun w' h => ⟨11, #[V [r0, r1]], exec_call rfl call11 rfl (mpn rfl), C3.out w'⟩⟩) (ak (fun γ => ⟨rfl, fun w' h => ⟨55, #[V [r0, r1], V [q0, q1]], exec_call rfl call55 rfl (mpn rfl), C4.out w'⟩⟩) trivial)))
 intro _ w4 H4
 clear H3
 refine rest_at (l := [4, 5]) rfl ?_
 refine rest_store rfl rfl rfl (ex_storeA (i := 0) (ms := [t0, t1]) H4.out.1 3 rfl rfl rfl rfl Tryz.sizeOf26 (Nat.le_of_ble_eq_true rfl)) ?_
 have H5 : Hid (Mm (w4.setCells γ1_1 (6 * 0) (cel [t0, t1])) [(γ2_0, modc n), (γ2_7, cel [r0, r1]), (γ1_0, cel [a0, a1]), (γ1_1, cel [t0, t1]), (0, dtab)] ∧ Below w.heap.size w (w4.setCells γ1_1 (6 * 0) (cel [t0, t1]))) := ⟨by
  have h := H4.out.1.put 3 (off := 6 * 0) (vs := cel [t0, t1]) rfl (by simp only [cel_len]; exact Nat.le_of_ble_eq_true rfl)
  rw [cel_patch] at h
  exact h, below_setCells _ o1_1.out _ _ _ H4.out.2⟩
 clear H4
 generalize hgw : World.setCells _ _ _ _ = w5 at H5 ⊢
 clear hgw
 refine rest_set (d := 3) rfl rfl rfl rfl ?_
 simp only [Act.put, sa, sz, ss]
 refine rest_nil (then_normal (wp_ret ?_))
 repeat (first | refine then_ret ?_ | refine block_ret ?_)
 have hf0 := cel_var (k := 2) H5.out.1 3 rfl Tryz.isAgg26 Tryz.sizeOf26 rfl
 refine bodyPost_ret (v := .tuple #[V [t0, t1], .int .i64 0]) (by simp [results, Tryz.results18, asAddr, Act.eval, hf0]) rfl ?_
 exact ⟨rfl, H5.out.2⟩
end Rg
end Go.Proofs.YtgdlhgbdigpfhaaGreatDoor
end
section
namespace Go.Proofs.YtgdlhgbdigpfhaaGreatDoor
open Go.RowKit
namespace Rg
/-! Arrays of parts: indices that are counted, and rows that are filled. -/
theorem cel_bd {i m n : Nat} (h : i + m ≤ n) : 6 * i + 6 * m ≤ 6 * n := by omega
theorem ex_idxE12 {ρ : Operand → Value} {o : Oper} {x y : Operand} {g j : Nat} {w : World} (ho : o.op = .indexAddr 36 x y) (hx : ρ x = PT g 0) (hy : ρ y = .int .i64 ((j : Nat) : Int)) (hj : j < 6) :
  (execOp ρ o).run Tryz.prog w = .ok (.value (PT g (6 * (2 * j)))) w := by
 have h1 : (j : Int) < 6 := by omega
 have e : j * 12 = 6 * (2 * j) := by omega
 simp only [execOp, ho, hx, hy]
 clear ho hx hy
 go_simp
theorem ex_idxTH {ρ : Operand → Value} {o : Oper} {x y : Operand} {g j : Nat} {w : World} (ho : o.op = .indexAddr 83 x y) (hx : ρ x = PT g 0) (hy : ρ y = .int .i64 ((j : Nat) : Int)) (hj : j < 3) :
  (execOp ρ o).run Tryz.prog w = .ok (.value (PT g (6 * (2 * j)))) w := by
 have h1 : (j : Int) < 3 := by omega
 have e : j * 12 = 6 * (2 * j) := by omega
 simp only [execOp, ho, hx, hy]
 clear ho hx hy
 go_simp
theorem ex_idxW3 {ρ : Operand → Value} {o : Oper} {x y : Operand} {g j : Nat} {w : World} (ho : o.op = .indexAddr 86 x y) (hx : ρ x = PT g 0) (hy : ρ y = .int .i64 ((j : Nat) : Int)) (hj : j < 3) :
  (execOp ρ o).run Tryz.prog w = .ok (.value (PT g (6 * (4 * j)))) w := by
 have h1 : (j : Int) < 3 := by omega
 have e : j * 24 = 6 * (4 * j) := by omega
 simp only [execOp, ho, hx, hy]
 clear ho hx hy
 go_simp
theorem ex_makeC {P : Program} {ρ : Operand → Value} {o : Oper} {f : FuncId} {xs : Array Operand} {vs : Array Value} {w : World} (ho : o.op = .makeFunc (.func f) #[] xs) (hx : xs.map ρ = vs) :
  (execOp ρ o).run P w = .ok (.value (.func (.func f) #[] vs)) w := by
 subst hx
 simp only [execOp, ho]
 simp [go_sem, Instr.makeFunc]
theorem ex_callC {P : Program} {ρ : Operand → Value} {o : Oper} {f : FuncId} {y : Operand} {xs : Array Operand} {ts : Array TypeId} {x0 x1 y0 y1 : Value} {w : World} (ho : o.op = .call { callee := .value y, args := xs, argTypes := ts }) (hc : ∀ args w, (callFunc f args).run P w = .ok (.enter f args) w) (hf : ρ y = .func (.func f) #[] #[y0, y1]) (hx : xs.map ρ = #[x0, x1]) :
  (execOp ρ o).run P w = .ok (.enter f #[x0, x1, y0, y1]) w := by
 simp only [execOp, ho, resolve, hf, hx]
 simp [go_sem, Deferred.ofValue, invoke, hc]
set_option maxRecDepth 100000 in
theorem ex_indexE2_0 {ρ : Operand → Value} {o : Oper} {x y : Operand} {a b : Nat} {w : World} (ho : o.op = .index 26 x y) (hx : ρ x = V [a, b]) (hy : ρ y = .int .i64 0) : (execOp ρ o).run Tryz.prog w = .ok (.value (N a)) w := by
 simp only [V, cel, List.cons_append, List.nil_append] at hx
 simp only [execOp, ho, hx, hy]
 go_simp
 rfl
set_option maxHeartbeats 4000000
set_option maxRecDepth 100000
theorem ex_buildTH {ρ : Operand → Value} {o : Oper} {x0 x1 x2 : Operand} {a0 a1 b0 b1 d0 d1 : Nat} {w : World} (ho : o.op = .build 83 #[(0, x0), (1, x1), (2, x2)]) (h0 : ρ x0 = V [a0, a1]) (h1 : ρ x1 = V [b0, b1]) (h2 : ρ x2 = V [d0, d1]) : (execOp ρ o).run Tryz.prog w = .ok (.value (V [a0, a1, b0, b1, d0, d1])) w := by
 simp only [V, cel, List.cons_append, List.nil_append] at h0
 simp only [V, cel, List.cons_append, List.nil_append] at h1
 simp only [V, cel, List.cons_append, List.nil_append] at h2
 simp only [execOp, ho, V, cel, List.cons_append, List.nil_append]
 go_simp
theorem ex_buildW3 {ρ : Operand → Value} {o : Oper} {x0 x1 x2 : Operand} {a0 a1 a2 a3 b0 b1 b2 b3 d0 d1 d2 d3 : Nat} {w : World} (ho : o.op = .build 86 #[(0, x0), (1, x1), (2, x2)]) (h0 : ρ x0 = V [a0, a1, a2, a3]) (h1 : ρ x1 = V [b0, b1, b2, b3]) (h2 : ρ x2 = V [d0, d1, d2, d3]) : (execOp ρ o).run Tryz.prog w = .ok (.value (V [a0, a1, a2, a3, b0, b1, b2, b3, d0, d1, d2, d3])) w := by
 simp only [V, cel, List.cons_append, List.nil_append] at h0
 simp only [V, cel, List.cons_append, List.nil_append] at h1
 simp only [V, cel, List.cons_append, List.nil_append] at h2
 simp only [execOp, ho, V, cel, List.cons_append, List.nil_append]
 go_simp
 kernel_rfl
theorem ex_buildE12z {ρ : Operand → Value} {o : Oper} {w : World} (ho : o.op = .build 36 #[])  : (execOp ρ o).run Tryz.prog w = .ok (.value (V [0, 0, 0, 0, 0, 0, 0, 0, 0, 0, 0, 0])) w := by
 simp only [execOp, ho, V, cel, List.cons_append, List.nil_append]
 go_simp
 simp only [wd_zero]
 kernel_rfl
theorem ex_buildE12a {ρ : Operand → Value} {o : Oper} {x0 : Operand} {a0 a1 : Nat} {w : World} (ho : o.op = .build 36 #[(0, x0)]) (h0 : ρ x0 = V [a0, a1]) : (execOp ρ o).run Tryz.prog w = .ok (.value (V [a0, a1, 0, 0, 0, 0, 0, 0, 0, 0, 0, 0])) w := by
 simp only [V, cel, List.cons_append, List.nil_append] at h0
 simp only [execOp, ho, V, cel, List.cons_append, List.nil_append]
 go_simp
 simp only [wd_zero]
 kernel_rfl
theorem ex_buildE12b {ρ : Operand → Value} {o : Oper} {x0 x1 : Operand} {a0 a1 b0 b1 : Nat} {w : World} (ho : o.op = .build 36 #[(0, x0), (1, x1)]) (h0 : ρ x0 = V [a0, a1]) (h1 : ρ x1 = V [b0, b1]) : (execOp ρ o).run Tryz.prog w = .ok (.value (V [a0, a1, b0, b1, 0, 0, 0, 0, 0, 0, 0, 0])) w := by
 simp only [V, cel, List.cons_append, List.nil_append] at h0
 simp only [V, cel, List.cons_append, List.nil_append] at h1
 simp only [execOp, ho, V, cel, List.cons_append, List.nil_append]
 go_simp
 simp only [wd_zero]
 kernel_rfl
/-- The first m are r's, the others f's. -/
def mx12 (f r : Nat → Nat) (m : Nat) : List Nat := [if 0 < m then r 0 else f 0, if 1 < m then r 1 else f 1, if 2 < m then r 2 else f 2, if 3 < m then r 3 else f 3, if 4 < m then r 4 else f 4, if 5 < m then r 5 else f 5, if 6 < m then r 6 else f 6, if 7 < m then r 7 else f 7, if 8 < m then r 8 else f 8, if 9 < m then r 9 else f 9, if 10 < m then r 10 else f 10, if 11 < m then r 11 else f 11]
theorem mx12_0 (f r : Nat → Nat) : mx12 f r (2 * 0) = [f 0, f 1, f 2, f 3, f 4, f 5, f 6, f 7, f 8, f 9, f 10, f 11] := rfl
theorem mx12_e (f r : Nat → Nat) : mx12 f r (2 * 6) = [r 0, r 1, r 2, r 3, r 4, r 5, r 6, r 7, r 8, r 9, r 10, r 11] := rfl
theorem mx12_ld (f r : Nat → Nat) {k : Nat} (hk : k < 6) : ((mx12 f r (2 * k)).drop (2 * k)).take 2 = [f (2 * k), f (2 * k + 1)] := by
 match k, hk with
 | 0, _ => rfl
 | 1, _ => rfl
 | 2, _ => rfl
 | 3, _ => rfl
 | 4, _ => rfl
 | 5, _ => rfl
theorem mx12_st (f r : Nat → Nat) {k : Nat} (hk : k < 6) : (mx12 f r (2 * k)).take (2 * k) ++ [r (2 * k), r (2 * k + 1)] ++ (mx12 f r (2 * k)).drop (2 * k + [r (2 * k), r (2 * k + 1)].length) = mx12 f r (2 * (k + 1)) := by
 match k, hk with
 | 0, _ => rfl
 | 1, _ => rfl
 | 2, _ => rfl
 | 3, _ => rfl
 | 4, _ => rfl
 | 5, _ => rfl
theorem mx12_bd (f r : Nat → Nat) {k m : Nat} {l : List Nat} (hl : l.length = 2) (hk : k < 6) : 2 * k + l.length ≤ (mx12 f r m).length := by
 rw [hl]; show 2 * k + 2 ≤ 12; omega
/-- The first m are r's, the others f's. -/
def mx6 (f r : Nat → Nat) (m : Nat) : List Nat := [if 0 < m then r 0 else f 0, if 1 < m then r 1 else f 1, if 2 < m then r 2 else f 2, if 3 < m then r 3 else f 3, if 4 < m then r 4 else f 4, if 5 < m then r 5 else f 5]
theorem mx6_0 (f r : Nat → Nat) : mx6 f r (2 * 0) = [f 0, f 1, f 2, f 3, f 4, f 5] := rfl
theorem mx6_e (f r : Nat → Nat) : mx6 f r (2 * 3) = [r 0, r 1, r 2, r 3, r 4, r 5] := rfl
theorem mx6_ld (f r : Nat → Nat) {k : Nat} (hk : k < 3) : ((mx6 f r (2 * k)).drop (2 * k)).take 2 = [f (2 * k), f (2 * k + 1)] := by
 match k, hk with
 | 0, _ => rfl
 | 1, _ => rfl
 | 2, _ => rfl
theorem mx6_st (f r : Nat → Nat) {k : Nat} (hk : k < 3) : (mx6 f r (2 * k)).take (2 * k) ++ [r (2 * k), r (2 * k + 1)] ++ (mx6 f r (2 * k)).drop (2 * k + [r (2 * k), r (2 * k + 1)].length) = mx6 f r (2 * (k + 1)) := by
 match k, hk with
 | 0, _ => rfl
 | 1, _ => rfl
 | 2, _ => rfl
theorem mx6_bd (f r : Nat → Nat) {k m : Nat} {l : List Nat} (hl : l.length = 2) (hk : k < 3) : 2 * k + l.length ≤ (mx6 f r m).length := by
 rw [hl]; show 2 * k + 2 ≤ 6; omega
theorem tl6_ld (f : Nat → Nat) {k : Nat} (hk : k < 3) : (([f 0, f 1, f 2, f 3, f 4, f 5] : List Nat).drop (2 * k)).take 2 = [f (2 * k), f (2 * k + 1)] := by
 match k, hk with
 | 0, _ => rfl
 | 1, _ => rfl
 | 2, _ => rfl
theorem tl12_ld (f : Nat → Nat) {k : Nat} (hk : k < 6) : (([f 0, f 1, f 2, f 3, f 4, f 5, f 6, f 7, f 8, f 9, f 10, f 11] : List Nat).drop (2 * k)).take 2 = [f (2 * k), f (2 * k + 1)] := by
 match k, hk with
 | 0, _ => rfl
 | 1, _ => rfl
 | 2, _ => rfl
 | 3, _ => rfl
 | 4, _ => rfl
 | 5, _ => rfl
theorem tl12_ld4 (f : Nat → Nat) {k : Nat} (hk : k < 3) : (([f 0, f 1, f 2, f 3, f 4, f 5, f 6, f 7, f 8, f 9, f 10, f 11] : List Nat).drop (4 * k)).take 4 = [f (4 * k), f (4 * k + 1), f (4 * k + 2), f (4 * k + 3)] := by
 match k, hk with
 | 0, _ => rfl
 | 1, _ => rfl
 | 2, _ => rfl
def zf : Nat → Nat := fun _ => 0
theorem zf_0 (r : Nat → Nat) : mx12 zf r (2 * (2 * 0)) = [0, 0, 0, 0, 0, 0, 0, 0, 0, 0, 0, 0] := rfl
theorem zf_e (r : Nat → Nat) : mx12 zf r (2 * (2 * 3)) = [r 0, r 1, r 2, r 3, r 4, r 5, r 6, r 7, r 8, r 9, r 10, r 11] := rfl
end Rg
end Go.Proofs.YtgdlhgbdigpfhaaGreatDoor
end
section
namespace Go.Proofs.YtgdlhgbdigpfhaaGreatDoor
open Go.RowKit
namespace Rg
set_option maxHeartbeats 4000000 in
set_option maxRecDepth 100000 in
theorem leftAll_gen (a r : Nat → Nat)
    (cl : ∀ k, k < 6 → ∀ w, Calls Tryz.prog 43 #[V [a (2 * k), a (2 * k + 1)]] w (Rt w (V [r (2 * k), r (2 * k + 1)]))) (w : World) :
    Calls Tryz.prog 63 #[V [a 0, a 1, a 2, a 3, a 4, a 5, a 6, a 7, a 8, a 9, a 10, a 11]] w (Rt w (V [r 0, r 1, r 2, r 3, r 4, r 5, r 6, r 7, r 8, r 9, r 10, r 11])) := by
  have H0 : Hid (_ ∧ _) := ⟨Mm.nil w, Below.refl w.heap.size w⟩
  have CL : Hid _ := cl
  clear cl
  go_enter Tryz.func63, Tryz.ntmps63
  refine wp_seq ?_
  refine walk_seqA 2 [.made (cel [a 0, a 1, a 2, a 3, a 4, a 5, a 6, a 7, a 8, a 9, a 10, a 11]) 36, .made (cel [0, 0, 0, 0, 0, 0, 0, 0, 0, 0, 0, 0]) 36] (sB H0) ?ho1 ?he1
  case ho1 => exact ak (fun γ => ⟨rfl, fun w' => ex_boxA rfl rfl⟩) (ak (fun γ => ⟨rfl, fun w' => ex_madeE12 rfl⟩) trivial)
  intro γ w1 l hM hl
  have H1 : Hid (Mm w1 [(γ 0, cel [a 0, a 1, a 2, a 3, a 4, a 5, a 6, a 7, a 8, a 9, a 10, a 11]), (γ 1, cel [0, 0, 0, 0, 0, 0, 0, 0, 0, 0, 0, 0])] ∧ _) := growB H0 hM (Nat.le_refl _) hl [0, 1] rfl (by decide)
  have o1_0 := ownB H0 hM (Nat.le_refl _) hl (i := 0) rfl
  have o1_1 := ownB H0 hM (Nat.le_refl _) hl (i := 1) rfl
  clear hM hl l
  generalize γ 0 = γ1_0 at H1 o1_0 ⊢
  generalize γ 1 = γ1_1 at H1 o1_1 ⊢
  clear γ
  refine rest0 rfl (then_normal (wp_seq (wp_seq ?_)))
  refine walk_seqB 1 [.quiet (.int .i64 0)] H1 ?ho2 ?he2
  case ho2 => exact ak (fun _ => ⟨rfl, fun _ _ => rfl⟩) trivial
  intro _ w2 H2
  clear H1
  refine rest0 rfl (then_normal (wp_block ?_))
  refine loop_ghost (α := Nat) (fun k a' w' => ∃ s0 : Nat → Value, a' = ⟨#[V [a 0, a 1, a 2, a 3, a 4, a 5, a 6, a 7, a 8, a 9, a 10, a 11], PT γ1_0 0, PT γ1_1 0, s0 3, .int .i64 ((k : Nat) : Int), s0 5, s0 6, s0 7, s0 8, s0 9, s0 10, s0 11, s0 12, s0 13, undef], []⟩ ∧ (Mm w' [(γ1_0, cel (mx12 a r (2 * k))), (γ1_1, cel [0, 0, 0, 0, 0, 0, 0, 0, 0, 0, 0, 0])] ∧ Below w.heap.size w w') ∧ k ≤ 6) (fun k => 6 - k) 0 ?st0 ?rd0
  case st0 => exact ⟨(slotfn [undef, undef, undef, undef, undef, undef, undef, undef, undef, undef, undef, undef, undef, undef]), rfl, ⟨H2.out.1.atk (by rw [mx12_0 a r]), H2.out.2⟩, by omega⟩
  intro k a' w3 hI
  obtain ⟨s0, rfl, hMB, hk0⟩ := hI
  have H3 : Hid (_ ∧ _) := hMB
  clear hMB H2
  by_cases hlt : k < 6
  · have hrd : True := trivial
    clear hrd
    refine wp_seq ?_
    refine walk_seqB 1 [.quiet (.bool true)] H3 ?ho3 ?he3
    case ho3 => exact ak (by refine fun γ => ⟨rfl, fun w' h => ?_⟩; clear h; go_simp <;> omega) trivial
    intro _ w4 H4
    clear H3
    refine rest0 rfl (then_normal (wp_seq ?_))
    refine wp_cond_true rfl (wp_skip ?_)
    refine then_normal (wp_seq ?_)
    refine wp_block (wp_seq ?_)
    refine walk_seqB 2 [.quiet (.int .i64 ((k : Nat) : Int)), .quiet (.int .i64 ((k : Nat) : Int))] H4 ?ho4 ?he4
    case ho4 => exact ak (fun _ => ⟨rfl, fun _ _ => rfl⟩) (ak (fun _ => ⟨rfl, fun _ _ => rfl⟩) trivial)
    intro _ w5 H5
    clear H4
    refine rest0 rfl (then_normal ?_)
    refine walk_seqB 6 [.quiet (.int .i64 ((k : Nat) : Int)), .quiet (.int .i64 ((k : Nat) : Int)), .quiet (PT γ1_0 (6 * (2 * k))), .quiet (V [a (2 * k), a (2 * k + 1)]), .call (V [r (2 * k), r (2 * k + 1)]), .quiet (PT γ1_0 (6 * (2 * k)))] H5 ?ho5 ?he5
    case ho5 => exact ak (fun _ => ⟨rfl, fun _ _ => rfl⟩) (ak (fun _ => ⟨rfl, fun _ _ => rfl⟩) (ak (fun γ => ⟨rfl, fun w' _ => ex_idxE12 rfl rfl rfl (by omega)⟩) (ak (fun γ => ⟨rfl, fun w' h => ex_loadA (i := 2 * k) (k := 2) h 0 rfl rfl rfl Tryz.isAgg26 Tryz.sizeOf26 (mx12_ld a r hlt) rfl⟩) (ak (fun γ => ⟨rfl, fun w' h => ⟨43, #[V [a (2 * k), a (2 * k + 1)]], exec_call rfl call43 rfl (mpn rfl), CL.out k hlt w'⟩⟩) (ak (fun γ => ⟨rfl, fun w' _ => ex_idxE12 rfl rfl rfl (by omega)⟩) trivial)))))
    intro _ w6 H6
    clear H5
    refine rest_at (l := [6]) rfl ?_
    refine rest_store rfl rfl rfl (ex_storeA (i := 2 * k) (ms := [r (2 * k), r (2 * k + 1)]) H6.out.1 0 rfl rfl rfl rfl Tryz.sizeOf26 (mx12_bd a r rfl hlt)) ?_
    have H7 : Hid (Mm (w6.setCells γ1_0 (6 * (2 * k)) (cel [r (2 * k), r (2 * k + 1)])) [(γ1_0, cel (mx12 a r (2 * (k + 1)))), (γ1_1, cel [0, 0, 0, 0, 0, 0, 0, 0, 0, 0, 0, 0])] ∧ Below w.heap.size w (w6.setCells γ1_0 (6 * (2 * k)) (cel [r (2 * k), r (2 * k + 1)]))) := ⟨by
      have h := H6.out.1.put 0 (off := 6 * (2 * k)) (vs := cel [r (2 * k), r (2 * k + 1)]) rfl (by rw [cel_len, cel_len]; exact cel_bd (mx12_bd a r rfl hlt))
      rw [cel_patch, mx12_st a r hlt] at h
      exact h, below_setCells _ o1_0.out _ _ _ H6.out.2⟩
    clear H6
    generalize hgw : World.setCells _ _ _ _ = w7 at H7 ⊢
    clear hgw
    refine rest_nil (block_normal (then_normal ?_))
    refine walk_seqB 1 [.quiet (.int .i64 ((k + 1 : Nat) : Int))] H7 ?ho6 ?he6
    case ho6 => exact ak (by refine fun γ => ⟨rfl, fun w' h => ?_⟩; clear h; go_simp; rw [IntKind.wrap_i64]; omega) trivial
    intro _ w8 H8
    clear H7
    refine rest_at (l := [1]) rfl ?_
    refine rest_set (d := 4) rfl rfl rfl rfl ?_
    simp only [Act.put, sa, sz, ss]
    refine rest_nil (then_normal ?_)
    exact ⟨k + 1, ⟨(slotfn [undef, undef, undef, .int .i64 ((k : Nat) : Int), undef, .bool true, .int .i64 ((k : Nat) : Int), .int .i64 ((k : Nat) : Int), .int .i64 ((k : Nat) : Int), PT γ1_0 (6 * (2 * k)), V [a (2 * k), a (2 * k + 1)], V [r (2 * k), r (2 * k + 1)], PT γ1_0 (6 * (2 * k)), .int .i64 ((k + 1 : Nat) : Int)]), rfl, ⟨H8.out.1, H8.out.2⟩, by omega⟩, by omega⟩
  have hkN : k = 6 := by omega
  subst hkN
  have H9 : Hid (Mm w3 [(γ1_0, cel [r 0, r 1, r 2, r 3, r 4, r 5, r 6, r 7, r 8, r 9, r 10, r 11]), (γ1_1, cel [0, 0, 0, 0, 0, 0, 0, 0, 0, 0, 0, 0])] ∧ Below w.heap.size w w3) := ⟨H3.out.1.atk (by rw [mx12_e a r]), H3.out.2⟩
  clear H3
  refine wp_seq ?_
  refine walk_seqB 1 [.quiet (.bool false)] H9 ?ho7 ?he7
  case ho7 => exact ak (by refine fun γ => ⟨rfl, fun w' h => ?_⟩; clear h; go_simp <;> omega) trivial
  intro _ w10 H10
  clear H9
  refine rest0 rfl (then_normal (wp_seq (wp_cond_false rfl ?_)))
  refine wp_exit ?_
  repeat refine then_exit ?_
  refine block_exit ?_
  refine then_normal (wp_seq ?_)
  refine walk_seqB 1 [.quiet (V [r 0, r 1, r 2, r 3, r 4, r 5, r 6, r 7, r 8, r 9, r 10, r 11])] H10 ?ho8 ?he8
  case ho8 => exact ak (fun γ => ⟨rfl, fun w' h => ex_loadA (i := 0) (k := 12) h 0 rfl rfl rfl Tryz.isAgg36 Tryz.sizeOf36 rfl rfl⟩) trivial
  intro _ w11 H11
  clear H10
  refine rest_at (l := [1]) rfl ?_
  refine rest_store rfl rfl rfl (ex_storeA (i := 0) (ms := [r 0, r 1, r 2, r 3, r 4, r 5, r 6, r 7, r 8, r 9, r 10, r 11]) H11.out.1 1 rfl rfl rfl rfl Tryz.sizeOf36 (Nat.le_of_ble_eq_true rfl)) ?_
  have H12 : Hid (Mm (w11.setCells γ1_1 (6 * 0) (cel [r 0, r 1, r 2, r 3, r 4, r 5, r 6, r 7, r 8, r 9, r 10, r 11])) [(γ1_0, cel [r 0, r 1, r 2, r 3, r 4, r 5, r 6, r 7, r 8, r 9, r 10, r 11]), (γ1_1, cel [r 0, r 1, r 2, r 3, r 4, r 5, r 6, r 7, r 8, r 9, r 10, r 11])] ∧ Below w.heap.size w (w11.setCells γ1_1 (6 * 0) (cel [r 0, r 1, r 2, r 3, r 4, r 5, r 6, r 7, r 8, r 9, r 10, r 11]))) := ⟨by
    have h := H11.out.1.put 1 (off := 6 * 0) (vs := cel [r 0, r 1, r 2, r 3, r 4, r 5, r 6, r 7, r 8, r 9, r 10, r 11]) rfl (by simp only [cel_len]; exact Nat.le_of_ble_eq_true rfl)
    rw [cel_patch] at h
    exact h, below_setCells _ o1_1.out _ _ _ H11.out.2⟩
  clear H11
  generalize hgw : World.setCells _ _ _ _ = w12 at H12 ⊢
  clear hgw
  refine rest_nil (then_normal (wp_ret ?_))
  repeat (first | refine then_ret ?_ | refine block_ret ?_)
  have hf0 := cel_var (k := 12) H12.out.1 1 rfl Tryz.isAgg36 Tryz.sizeOf36 rfl
  refine bodyPost_ret (v := V [r 0, r 1, r 2, r 3, r 4, r 5, r 6, r 7, r 8, r 9, r 10, r 11]) (by simp [results, Tryz.results63, asAddr, hf0]) rfl ?_
  exact ⟨rfl, H12.out.2⟩
set_option maxHeartbeats 1000000 in
set_option maxRecDepth 100000 in
theorem together2_gen (a0 a1 b0 b1 r0 r1 : Nat)
    (c0 : ∀ w, Calls Tryz.prog 79 #[N a0, N b0] w (Rt w (N r0)))
    (c1 : ∀ w, Calls Tryz.prog 79 #[N a1, N b1] w (Rt w (N r1))) (w : World) :
    Calls Tryz.prog 129 #[V [a0, a1], V [b0, b1]] w (Rt w (V [r0, r1])) := by
  have H0 : Hid (_ ∧ _) := ⟨Mm.nil w, Below.refl w.heap.size w⟩
  have C0 : Hid _ := c0
  have C1 : Hid _ := c1
  clear c0 c1
  go_enter Tryz.func129, Tryz.ntmps129
  refine wp_seq ?_
  refine walk_seqA 3 [.made (cel [a0, a1]) 26, .made (cel [b0, b1]) 26, .made (cel [0, 0]) 26] (sB H0) ?ho1 ?he1
  case ho1 => exact ak (fun γ => ⟨rfl, fun w' => ex_boxA rfl rfl⟩) (ak (fun γ => ⟨rfl, fun w' => ex_boxA rfl rfl⟩) (ak (fun γ => ⟨rfl, fun w' => ex_madeE2 rfl⟩) trivial))
  intro γ w1 l hM hl
  have H1 : Hid (Mm w1 [(γ 0, cel [a0, a1]), (γ 1, cel [b0, b1]), (γ 2, cel [0, 0])] ∧ _) := growB H0 hM (Nat.le_refl _) hl [0, 1, 2] rfl (by decide)
  have o1_0 := ownB H0 hM (Nat.le_refl _) hl (i := 0) rfl
  have o1_1 := ownB H0 hM (Nat.le_refl _) hl (i := 1) rfl
  have o1_2 := ownB H0 hM (Nat.le_refl _) hl (i := 2) rfl
  clear hM hl l
  generalize γ 0 = γ1_0 at H1 o1_0 ⊢
  generalize γ 1 = γ1_1 at H1 o1_1 ⊢
  generalize γ 2 = γ1_2 at H1 o1_2 ⊢
  clear γ
  refine rest0 rfl (then_normal (wp_seq ?_))
  refine walk_anyB 11 [.quiet (PT γ1_0 0), .quiet (N a0), .quiet (PT γ1_1 0), .quiet (N b0), .call (N r0), .quiet (PT γ1_0 6), .quiet (N a1), .quiet (PT γ1_1 6), .quiet (N b1), .call (N r1), .quiet (V [r0, r1])] H1 ?ho2 ?he2
  case ho2 => exact ak (by refine fun γ => ⟨rfl, fun w' h => ?_⟩; clear h; go_simp) (ak (fun γ => ⟨rfl, fun w' h => ex_loadN (i := 0) h 0 rfl rfl rfl rfl⟩) (ak (by refine fun γ => ⟨rfl, fun w' h => ?_⟩; clear h; go_simp) (ak (fun γ => ⟨rfl, fun w' h => ex_loadN (i := 0) h 1 rfl rfl rfl rfl⟩) (ak (fun γ => ⟨rfl, fun w' h => ⟨79, #[N a0, N b0], exec_call rfl call79 rfl (mpn rfl), C0.out w'⟩⟩) (ak (by refine fun γ => ⟨rfl, fun w' h => ?_⟩; clear h; go_simp) (ak (fun γ => ⟨rfl, fun w' h => ex_loadN (i := 1) h 0 rfl rfl rfl rfl⟩) (ak (by refine fun γ => ⟨rfl, fun w' h => ?_⟩; clear h; go_simp) (ak (fun γ => ⟨rfl, fun w' h => ex_loadN (i := 1) h 1 rfl rfl rfl rfl⟩) (ak (fun γ => ⟨rfl, fun w' h => ⟨79, #[N a1, N b1], exec_call rfl call79 rfl (mpn rfl), C1.out w'⟩⟩) (ak (fun γ => ⟨rfl, fun w' _ => ex_buildE2 rfl rfl rfl⟩) trivial))))))))))
  intro _ w2 H2
  clear H1
  refine rest_at (l := [11]) rfl ?_
  refine rest_store rfl rfl rfl (ex_storeA (i := 0) (ms := [r0, r1]) H2.out.1 2 rfl rfl rfl rfl Tryz.sizeOf26 (Nat.le_of_ble_eq_true rfl)) ?_
  have H3 : Hid (Mm (w2.setCells γ1_2 (6 * 0) (cel [r0, r1])) [(γ1_0, cel [a0, a1]), (γ1_1, cel [b0, b1]), (γ1_2, cel [r0, r1])] ∧ Below w.heap.size w (w2.setCells γ1_2 (6 * 0) (cel [r0, r1]))) := ⟨by
    have h := H2.out.1.put 2 (off := 6 * 0) (vs := cel [r0, r1]) rfl (by simp only [cel_len]; exact Nat.le_of_ble_eq_true rfl)
    rw [cel_patch] at h
    exact h, below_setCells _ o1_2.out _ _ _ H2.out.2⟩
  clear H2
  generalize hgw : World.setCells _ _ _ _ = w3 at H3 ⊢
  clear hgw
  refine rest_nil (then_normal (wp_ret ?_))
  repeat (first | refine then_ret ?_ | refine block_ret ?_)
  have hf0 := cel_var (k := 2) H3.out.1 2 rfl Tryz.isAgg26 Tryz.sizeOf26 rfl
  refine bodyPost_ret (v := V [r0, r1]) (by simp [results, Tryz.results129, asAddr, hf0]) rfl ?_
  exact ⟨rfl, H3.out.2⟩
set_option maxHeartbeats 4000000 in
set_option maxRecDepth 100000 in
theorem three_gen (a b r : Nat → Nat)
    (cl : ∀ k, k < 3 → ∀ w, Calls Tryz.prog 129 #[V [a (2 * k), a (2 * k + 1)], V [b (2 * k), b (2 * k + 1)]] w (Rt w (V [r (2 * k), r (2 * k + 1)]))) (w : World) :
    Calls Tryz.prog 101 #[V [a 0, a 1, a 2, a 3, a 4, a 5], V [b 0, b 1, b 2, b 3, b 4, b 5]] w (Rt w (V [r 0, r 1, r 2, r 3, r 4, r 5])) := by
  have H0 : Hid (_ ∧ _) := ⟨Mm.nil w, Below.refl w.heap.size w⟩
  have CL : Hid _ := cl
  clear cl
  go_enter Tryz.func101, Tryz.ntmps101
  refine wp_seq ?_
  refine walk_seqA 3 [.made (cel [a 0, a 1, a 2, a 3, a 4, a 5]) 83, .made (cel [b 0, b 1, b 2, b 3, b 4, b 5]) 83, .made (cel [0, 0, 0, 0, 0, 0]) 83] (sB H0) ?ho1 ?he1
  case ho1 => exact ak (fun γ => ⟨rfl, fun w' => ex_boxA rfl rfl⟩) (ak (fun γ => ⟨rfl, fun w' => ex_boxA rfl rfl⟩) (ak (fun γ => ⟨rfl, fun w' => ex_madeTH rfl⟩) trivial))
  intro γ w1 l hM hl
  have H1 : Hid (Mm w1 [(γ 0, cel [a 0, a 1, a 2, a 3, a 4, a 5]), (γ 1, cel [b 0, b 1, b 2, b 3, b 4, b 5]), (γ 2, cel [0, 0, 0, 0, 0, 0])] ∧ _) := growB H0 hM (Nat.le_refl _) hl [0, 1, 2] rfl (by decide)
  have o1_0 := ownB H0 hM (Nat.le_refl _) hl (i := 0) rfl
  have o1_1 := ownB H0 hM (Nat.le_refl _) hl (i := 1) rfl
  have o1_2 := ownB H0 hM (Nat.le_refl _) hl (i := 2) rfl
  clear hM hl l
  generalize γ 0 = γ1_0 at H1 o1_0 ⊢
  generalize γ 1 = γ1_1 at H1 o1_1 ⊢
  generalize γ 2 = γ1_2 at H1 o1_2 ⊢
  clear γ
  refine rest0 rfl (then_normal (wp_seq (wp_seq ?_)))
  refine walk_seqB 1 [.quiet (.int .i64 0)] H1 ?ho2 ?he2
  case ho2 => exact ak (fun _ => ⟨rfl, fun _ _ => rfl⟩) trivial
  intro _ w2 H2
  clear H1
  refine rest0 rfl (then_normal (wp_block ?_))
  refine loop_ghost (α := Nat) (fun k a' w' => ∃ s0 : Nat → Value, a' = ⟨#[V [a 0, a 1, a 2, a 3, a 4, a 5], V [b 0, b 1, b 2, b 3, b 4, b 5], PT γ1_0 0, PT γ1_1 0, PT γ1_2 0, s0 5, .int .i64 ((k : Nat) : Int), s0 7, s0 8, s0 9, s0 10, s0 11, s0 12, s0 13, s0 14, s0 15, s0 16, s0 17, s0 18, undef], []⟩ ∧ (Mm w' [(γ1_0, cel (mx6 a r (2 * k))), (γ1_1, cel [b 0, b 1, b 2, b 3, b 4, b 5]), (γ1_2, cel [0, 0, 0, 0, 0, 0])] ∧ Below w.heap.size w w') ∧ k ≤ 3) (fun k => 3 - k) 0 ?st0 ?rd0
  case st0 => exact ⟨(slotfn [undef, undef, undef, undef, undef, undef, undef, undef, undef, undef, undef, undef, undef, undef, undef, undef, undef, undef, undef]), rfl, ⟨H2.out.1.atk (by rw [mx6_0 a r]), H2.out.2⟩, by omega⟩
  intro k a' w3 hI
  obtain ⟨s0, rfl, hMB, hk0⟩ := hI
  have H3 : Hid (_ ∧ _) := hMB
  clear hMB H2
  by_cases hlt : k < 3
  · have hrd : True := trivial
    clear hrd
    refine wp_seq ?_
    refine walk_seqB 1 [.quiet (.bool true)] H3 ?ho3 ?he3
    case ho3 => exact ak (by refine fun γ => ⟨rfl, fun w' h => ?_⟩; clear h; go_simp <;> omega) trivial
    intro _ w4 H4
    clear H3
    refine rest0 rfl (then_normal (wp_seq ?_))
    refine wp_cond_true rfl (wp_skip ?_)
    refine then_normal (wp_seq ?_)
    refine wp_block (wp_seq ?_)
    refine walk_seqB 2 [.quiet (.int .i64 ((k : Nat) : Int)), .quiet (.int .i64 ((k : Nat) : Int))] H4 ?ho4 ?he4
    case ho4 => exact ak (fun _ => ⟨rfl, fun _ _ => rfl⟩) (ak (fun _ => ⟨rfl, fun _ _ => rfl⟩) trivial)
    intro _ w5 H5
    clear H4
    refine rest0 rfl (then_normal ?_)
    refine walk_anyB 9 [.quiet (.int .i64 ((k : Nat) : Int)), .quiet (.int .i64 ((k : Nat) : Int)), .quiet (PT γ1_0 (6 * (2 * k))), .quiet (V [a (2 * k), a (2 * k + 1)]), .quiet (.int .i64 ((k : Nat) : Int)), .quiet (PT γ1_1 (6 * (2 * k))), .quiet (V [b (2 * k), b (2 * k + 1)]), .call (V [r (2 * k), r (2 * k + 1)]), .quiet (PT γ1_0 (6 * (2 * k)))] H5 ?ho5 ?he5
    case ho5 => exact ak (fun _ => ⟨rfl, fun _ _ => rfl⟩) (ak (fun _ => ⟨rfl, fun _ _ => rfl⟩) (ak (fun γ => ⟨rfl, fun w' _ => ex_idxTH rfl rfl rfl (by omega)⟩) (ak (fun γ => ⟨rfl, fun w' h => ex_loadA (i := 2 * k) (k := 2) h 0 rfl rfl rfl Tryz.isAgg26 Tryz.sizeOf26 (mx6_ld a r hlt) rfl⟩) (ak (fun _ => ⟨rfl, fun _ _ => rfl⟩) (ak (fun γ => ⟨rfl, fun w' _ => ex_idxTH rfl rfl rfl (by omega)⟩) (ak (fun γ => ⟨rfl, fun w' h => ex_loadA (i := 2 * k) (k := 2) h 1 rfl rfl rfl Tryz.isAgg26 Tryz.sizeOf26 (tl6_ld b hlt) rfl⟩) (ak (fun γ => ⟨rfl, fun w' h => ⟨129, #[V [a (2 * k), a (2 * k + 1)], V [b (2 * k), b (2 * k + 1)]], exec_call rfl call129 rfl (mpn rfl), CL.out k hlt w'⟩⟩) (ak (fun γ => ⟨rfl, fun w' _ => ex_idxTH rfl rfl rfl (by omega)⟩) trivial))))))))
    intro _ w6 H6
    clear H5
    refine rest_at (l := [9]) rfl ?_
    refine rest_store rfl rfl rfl (ex_storeA (i := 2 * k) (ms := [r (2 * k), r (2 * k + 1)]) H6.out.1 0 rfl rfl rfl rfl Tryz.sizeOf26 (mx6_bd a r rfl hlt)) ?_
    have H7 : Hid (Mm (w6.setCells γ1_0 (6 * (2 * k)) (cel [r (2 * k), r (2 * k + 1)])) [(γ1_0, cel (mx6 a r (2 * (k + 1)))), (γ1_1, cel [b 0, b 1, b 2, b 3, b 4, b 5]), (γ1_2, cel [0, 0, 0, 0, 0, 0])] ∧ Below w.heap.size w (w6.setCells γ1_0 (6 * (2 * k)) (cel [r (2 * k), r (2 * k + 1)]))) := ⟨by
      have h := H6.out.1.put 0 (off := 6 * (2 * k)) (vs := cel [r (2 * k), r (2 * k + 1)]) rfl (by rw [cel_len, cel_len]; exact cel_bd (mx6_bd a r rfl hlt))
      rw [cel_patch, mx6_st a r hlt] at h
      exact h, below_setCells _ o1_0.out _ _ _ H6.out.2⟩
    clear H6
    generalize hgw : World.setCells _ _ _ _ = w7 at H7 ⊢
    clear hgw
    refine rest_nil (block_normal (then_normal ?_))
    refine walk_seqB 1 [.quiet (.int .i64 ((k + 1 : Nat) : Int))] H7 ?ho6 ?he6
    case ho6 => exact ak (by refine fun γ => ⟨rfl, fun w' h => ?_⟩; clear h; go_simp; rw [IntKind.wrap_i64]; omega) trivial
    intro _ w8 H8
    clear H7
    refine rest_at (l := [1]) rfl ?_
    refine rest_set (d := 6) rfl rfl rfl rfl ?_
    simp only [Act.put, sa, sz, ss]
    refine rest_nil (then_normal ?_)
    exact ⟨k + 1, ⟨(slotfn [undef, undef, undef, undef, undef, .int .i64 ((k : Nat) : Int), undef, .bool true, .int .i64 ((k : Nat) : Int), .int .i64 ((k : Nat) : Int), .int .i64 ((k : Nat) : Int), PT γ1_0 (6 * (2 * k)), V [a (2 * k), a (2 * k + 1)], .int .i64 ((k : Nat) : Int), PT γ1_1 (6 * (2 * k)), V [b (2 * k), b (2 * k + 1)], V [r (2 * k), r (2 * k + 1)], PT γ1_0 (6 * (2 * k)), .int .i64 ((k + 1 : Nat) : Int)]), rfl, ⟨H8.out.1, H8.out.2⟩, by omega⟩, by omega⟩
  have hkN : k = 3 := by omega
  subst hkN
  have H9 : Hid (Mm w3 [(γ1_0, cel [r 0, r 1, r 2, r 3, r 4, r 5]), (γ1_1, cel [b 0, b 1, b 2, b 3, b 4, b 5]), (γ1_2, cel [0, 0, 0, 0, 0, 0])] ∧ Below w.heap.size w w3) := ⟨H3.out.1.atk (by rw [mx6_e a r]), H3.out.2⟩
  clear H3
  refine wp_seq ?_
  refine walk_seqB 1 [.quiet (.bool false)] H9 ?ho7 ?he7
  case ho7 => exact ak (by refine fun γ => ⟨rfl, fun w' h => ?_⟩; clear h; go_simp <;> omega) trivial
  intro _ w10 H10
  clear H9
  refine rest0 rfl (then_normal (wp_seq (wp_cond_false rfl ?_)))
  refine wp_exit ?_
  repeat refine then_exit ?_
  refine block_exit ?_
  refine then_normal (wp_seq ?_)
  refine walk_seqB 1 [.quiet (V [r 0, r 1, r 2, r 3, r 4, r 5])] H10 ?ho8 ?he8
  case ho8 => exact ak (fun γ => ⟨rfl, fun w' h => ex_loadA (i := 0) (k := 6) h 0 rfl rfl rfl Tryz.isAgg83 Tryz.sizeOf83 rfl rfl⟩) trivial
  intro _ w11 H11
  clear H10
  refine rest_at (l := [1]) rfl ?_
  refine rest_store rfl rfl rfl (ex_storeA (i := 0) (ms := [r 0, r 1, r 2, r 3, r 4, r 5]) H11.out.1 2 rfl rfl rfl rfl Tryz.sizeOf83 (Nat.le_of_ble_eq_true rfl)) ?_
  have H12 : Hid (Mm (w11.setCells γ1_2 (6 * 0) (cel [r 0, r 1, r 2, r 3, r 4, r 5])) [(γ1_0, cel [r 0, r 1, r 2, r 3, r 4, r 5]), (γ1_1, cel [b 0, b 1, b 2, b 3, b 4, b 5]), (γ1_2, cel [r 0, r 1, r 2, r 3, r 4, r 5])] ∧ Below w.heap.size w (w11.setCells γ1_2 (6 * 0) (cel [r 0, r 1, r 2, r 3, r 4, r 5]))) := ⟨by
    have h := H11.out.1.put 2 (off := 6 * 0) (vs := cel [r 0, r 1, r 2, r 3, r 4, r 5]) rfl (by simp only [cel_len]; exact Nat.le_of_ble_eq_true rfl)
    rw [cel_patch] at h
    exact h, below_setCells _ o1_2.out _ _ _ H11.out.2⟩
  clear H11
  generalize hgw : World.setCells _ _ _ _ = w12 at H12 ⊢
  clear hgw
  refine rest_nil (then_normal (wp_ret ?_))
  repeat (first | refine then_ret ?_ | refine block_ret ?_)
  have hf0 := cel_var (k := 6) H12.out.1 2 rfl Tryz.isAgg83 Tryz.sizeOf83 rfl
  refine bodyPost_ret (v := V [r 0, r 1, r 2, r 3, r 4, r 5]) (by simp [results, Tryz.results101, asAddr, hf0]) rfl ?_
  exact ⟨rfl, H12.out.2⟩
set_option maxHeartbeats 1000000 in
set_option maxRecDepth 100000 in
theorem plus2_gen (a0 a1 a2 a3 b0 b1 b2 b3 r0 r1 r2 r3 : Nat)
    (c0 : ∀ w, Calls Tryz.prog 123 #[V [a0, a1], V [b0, b1]] w (Rt w (V [r0, r1])))
    (c1 : ∀ w, Calls Tryz.prog 123 #[V [a2, a3], V [b2, b3]] w (Rt w (V [r2, r3]))) (w : World) :
    Calls Tryz.prog 103 #[V [a0, a1, a2, a3], V [b0, b1, b2, b3]] w (Rt w (V [r0, r1, r2, r3])) := by
  have H0 : Hid (_ ∧ _) := ⟨Mm.nil w, Below.refl w.heap.size w⟩
  have C0 : Hid _ := c0
  have C1 : Hid _ := c1
  clear c0 c1
  go_enter Tryz.func103, Tryz.ntmps103
  refine wp_seq ?_
  refine walk_seqA 3 [.made (cel [a0, a1, a2, a3]) 75, .made (cel [b0, b1, b2, b3]) 75, .made (cel [0, 0, 0, 0]) 75] (sB H0) ?ho1 ?he1
  case ho1 => exact ak (fun γ => ⟨rfl, fun w' => ex_boxA rfl rfl⟩) (ak (fun γ => ⟨rfl, fun w' => ex_boxA rfl rfl⟩) (ak (fun γ => ⟨rfl, fun w' => ex_madeW2 rfl⟩) trivial))
  intro γ w1 l hM hl
  have H1 : Hid (Mm w1 [(γ 0, cel [a0, a1, a2, a3]), (γ 1, cel [b0, b1, b2, b3]), (γ 2, cel [0, 0, 0, 0])] ∧ _) := growB H0 hM (Nat.le_refl _) hl [0, 1, 2] rfl (by decide)
  have o1_0 := ownB H0 hM (Nat.le_refl _) hl (i := 0) rfl
  have o1_1 := ownB H0 hM (Nat.le_refl _) hl (i := 1) rfl
  have o1_2 := ownB H0 hM (Nat.le_refl _) hl (i := 2) rfl
  clear hM hl l
  generalize γ 0 = γ1_0 at H1 o1_0 ⊢
  generalize γ 1 = γ1_1 at H1 o1_1 ⊢
  generalize γ 2 = γ1_2 at H1 o1_2 ⊢
  clear γ
  refine rest0 rfl (then_normal (wp_seq ?_))
  refine walk_anyB 11 [.quiet (PT γ1_0 0), .quiet (V [a0, a1]), .quiet (PT γ1_1 0), .quiet (V [b0, b1]), .call (V [r0, r1]), .quiet (PT γ1_0 12), .quiet (V [a2, a3]), .quiet (PT γ1_1 12), .quiet (V [b2, b3]), .call (V [r2, r3]), .quiet (V [r0, r1, r2, r3])] H1 ?ho2 ?he2
  case ho2 => exact ak (by refine fun γ => ⟨rfl, fun w' h => ?_⟩; clear h; go_simp) (ak (fun γ => ⟨rfl, fun w' h => ex_loadA (i := 0) (k := 2) h 0 rfl rfl rfl Tryz.isAgg73 Tryz.sizeOf73 rfl rfl⟩) (ak (by refine fun γ => ⟨rfl, fun w' h => ?_⟩; clear h; go_simp) (ak (fun γ => ⟨rfl, fun w' h => ex_loadA (i := 0) (k := 2) h 1 rfl rfl rfl Tryz.isAgg73 Tryz.sizeOf73 rfl rfl⟩) (ak (fun γ => ⟨rfl, fun w' h => ⟨123, #[V [a0, a1], V [b0, b1]], exec_call rfl call123 rfl (mpn rfl), C0.out w'⟩⟩) (ak (by refine fun γ => ⟨rfl, fun w' h => ?_⟩; clear h; go_simp) (ak (fun γ => ⟨rfl, fun w' h => ex_loadA (i := 2) (k := 2) h 0 rfl rfl rfl Tryz.isAgg73 Tryz.sizeOf73 rfl rfl⟩) (ak (by refine fun γ => ⟨rfl, fun w' h => ?_⟩; clear h; go_simp) (ak (fun γ => ⟨rfl, fun w' h => ex_loadA (i := 2) (k := 2) h 1 rfl rfl rfl Tryz.isAgg73 Tryz.sizeOf73 rfl rfl⟩) (ak (fun γ => ⟨rfl, fun w' h => ⟨123, #[V [a2, a3], V [b2, b3]], exec_call rfl call123 rfl (mpn rfl), C1.out w'⟩⟩) (ak (fun γ => ⟨rfl, fun w' _ => ex_buildW2 rfl rfl rfl⟩) trivial))))))))))
  intro _ w2 H2
  clear H1
  refine rest_at (l := [11]) rfl ?_
  refine rest_store rfl rfl rfl (ex_storeA (i := 0) (ms := [r0, r1, r2, r3]) H2.out.1 2 rfl rfl rfl rfl Tryz.sizeOf75 (Nat.le_of_ble_eq_true rfl)) ?_
  have H3 : Hid (Mm (w2.setCells γ1_2 (6 * 0) (cel [r0, r1, r2, r3])) [(γ1_0, cel [a0, a1, a2, a3]), (γ1_1, cel [b0, b1, b2, b3]), (γ1_2, cel [r0, r1, r2, r3])] ∧ Below w.heap.size w (w2.setCells γ1_2 (6 * 0) (cel [r0, r1, r2, r3]))) := ⟨by
    have h := H2.out.1.put 2 (off := 6 * 0) (vs := cel [r0, r1, r2, r3]) rfl (by simp only [cel_len]; exact Nat.le_of_ble_eq_true rfl)
    rw [cel_patch] at h
    exact h, below_setCells _ o1_2.out _ _ _ H2.out.2⟩
  clear H2
  generalize hgw : World.setCells _ _ _ _ = w3 at H3 ⊢
  clear hgw
  refine rest_nil (then_normal (wp_ret ?_))
  repeat (first | refine then_ret ?_ | refine block_ret ?_)
  have hf0 := cel_var (k := 4) H3.out.1 2 rfl Tryz.isAgg75 Tryz.sizeOf75 rfl
  refine bodyPost_ret (v := V [r0, r1, r2, r3]) (by simp [results, Tryz.results103, asAddr, hf0]) rfl ?_
  exact ⟨rfl, H3.out.2⟩
set_option maxHeartbeats 1000000 in
set_option maxRecDepth 100000 in
theorem less2_gen (a0 a1 a2 a3 b0 b1 b2 b3 r0 r1 r2 r3 : Nat)
    (c0 : ∀ w, Calls Tryz.prog 115 #[V [a0, a1], V [b0, b1]] w (Rt w (V [r0, r1])))
    (c1 : ∀ w, Calls Tryz.prog 115 #[V [a2, a3], V [b2, b3]] w (Rt w (V [r2, r3]))) (w : World) :
    Calls Tryz.prog 104 #[V [a0, a1, a2, a3], V [b0, b1, b2, b3]] w (Rt w (V [r0, r1, r2, r3])) := by
  have H0 : Hid (_ ∧ _) := ⟨Mm.nil w, Below.refl w.heap.size w⟩
  have C0 : Hid _ := c0
  have C1 : Hid _ := c1
  clear c0 c1
  go_enter Tryz.func104, Tryz.ntmps104
  refine wp_seq ?_
  refine walk_seqA 3 [.made (cel [a0, a1, a2, a3]) 75, .made (cel [b0, b1, b2, b3]) 75, .made (cel [0, 0, 0, 0]) 75] (sB H0) ?ho1 ?he1
  case ho1 => exact ak (fun γ => ⟨rfl, fun w' => ex_boxA rfl rfl⟩) (ak (fun γ => ⟨rfl, fun w' => ex_boxA rfl rfl⟩) (ak (fun γ => ⟨rfl, fun w' => ex_madeW2 rfl⟩) trivial))
  intro γ w1 l hM hl
  have H1 : Hid (Mm w1 [(γ 0, cel [a0, a1, a2, a3]), (γ 1, cel [b0, b1, b2, b3]), (γ 2, cel [0, 0, 0, 0])] ∧ _) := growB H0 hM (Nat.le_refl _) hl [0, 1, 2] rfl (by decide)
  have o1_0 := ownB H0 hM (Nat.le_refl _) hl (i := 0) rfl
  have o1_1 := ownB H0 hM (Nat.le_refl _) hl (i := 1) rfl
  have o1_2 := ownB H0 hM (Nat.le_refl _) hl (i := 2) rfl
  clear hM hl l
  generalize γ 0 = γ1_0 at H1 o1_0 ⊢
  generalize γ 1 = γ1_1 at H1 o1_1 ⊢
  generalize γ 2 = γ1_2 at H1 o1_2 ⊢
  clear γ
  refine rest0 rfl (then_normal (wp_seq ?_))
  refine walk_anyB 11 [.quiet (PT γ1_0 0), .quiet (V [a0, a1]), .quiet (PT γ1_1 0), .quiet (V [b0, b1]), .call (V [r0, r1]), .quiet (PT γ1_0 12), .quiet (V [a2, a3]), .quiet (PT γ1_1 12), .quiet (V [b2, b3]), .call (V [r2, r3]), .quiet (V [r0, r1, r2, r3])] H1 ?ho2 ?he2
  case ho2 => exact ak (by refine fun γ => ⟨rfl, fun w' h => ?_⟩; clear h; go_simp) (ak (fun γ => ⟨rfl, fun w' h => ex_loadA (i := 0) (k := 2) h 0 rfl rfl rfl Tryz.isAgg73 Tryz.sizeOf73 rfl rfl⟩) (ak (by refine fun γ => ⟨rfl, fun w' h => ?_⟩; clear h; go_simp) (ak (fun γ => ⟨rfl, fun w' h => ex_loadA (i := 0) (k := 2) h 1 rfl rfl rfl Tryz.isAgg73 Tryz.sizeOf73 rfl rfl⟩) (ak (fun γ => ⟨rfl, fun w' h => ⟨115, #[V [a0, a1], V [b0, b1]], exec_call rfl call115 rfl (mpn rfl), C0.out w'⟩⟩) (ak (by refine fun γ => ⟨rfl, fun w' h => ?_⟩; clear h; go_simp) (ak (fun γ => ⟨rfl, fun w' h => ex_loadA (i := 2) (k := 2) h 0 rfl rfl rfl Tryz.isAgg73 Tryz.sizeOf73 rfl rfl⟩) (ak (by refine fun γ => ⟨rfl, fun w' h => ?_⟩; clear h; go_simp) (ak (fun γ => ⟨rfl, fun w' h => ex_loadA (i := 2) (k := 2) h 1 rfl rfl rfl Tryz.isAgg73 Tryz.sizeOf73 rfl rfl⟩) (ak (fun γ => ⟨rfl, fun w' h => ⟨115, #[V [a2, a3], V [b2, b3]], exec_call rfl call115 rfl (mpn rfl), C1.out w'⟩⟩) (ak (fun γ => ⟨rfl, fun w' _ => ex_buildW2 rfl rfl rfl⟩) trivial))))))))))
  intro _ w2 H2
  clear H1
  refine rest_at (l := [11]) rfl ?_
  refine rest_store rfl rfl rfl (ex_storeA (i := 0) (ms := [r0, r1, r2, r3]) H2.out.1 2 rfl rfl rfl rfl Tryz.sizeOf75 (Nat.le_of_ble_eq_true rfl)) ?_
  have H3 : Hid (Mm (w2.setCells γ1_2 (6 * 0) (cel [r0, r1, r2, r3])) [(γ1_0, cel [a0, a1, a2, a3]), (γ1_1, cel [b0, b1, b2, b3]), (γ1_2, cel [r0, r1, r2, r3])] ∧ Below w.heap.size w (w2.setCells γ1_2 (6 * 0) (cel [r0, r1, r2, r3]))) := ⟨by
    have h := H2.out.1.put 2 (off := 6 * 0) (vs := cel [r0, r1, r2, r3]) rfl (by simp only [cel_len]; exact Nat.le_of_ble_eq_true rfl)
    rw [cel_patch] at h
    exact h, below_setCells _ o1_2.out _ _ _ H2.out.2⟩
  clear H2
  generalize hgw : World.setCells _ _ _ _ = w3 at H3 ⊢
  clear hgw
  refine rest_nil (then_normal (wp_ret ?_))
  repeat (first | refine then_ret ?_ | refine block_ret ?_)
  have hf0 := cel_var (k := 4) H3.out.1 2 rfl Tryz.isAgg75 Tryz.sizeOf75 rfl
  refine bodyPost_ret (v := V [r0, r1, r2, r3]) (by simp [results, Tryz.results104, asAddr, hf0]) rfl ?_
  exact ⟨rfl, H3.out.2⟩
set_option maxHeartbeats 1000000 in
set_option maxRecDepth 100000 in
theorem raised_gen (a0 a1 a2 a3 r0 r1 r2 r3 : Nat)
    (c0 : ∀ w, Calls Tryz.prog 115 #[V [a0, a1], V [a2, a3]] w (Rt w (V [r0, r1])))
    (c1 : ∀ w, Calls Tryz.prog 123 #[V [a0, a1], V [a2, a3]] w (Rt w (V [r2, r3]))) (w : World) :
    Calls Tryz.prog 102 #[V [a0, a1, a2, a3]] w (Rt w (V [r0, r1, r2, r3])) := by
  have H0 : Hid (_ ∧ _) := ⟨Mm.nil w, Below.refl w.heap.size w⟩
  have C0 : Hid _ := c0
  have C1 : Hid _ := c1
  clear c0 c1
  go_enter Tryz.func102, Tryz.ntmps102
  refine wp_seq ?_
  refine walk_seqA 2 [.made (cel [a0, a1, a2, a3]) 75, .made (cel [0, 0, 0, 0]) 75] (sB H0) ?ho1 ?he1
  case ho1 => exact ak (fun γ => ⟨rfl, fun w' => ex_boxA rfl rfl⟩) (ak (fun γ => ⟨rfl, fun w' => ex_madeW2 rfl⟩) trivial)
  intro γ w1 l hM hl
  have H1 : Hid (Mm w1 [(γ 0, cel [a0, a1, a2, a3]), (γ 1, cel [0, 0, 0, 0])] ∧ _) := growB H0 hM (Nat.le_refl _) hl [0, 1] rfl (by decide)
  have o1_0 := ownB H0 hM (Nat.le_refl _) hl (i := 0) rfl
  have o1_1 := ownB H0 hM (Nat.le_refl _) hl (i := 1) rfl
  clear hM hl l
  generalize γ 0 = γ1_0 at H1 o1_0 ⊢
  generalize γ 1 = γ1_1 at H1 o1_1 ⊢
  clear γ
  refine rest0 rfl (then_normal (wp_seq ?_))
  refine walk_anyB 11 [.quiet (PT γ1_0 0), .quiet (V [a0, a1]), .quiet (PT γ1_0 12), .quiet (V [a2, a3]), .call (V [r0, r1]), .quiet (PT γ1_0 0), .quiet (V [a0, a1]), .quiet (PT γ1_0 12), .quiet (V [a2, a3]), .call (V [r2, r3]), .quiet (V [r0, r1, r2, r3])] H1 ?ho2 ?he2
  case ho2 => exact ak (by refine fun γ => ⟨rfl, fun w' h => ?_⟩; clear h; go_simp) (ak (fun γ => ⟨rfl, fun w' h => ex_loadA (i := 0) (k := 2) h 0 rfl rfl rfl Tryz.isAgg73 Tryz.sizeOf73 rfl rfl⟩) (ak (by refine fun γ => ⟨rfl, fun w' h => ?_⟩; clear h; go_simp) (ak (fun γ => ⟨rfl, fun w' h => ex_loadA (i := 2) (k := 2) h 0 rfl rfl rfl Tryz.isAgg73 Tryz.sizeOf73 rfl rfl⟩) (ak (fun γ => ⟨rfl, fun w' h => ⟨115, #[V [a0, a1], V [a2, a3]], exec_call rfl call115 rfl (mpn rfl), C0.out w'⟩⟩) (ak (by refine fun γ => ⟨rfl, fun w' h => ?_⟩; clear h; go_simp) (ak (fun γ => ⟨rfl, fun w' h => ex_loadA (i := 0) (k := 2) h 0 rfl rfl rfl Tryz.isAgg73 Tryz.sizeOf73 rfl rfl⟩) (ak (by refine fun γ => ⟨rfl, fun w' h => ?_⟩; clear h; go_simp) (ak (fun γ => ⟨rfl, fun w' h => ex_loadA (i := 2) (k := 2) h 0 rfl rfl rfl Tryz.isAgg73 Tryz.sizeOf73 rfl rfl⟩) (ak (fun γ => ⟨rfl, fun w' h => ⟨123, #[V [a0, a1], V [a2, a3]], exec_call rfl call123 rfl (mpn rfl), C1.out w'⟩⟩) (ak (fun γ => ⟨rfl, fun w' _ => ex_buildW2 rfl rfl rfl⟩) trivial))))))))))
  intro _ w2 H2
  clear H1
  refine rest_at (l := [11]) rfl ?_
  refine rest_store rfl rfl rfl (ex_storeA (i := 0) (ms := [r0, r1, r2, r3]) H2.out.1 1 rfl rfl rfl rfl Tryz.sizeOf75 (Nat.le_of_ble_eq_true rfl)) ?_
  have H3 : Hid (Mm (w2.setCells γ1_1 (6 * 0) (cel [r0, r1, r2, r3])) [(γ1_0, cel [a0, a1, a2, a3]), (γ1_1, cel [r0, r1, r2, r3])] ∧ Below w.heap.size w (w2.setCells γ1_1 (6 * 0) (cel [r0, r1, r2, r3]))) := ⟨by
    have h := H2.out.1.put 1 (off := 6 * 0) (vs := cel [r0, r1, r2, r3]) rfl (by simp only [cel_len]; exact Nat.le_of_ble_eq_true rfl)
    rw [cel_patch] at h
    exact h, below_setCells _ o1_1.out _ _ _ H2.out.2⟩
  clear H2
  generalize hgw : World.setCells _ _ _ _ = w3 at H3 ⊢
  clear hgw
  refine rest_nil (then_normal (wp_ret ?_))
  repeat (first | refine then_ret ?_ | refine block_ret ?_)
  have hf0 := cel_var (k := 4) H3.out.1 1 rfl Tryz.isAgg75 Tryz.sizeOf75 rfl
  refine bodyPost_ret (v := V [r0, r1, r2, r3]) (by simp [results, Tryz.results102, asAddr, hf0]) rfl ?_
  exact ⟨rfl, H3.out.2⟩
set_option maxHeartbeats 4000000 in
set_option maxRecDepth 100000 in
theorem parts_0 (a : Nat → Nat)
     (w : World) :
    Calls Tryz.prog 99 #[V [a 0, a 1, a 2, a 3, a 4, a 5, a 6, a 7, a 8, a 9, a 10, a 11], .int .i64 0] w (Rt w (V [a 0, a 1, a 4, a 5, a 8, a 9])) := by
  have H0 : Hid (_ ∧ _) := ⟨Mm.nil w, Below.refl w.heap.size w⟩
  go_enter Tryz.func99, Tryz.ntmps99
  refine wp_seq ?_
  refine walk_seqA 2 [.made (cel [a 0, a 1, a 2, a 3, a 4, a 5, a 6, a 7, a 8, a 9, a 10, a 11]) 36, .made (cel [0, 0, 0, 0, 0, 0]) 83] (sB H0) ?ho1 ?he1
  case ho1 => exact ak (fun γ => ⟨rfl, fun w' => ex_boxA rfl rfl⟩) (ak (fun γ => ⟨rfl, fun w' => ex_madeTH rfl⟩) trivial)
  intro γ w1 l hM hl
  have H1 : Hid (Mm w1 [(γ 0, cel [a 0, a 1, a 2, a 3, a 4, a 5, a 6, a 7, a 8, a 9, a 10, a 11]), (γ 1, cel [0, 0, 0, 0, 0, 0])] ∧ _) := growB H0 hM (Nat.le_refl _) hl [0, 1] rfl (by decide)
  have o1_0 := ownB H0 hM (Nat.le_refl _) hl (i := 0) rfl
  have o1_1 := ownB H0 hM (Nat.le_refl _) hl (i := 1) rfl
  clear hM hl l
  generalize γ 0 = γ1_0 at H1 o1_0 ⊢
  generalize γ 1 = γ1_1 at H1 o1_1 ⊢
  clear γ
  refine rest0 rfl (then_normal (wp_seq ?_))
  refine walk_anyB 12 [.quiet (.int .i64 0), .quiet (PT γ1_0 0), .quiet (V [a 0, a 1]), .quiet (.int .i64 0), .quiet (.int .i64 2), .quiet (PT γ1_0 24), .quiet (V [a 4, a 5]), .quiet (.int .i64 0), .quiet (.int .i64 4), .quiet (PT γ1_0 48), .quiet (V [a 8, a 9]), .quiet (V [a 0, a 1, a 4, a 5, a 8, a 9])] H1 ?ho2 ?he2
  case ho2 => exact ak (fun _ => ⟨rfl, fun _ _ => rfl⟩) (ak (by refine fun γ => ⟨rfl, fun w' h => ?_⟩; clear h; go_simp) (ak (fun γ => ⟨rfl, fun w' h => ex_loadA (i := 0) (k := 2) h 0 rfl rfl rfl Tryz.isAgg26 Tryz.sizeOf26 rfl rfl⟩) (ak (fun _ => ⟨rfl, fun _ _ => rfl⟩) (ak (by refine fun γ => ⟨rfl, fun w' h => ?_⟩; clear h; go_simp; rfl) (ak (by refine fun γ => ⟨rfl, fun w' h => ?_⟩; clear h; go_simp) (ak (fun γ => ⟨rfl, fun w' h => ex_loadA (i := 4) (k := 2) h 0 rfl rfl rfl Tryz.isAgg26 Tryz.sizeOf26 rfl rfl⟩) (ak (fun _ => ⟨rfl, fun _ _ => rfl⟩) (ak (by refine fun γ => ⟨rfl, fun w' h => ?_⟩; clear h; go_simp; rfl) (ak (by refine fun γ => ⟨rfl, fun w' h => ?_⟩; clear h; go_simp) (ak (fun γ => ⟨rfl, fun w' h => ex_loadA (i := 8) (k := 2) h 0 rfl rfl rfl Tryz.isAgg26 Tryz.sizeOf26 rfl rfl⟩) (ak (fun γ => ⟨rfl, fun w' _ => ex_buildTH rfl rfl rfl rfl⟩) trivial)))))))))))
  intro _ w2 H2
  clear H1
  refine rest_at (l := [12]) rfl ?_
  refine rest_store rfl rfl rfl (ex_storeA (i := 0) (ms := [a 0, a 1, a 4, a 5, a 8, a 9]) H2.out.1 1 rfl rfl rfl rfl Tryz.sizeOf83 (Nat.le_of_ble_eq_true rfl)) ?_
  have H3 : Hid (Mm (w2.setCells γ1_1 (6 * 0) (cel [a 0, a 1, a 4, a 5, a 8, a 9])) [(γ1_0, cel [a 0, a 1, a 2, a 3, a 4, a 5, a 6, a 7, a 8, a 9, a 10, a 11]), (γ1_1, cel [a 0, a 1, a 4, a 5, a 8, a 9])] ∧ Below w.heap.size w (w2.setCells γ1_1 (6 * 0) (cel [a 0, a 1, a 4, a 5, a 8, a 9]))) := ⟨by
    have h := H2.out.1.put 1 (off := 6 * 0) (vs := cel [a 0, a 1, a 4, a 5, a 8, a 9]) rfl (by simp only [cel_len]; exact Nat.le_of_ble_eq_true rfl)
    rw [cel_patch] at h
    exact h, below_setCells _ o1_1.out _ _ _ H2.out.2⟩
  clear H2
  generalize hgw : World.setCells _ _ _ _ = w3 at H3 ⊢
  clear hgw
  refine rest_nil (then_normal (wp_ret ?_))
  repeat (first | refine then_ret ?_ | refine block_ret ?_)
  have hf0 := cel_var (k := 6) H3.out.1 1 rfl Tryz.isAgg83 Tryz.sizeOf83 rfl
  refine bodyPost_ret (v := V [a 0, a 1, a 4, a 5, a 8, a 9]) (by simp [results, Tryz.results99, asAddr, hf0]) rfl ?_
  exact ⟨rfl, H3.out.2⟩
set_option maxHeartbeats 4000000 in
set_option maxRecDepth 100000 in
theorem parts_1 (a : Nat → Nat)
     (w : World) :
    Calls Tryz.prog 99 #[V [a 0, a 1, a 2, a 3, a 4, a 5, a 6, a 7, a 8, a 9, a 10, a 11], .int .i64 1] w (Rt w (V [a 2, a 3, a 6, a 7, a 10, a 11])) := by
  have H0 : Hid (_ ∧ _) := ⟨Mm.nil w, Below.refl w.heap.size w⟩
  go_enter Tryz.func99, Tryz.ntmps99
  refine wp_seq ?_
  refine walk_seqA 2 [.made (cel [a 0, a 1, a 2, a 3, a 4, a 5, a 6, a 7, a 8, a 9, a 10, a 11]) 36, .made (cel [0, 0, 0, 0, 0, 0]) 83] (sB H0) ?ho1 ?he1
  case ho1 => exact ak (fun γ => ⟨rfl, fun w' => ex_boxA rfl rfl⟩) (ak (fun γ => ⟨rfl, fun w' => ex_madeTH rfl⟩) trivial)
  intro γ w1 l hM hl
  have H1 : Hid (Mm w1 [(γ 0, cel [a 0, a 1, a 2, a 3, a 4, a 5, a 6, a 7, a 8, a 9, a 10, a 11]), (γ 1, cel [0, 0, 0, 0, 0, 0])] ∧ _) := growB H0 hM (Nat.le_refl _) hl [0, 1] rfl (by decide)
  have o1_0 := ownB H0 hM (Nat.le_refl _) hl (i := 0) rfl
  have o1_1 := ownB H0 hM (Nat.le_refl _) hl (i := 1) rfl
  clear hM hl l
  generalize γ 0 = γ1_0 at H1 o1_0 ⊢
  generalize γ 1 = γ1_1 at H1 o1_1 ⊢
  clear γ
  refine rest0 rfl (then_normal (wp_seq ?_))
  refine walk_anyB 12 [.quiet (.int .i64 1), .quiet (PT γ1_0 12), .quiet (V [a 2, a 3]), .quiet (.int .i64 1), .quiet (.int .i64 3), .quiet (PT γ1_0 36), .quiet (V [a 6, a 7]), .quiet (.int .i64 1), .quiet (.int .i64 5), .quiet (PT γ1_0 60), .quiet (V [a 10, a 11]), .quiet (V [a 2, a 3, a 6, a 7, a 10, a 11])] H1 ?ho2 ?he2
  case ho2 => exact ak (fun _ => ⟨rfl, fun _ _ => rfl⟩) (ak (by refine fun γ => ⟨rfl, fun w' h => ?_⟩; clear h; go_simp) (ak (fun γ => ⟨rfl, fun w' h => ex_loadA (i := 2) (k := 2) h 0 rfl rfl rfl Tryz.isAgg26 Tryz.sizeOf26 rfl rfl⟩) (ak (fun _ => ⟨rfl, fun _ _ => rfl⟩) (ak (by refine fun γ => ⟨rfl, fun w' h => ?_⟩; clear h; go_simp; rfl) (ak (by refine fun γ => ⟨rfl, fun w' h => ?_⟩; clear h; go_simp) (ak (fun γ => ⟨rfl, fun w' h => ex_loadA (i := 6) (k := 2) h 0 rfl rfl rfl Tryz.isAgg26 Tryz.sizeOf26 rfl rfl⟩) (ak (fun _ => ⟨rfl, fun _ _ => rfl⟩) (ak (by refine fun γ => ⟨rfl, fun w' h => ?_⟩; clear h; go_simp; rfl) (ak (by refine fun γ => ⟨rfl, fun w' h => ?_⟩; clear h; go_simp) (ak (fun γ => ⟨rfl, fun w' h => ex_loadA (i := 10) (k := 2) h 0 rfl rfl rfl Tryz.isAgg26 Tryz.sizeOf26 rfl rfl⟩) (ak (fun γ => ⟨rfl, fun w' _ => ex_buildTH rfl rfl rfl rfl⟩) trivial)))))))))))
  intro _ w2 H2
  clear H1
  refine rest_at (l := [12]) rfl ?_
  refine rest_store rfl rfl rfl (ex_storeA (i := 0) (ms := [a 2, a 3, a 6, a 7, a 10, a 11]) H2.out.1 1 rfl rfl rfl rfl Tryz.sizeOf83 (Nat.le_of_ble_eq_true rfl)) ?_
  have H3 : Hid (Mm (w2.setCells γ1_1 (6 * 0) (cel [a 2, a 3, a 6, a 7, a 10, a 11])) [(γ1_0, cel [a 0, a 1, a 2, a 3, a 4, a 5, a 6, a 7, a 8, a 9, a 10, a 11]), (γ1_1, cel [a 2, a 3, a 6, a 7, a 10, a 11])] ∧ Below w.heap.size w (w2.setCells γ1_1 (6 * 0) (cel [a 2, a 3, a 6, a 7, a 10, a 11]))) := ⟨by
    have h := H2.out.1.put 1 (off := 6 * 0) (vs := cel [a 2, a 3, a 6, a 7, a 10, a 11]) rfl (by simp only [cel_len]; exact Nat.le_of_ble_eq_true rfl)
    rw [cel_patch] at h
    exact h, below_setCells _ o1_1.out _ _ _ H2.out.2⟩
  clear H2
  generalize hgw : World.setCells _ _ _ _ = w3 at H3 ⊢
  clear hgw
  refine rest_nil (then_normal (wp_ret ?_))
  repeat (first | refine then_ret ?_ | refine block_ret ?_)
  have hf0 := cel_var (k := 6) H3.out.1 1 rfl Tryz.isAgg83 Tryz.sizeOf83 rfl
  refine bodyPost_ret (v := V [a 2, a 3, a 6, a 7, a 10, a 11]) (by simp [results, Tryz.results99, asAddr, hf0]) rfl ?_
  exact ⟨rfl, H3.out.2⟩
set_option maxHeartbeats 1000000 in
set_option maxRecDepth 100000 in
theorem one12_gen (k1 : Nat)
    (c0 : ∀ w, Calls Tryz.prog 60 #[] w (Rt w (V [k1, 0]))) (w : World) :
    Calls Tryz.prog 22 #[] w (Rt w (V [k1, 0, 0, 0, 0, 0, 0, 0, 0, 0, 0, 0])) := by
  have H0 : Hid (_ ∧ _) := ⟨Mm.nil w, Below.refl w.heap.size w⟩
  have C0 : Hid _ := c0
  clear c0
  go_enter Tryz.func22, Tryz.ntmps22
  refine wp_seq ?_
  refine walk_seqA 1 [.made (cel [0, 0, 0, 0, 0, 0, 0, 0, 0, 0, 0, 0]) 36] (sB H0) ?ho1 ?he1
  case ho1 => exact ak (fun γ => ⟨rfl, fun w' => ex_madeE12 rfl⟩) trivial
  intro γ w1 l hM hl
  have H1 : Hid (Mm w1 [(γ 0, cel [0, 0, 0, 0, 0, 0, 0, 0, 0, 0, 0, 0])] ∧ _) := growB H0 hM (Nat.le_refl _) hl [0] rfl (by decide)
  have o1_0 := ownB H0 hM (Nat.le_refl _) hl (i := 0) rfl
  clear hM hl l
  generalize γ 0 = γ1_0 at H1 o1_0 ⊢
  clear γ
  refine rest0 rfl (then_normal (wp_seq ?_))
  refine walk_seqB 2 [.call (V [k1, 0]), .quiet (V [k1, 0, 0, 0, 0, 0, 0, 0, 0, 0, 0, 0])] H1 ?ho2 ?he2
  case ho2 => exact ak (fun γ => ⟨rfl, fun w' h => ⟨60, #[], exec_call rfl call60 rfl (mpn rfl), C0.out w'⟩⟩) (ak (fun γ => ⟨rfl, fun w' _ => ex_buildE12a rfl rfl⟩) trivial)
  intro _ w2 H2
  clear H1
  refine rest_at (l := [2]) rfl ?_
  refine rest_store rfl rfl rfl (ex_storeA (i := 0) (ms := [k1, 0, 0, 0, 0, 0, 0, 0, 0, 0, 0, 0]) H2.out.1 0 rfl rfl rfl rfl Tryz.sizeOf36 (Nat.le_of_ble_eq_true rfl)) ?_
  have H3 : Hid (Mm (w2.setCells γ1_0 (6 * 0) (cel [k1, 0, 0, 0, 0, 0, 0, 0, 0, 0, 0, 0])) [(γ1_0, cel [k1, 0, 0, 0, 0, 0, 0, 0, 0, 0, 0, 0])] ∧ Below w.heap.size w (w2.setCells γ1_0 (6 * 0) (cel [k1, 0, 0, 0, 0, 0, 0, 0, 0, 0, 0, 0]))) := ⟨by
    have h := H2.out.1.put 0 (off := 6 * 0) (vs := cel [k1, 0, 0, 0, 0, 0, 0, 0, 0, 0, 0, 0]) rfl (by simp only [cel_len]; exact Nat.le_of_ble_eq_true rfl)
    rw [cel_patch] at h
    exact h, below_setCells _ o1_0.out _ _ _ H2.out.2⟩
  clear H2
  generalize hgw : World.setCells _ _ _ _ = w3 at H3 ⊢
  clear hgw
  refine rest_nil (then_normal (wp_ret ?_))
  repeat (first | refine then_ret ?_ | refine block_ret ?_)
  have hf0 := cel_var (k := 12) H3.out.1 0 rfl Tryz.isAgg36 Tryz.sizeOf36 rfl
  refine bodyPost_ret (v := V [k1, 0, 0, 0, 0, 0, 0, 0, 0, 0, 0, 0]) (by simp [results, Tryz.results22, asAddr, hf0]) rfl ?_
  exact ⟨rfl, H3.out.2⟩
set_option maxRecDepth 100000 in
theorem w_gen (k1 : Nat)
    (c0 : ∀ w, Calls Tryz.prog 74 #[.int .u64 1, .int .u64 0] w (Rt w (V [k1, 0]))) (w : World) :
    Calls Tryz.prog 76 #[] w (Rt w (V [0, 0, k1, 0, 0, 0, 0, 0, 0, 0, 0, 0])) := by
  have H0 : Hid (_ ∧ _) := ⟨Mm.nil w, Below.refl w.heap.size w⟩
  have C0 : Hid _ := c0
  clear c0
  go_enter Tryz.func76, Tryz.ntmps76
  refine wp_seq ?_
  refine walk_seqA 1 [.made (cel [0, 0, 0, 0, 0, 0, 0, 0, 0, 0, 0, 0]) 36] (sB H0) ?ho1 ?he1
  case ho1 => exact ak (fun γ => ⟨rfl, fun w' => ex_madeE12 rfl⟩) trivial
  intro γ w1 l hM hl
  have H1 : Hid (Mm w1 [(γ 0, cel [0, 0, 0, 0, 0, 0, 0, 0, 0, 0, 0, 0])] ∧ _) := growB H0 hM (Nat.le_refl _) hl [0] rfl (by decide)
  have o1_0 := ownB H0 hM (Nat.le_refl _) hl (i := 0) rfl
  clear hM hl l
  generalize γ 0 = γ1_0 at H1 o1_0 ⊢
  clear γ
  refine rest0 rfl (then_normal (wp_seq ?_))
  refine walk_seqB 3 [.quiet (V [0, 0]), .call (V [k1, 0]), .quiet (V [0, 0, k1, 0, 0, 0, 0, 0, 0, 0, 0, 0])] H1 ?ho2 ?he2
  case ho2 => exact ak (fun γ => ⟨rfl, fun w' _ => ex_buildE2z rfl⟩) (ak (fun γ => ⟨rfl, fun w' h => ⟨74, #[.int .u64 1, .int .u64 0], exec_call rfl call74 rfl (mpn rfl), C0.out w'⟩⟩) (ak (fun γ => ⟨rfl, fun w' _ => ex_buildE12b rfl rfl rfl⟩) trivial))
  intro _ w2 H2
  clear H1
  refine rest_at (l := [3]) rfl ?_
  refine rest_store rfl rfl rfl (ex_storeA (i := 0) (ms := [0, 0, k1, 0, 0, 0, 0, 0, 0, 0, 0, 0]) H2.out.1 0 rfl rfl rfl rfl Tryz.sizeOf36 (Nat.le_of_ble_eq_true rfl)) ?_
  have H3 : Hid (Mm (w2.setCells γ1_0 (6 * 0) (cel [0, 0, k1, 0, 0, 0, 0, 0, 0, 0, 0, 0])) [(γ1_0, cel [0, 0, k1, 0, 0, 0, 0, 0, 0, 0, 0, 0])] ∧ Below w.heap.size w (w2.setCells γ1_0 (6 * 0) (cel [0, 0, k1, 0, 0, 0, 0, 0, 0, 0, 0, 0]))) := ⟨by
    have h := H2.out.1.put 0 (off := 6 * 0) (vs := cel [0, 0, k1, 0, 0, 0, 0, 0, 0, 0, 0, 0]) rfl (by simp only [cel_len]; exact Nat.le_of_ble_eq_true rfl)
    rw [cel_patch] at h
    exact h, below_setCells _ o1_0.out _ _ _ H2.out.2⟩
  clear H2
  generalize hgw : World.setCells _ _ _ _ = w3 at H3 ⊢
  clear hgw
  refine rest_nil (then_normal (wp_ret ?_))
  repeat (first | refine then_ret ?_ | refine block_ret ?_)
  have hf0 := cel_var (k := 12) H3.out.1 0 rfl Tryz.isAgg36 Tryz.sizeOf36 rfl
  refine bodyPost_ret (v := V [0, 0, k1, 0, 0, 0, 0, 0, 0, 0, 0, 0]) (by simp [results, Tryz.results76, asAddr, hf0]) rfl ?_
  exact ⟨rfl, H3.out.2⟩
end Rg
end Go.Proofs.YtgdlhgbdigpfhaaGreatDoor
end
section
namespace Go.Proofs.YtgdlhgbdigpfhaaGreatDoor
open Go.RowKit
namespace Rg
set_option maxHeartbeats 4000000 in
set_option maxRecDepth 100000 in
theorem cross_12 (a b : Nat → Nat) (ga gb t0 t1 u0 u1 r0 r1 r2 r3 : Nat)
  (ca : ∀ w, Calls Tryz.prog 129 #[V [a 2, a 3], V [a 4, a 5]] w (Rt w (V [t0, t1])))
  (cb : ∀ w, Calls Tryz.prog 129 #[V [b 2, b 3], V [b 4, b 5]] w (Rt w (V [u0, u1])))
  (cc : ∀ w, Calls Tryz.prog 87 #[V [t0, t1], V [u0, u1]] w (Rt w (V [r0, r1, r2, r3]))) (w : World) (hm : Mm w [(ga, cel [a 0, a 1, a 2, a 3, a 4, a 5]), (gb, cel [b 0, b 1, b 2, b 3, b 4, b 5])]) :
  Calls Tryz.prog 128 #[.int .i64 1, .int .i64 2, PT ga 0, PT gb 0] w (Rt w (V [r0, r1, r2, r3])) := by
 have H0 : Hid (_ ∧ _) := ⟨hm, Below.refl w.heap.size w⟩
 clear hm
 have CA : Hid _ := ca
 have CB : Hid _ := cb
 have CC : Hid _ := cc
 clear ca cb cc
 go_enter Tryz.func128, Tryz.ntmps128
 refine wp_seq ?_
 refine walk_seqA 1 [.made (cel [0, 0, 0, 0]) 75] (sB H0) ?ho1 ?he1
 case ho1 => exact ak (fun γ => ⟨rfl, fun w' => ex_madeW2 rfl⟩) trivial
 intro γ w1 l hM hl
 have H1 : Hid (Mm w1 [(γ 0, cel [0, 0, 0, 0]), (ga, cel [a 0, a 1, a 2, a 3, a 4, a 5]), (gb, cel [b 0, b 1, b 2, b 3, b 4, b 5])] ∧ _) := growB H0 hM (Nat.le_refl _) hl [0] rfl (by decide)
 have o1_0 := ownB H0 hM (Nat.le_refl _) hl (i := 0) rfl
 clear hM hl l
 generalize γ 0 = γ1_0 at H1 o1_0 ⊢
 clear γ
 refine rest0 rfl (then_normal (wp_seq ?_))
 refine walk_anyB 15 [.quiet (.int .i64 1), .quiet (PT ga 12), .quiet (V [a 2, a 3]), .quiet (.int .i64 2), .quiet (PT ga 24), .quiet (V [a 4, a 5]), .call (V [t0, t1]), .quiet (.int .i64 1), .quiet (PT gb 12), .quiet (V [b 2, b 3]), .quiet (.int .i64 2), .quiet (PT gb 24), .quiet (V [b 4, b 5]), .call (V [u0, u1]), .call (V [r0, r1, r2, r3])] H1 ?ho2 ?he2
 case ho2 => exact ak (fun _ => ⟨rfl, fun _ _ => rfl⟩) (ak (by refine fun γ => ⟨rfl, fun w' h => ?_⟩; clear h; go_simp) (ak (fun γ => ⟨rfl, fun w' h => ex_loadA (i := 2) (k := 2) h 1 rfl rfl rfl Tryz.isAgg26 Tryz.sizeOf26 rfl rfl⟩) (ak (fun _ => ⟨rfl, fun _ _ => rfl⟩) (ak (by refine fun γ => ⟨rfl, fun w' h => ?_⟩; clear h; go_simp) (ak (fun γ => ⟨rfl, fun w' h => ex_loadA (i := 4) (k := 2) h 1 rfl rfl rfl Tryz.isAgg26 Tryz.sizeOf26 rfl rfl⟩) (ak (fun γ => ⟨rfl, fun w' h => ⟨129, #[V [a 2, a 3], V [a 4, a 5]], exec_call rfl call129 rfl (mpn rfl), CA.out w'⟩⟩) (ak (fun _ => ⟨rfl, fun _ _ => rfl⟩) (ak (by refine fun γ => ⟨rfl, fun w' h => ?_⟩; clear h; go_simp) (ak (fun γ => ⟨rfl, fun w' h => ex_loadA (i := 2) (k := 2) h 2 rfl rfl rfl Tryz.isAgg26 Tryz.sizeOf26 rfl rfl⟩) (ak (fun _ => ⟨rfl, fun _ _ => rfl⟩) (ak (by refine fun γ => ⟨rfl, fun w' h => ?_⟩; clear h; go_simp) (ak (fun γ => ⟨rfl, fun w' h => ex_loadA (i := 4) (k := 2) h 2 rfl rfl rfl Tryz.isAgg26 Tryz.sizeOf26 rfl rfl⟩) (ak (fun γ => ⟨rfl, fun w' h => ⟨129, #[V [b 2, b 3], V [b 4, b 5]], exec_call rfl call129 rfl (mpn rfl), CB.out w'⟩⟩) (ak (fun γ => ⟨rfl, fun w' h => ⟨87, #[V [t0, t1], V [u0, u1]], exec_call rfl call87 rfl (mpn rfl), CC.out w'⟩⟩) trivial))))))))))))))
 intro _ w2 H2
 clear H1
 refine rest_at (l := [15]) rfl ?_
 refine rest_store rfl rfl rfl (ex_storeA (i := 0) (ms := [r0, r1, r2, r3]) H2.out.1 0 rfl rfl rfl rfl Tryz.sizeOf75 (Nat.le_of_ble_eq_true rfl)) ?_
 have H3 : Hid (Mm (w2.setCells γ1_0 (6 * 0) (cel [r0, r1, r2, r3])) [(γ1_0, cel [r0, r1, r2, r3]), (ga, cel [a 0, a 1, a 2, a 3, a 4, a 5]), (gb, cel [b 0, b 1, b 2, b 3, b 4, b 5])] ∧ Below w.heap.size w (w2.setCells γ1_0 (6 * 0) (cel [r0, r1, r2, r3]))) := ⟨by
  have h := H2.out.1.put 0 (off := 6 * 0) (vs := cel [r0, r1, r2, r3]) rfl (by simp only [cel_len]; exact Nat.le_of_ble_eq_true rfl)
  rw [cel_patch] at h
  exact h, below_setCells _ o1_0.out _ _ _ H2.out.2⟩
 clear H2
 generalize hgw : World.setCells _ _ _ _ = w3 at H3 ⊢
 clear hgw
 refine rest_nil (then_normal (wp_ret ?_))
 repeat (first | refine then_ret ?_ | refine block_ret ?_)
 have hf0 := cel_var (k := 4) H3.out.1 0 rfl Tryz.isAgg75 Tryz.sizeOf75 rfl
 refine bodyPost_ret (v := V [r0, r1, r2, r3]) (by simp [results, Tryz.results128, asAddr, hf0]) rfl ?_
 exact ⟨rfl, H3.out.2⟩
set_option maxHeartbeats 4000000 in
set_option maxRecDepth 100000 in
theorem cross_01 (a b : Nat → Nat) (ga gb t0 t1 u0 u1 r0 r1 r2 r3 : Nat)
  (ca : ∀ w, Calls Tryz.prog 129 #[V [a 0, a 1], V [a 2, a 3]] w (Rt w (V [t0, t1])))
  (cb : ∀ w, Calls Tryz.prog 129 #[V [b 0, b 1], V [b 2, b 3]] w (Rt w (V [u0, u1])))
  (cc : ∀ w, Calls Tryz.prog 87 #[V [t0, t1], V [u0, u1]] w (Rt w (V [r0, r1, r2, r3]))) (w : World) (hm : Mm w [(ga, cel [a 0, a 1, a 2, a 3, a 4, a 5]), (gb, cel [b 0, b 1, b 2, b 3, b 4, b 5])]) :
  Calls Tryz.prog 128 #[.int .i64 0, .int .i64 1, PT ga 0, PT gb 0] w (Rt w (V [r0, r1, r2, r3])) := by
 have H0 : Hid (_ ∧ _) := ⟨hm, Below.refl w.heap.size w⟩
 clear hm
 have CA : Hid _ := ca
 have CB : Hid _ := cb
 have CC : Hid _ := cc
 clear ca cb cc
 go_enter Tryz.func128, Tryz.ntmps128
 refine wp_seq ?_
 refine walk_seqA 1 [.made (cel [0, 0, 0, 0]) 75] (sB H0) ?ho1 ?he1
 case ho1 => exact ak (fun γ => ⟨rfl, fun w' => ex_madeW2 rfl⟩) trivial
 intro γ w1 l hM hl
 have H1 : Hid (Mm w1 [(γ 0, cel [0, 0, 0, 0]), (ga, cel [a 0, a 1, a 2, a 3, a 4, a 5]), (gb, cel [b 0, b 1, b 2, b 3, b 4, b 5])] ∧ _) := growB H0 hM (Nat.le_refl _) hl [0] rfl (by decide)
 have o1_0 := ownB H0 hM (Nat.le_refl _) hl (i := 0) rfl
 clear hM hl l
 generalize γ 0 = γ1_0 at H1 o1_0 ⊢
 clear γ
 refine rest0 rfl (then_normal (wp_seq ?_))
 refine walk_anyB 15 [.quiet (.int .i64 0), .quiet (PT ga 0), .quiet (V [a 0, a 1]), .quiet (.int .i64 1), .quiet (PT ga 12), .quiet (V [a 2, a 3]), .call (V [t0, t1]), .quiet (.int .i64 0), .quiet (PT gb 0), .quiet (V [b 0, b 1]), .quiet (.int .i64 1), .quiet (PT gb 12), .quiet (V [b 2, b 3]), .call (V [u0, u1]), .call (V [r0, r1, r2, r3])] H1 ?ho2 ?he2
 case ho2 => exact ak (fun _ => ⟨rfl, fun _ _ => rfl⟩) (ak (by refine fun γ => ⟨rfl, fun w' h => ?_⟩; clear h; go_simp) (ak (fun γ => ⟨rfl, fun w' h => ex_loadA (i := 0) (k := 2) h 1 rfl rfl rfl Tryz.isAgg26 Tryz.sizeOf26 rfl rfl⟩) (ak (fun _ => ⟨rfl, fun _ _ => rfl⟩) (ak (by refine fun γ => ⟨rfl, fun w' h => ?_⟩; clear h; go_simp) (ak (fun γ => ⟨rfl, fun w' h => ex_loadA (i := 2) (k := 2) h 1 rfl rfl rfl Tryz.isAgg26 Tryz.sizeOf26 rfl rfl⟩) (ak (fun γ => ⟨rfl, fun w' h => ⟨129, #[V [a 0, a 1], V [a 2, a 3]], exec_call rfl call129 rfl (mpn rfl), CA.out w'⟩⟩) (ak (fun _ => ⟨rfl, fun _ _ => rfl⟩) (ak (by refine fun γ => ⟨rfl, fun w' h => ?_⟩; clear h; go_simp) (ak (fun γ => ⟨rfl, fun w' h => ex_loadA (i := 0) (k := 2) h 2 rfl rfl rfl Tryz.isAgg26 Tryz.sizeOf26 rfl rfl⟩) (ak (fun _ => ⟨rfl, fun _ _ => rfl⟩) (ak (by refine fun γ => ⟨rfl, fun w' h => ?_⟩; clear h; go_simp) (ak (fun γ => ⟨rfl, fun w' h => ex_loadA (i := 2) (k := 2) h 2 rfl rfl rfl Tryz.isAgg26 Tryz.sizeOf26 rfl rfl⟩) (ak (fun γ => ⟨rfl, fun w' h => ⟨129, #[V [b 0, b 1], V [b 2, b 3]], exec_call rfl call129 rfl (mpn rfl), CB.out w'⟩⟩) (ak (fun γ => ⟨rfl, fun w' h => ⟨87, #[V [t0, t1], V [u0, u1]], exec_call rfl call87 rfl (mpn rfl), CC.out w'⟩⟩) trivial))))))))))))))
 intro _ w2 H2
 clear H1
 refine rest_at (l := [15]) rfl ?_
 refine rest_store rfl rfl rfl (ex_storeA (i := 0) (ms := [r0, r1, r2, r3]) H2.out.1 0 rfl rfl rfl rfl Tryz.sizeOf75 (Nat.le_of_ble_eq_true rfl)) ?_
 have H3 : Hid (Mm (w2.setCells γ1_0 (6 * 0) (cel [r0, r1, r2, r3])) [(γ1_0, cel [r0, r1, r2, r3]), (ga, cel [a 0, a 1, a 2, a 3, a 4, a 5]), (gb, cel [b 0, b 1, b 2, b 3, b 4, b 5])] ∧ Below w.heap.size w (w2.setCells γ1_0 (6 * 0) (cel [r0, r1, r2, r3]))) := ⟨by
  have h := H2.out.1.put 0 (off := 6 * 0) (vs := cel [r0, r1, r2, r3]) rfl (by simp only [cel_len]; exact Nat.le_of_ble_eq_true rfl)
  rw [cel_patch] at h
  exact h, below_setCells _ o1_0.out _ _ _ H2.out.2⟩
 clear H2
 generalize hgw : World.setCells _ _ _ _ = w3 at H3 ⊢
 clear hgw
 refine rest_nil (then_normal (wp_ret ?_))
 repeat (first | refine then_ret ?_ | refine block_ret ?_)
 have hf0 := cel_var (k := 4) H3.out.1 0 rfl Tryz.isAgg75 Tryz.sizeOf75 rfl
 refine bodyPost_ret (v := V [r0, r1, r2, r3]) (by simp [results, Tryz.results128, asAddr, hf0]) rfl ?_
 exact ⟨rfl, H3.out.2⟩
set_option maxHeartbeats 4000000 in
set_option maxRecDepth 100000 in
theorem cross_02 (a b : Nat → Nat) (ga gb t0 t1 u0 u1 r0 r1 r2 r3 : Nat)
  (ca : ∀ w, Calls Tryz.prog 129 #[V [a 0, a 1], V [a 4, a 5]] w (Rt w (V [t0, t1])))
  (cb : ∀ w, Calls Tryz.prog 129 #[V [b 0, b 1], V [b 4, b 5]] w (Rt w (V [u0, u1])))
  (cc : ∀ w, Calls Tryz.prog 87 #[V [t0, t1], V [u0, u1]] w (Rt w (V [r0, r1, r2, r3]))) (w : World) (hm : Mm w [(ga, cel [a 0, a 1, a 2, a 3, a 4, a 5]), (gb, cel [b 0, b 1, b 2, b 3, b 4, b 5])]) :
  Calls Tryz.prog 128 #[.int .i64 0, .int .i64 2, PT ga 0, PT gb 0] w (Rt w (V [r0, r1, r2, r3])) := by
 have H0 : Hid (_ ∧ _) := ⟨hm, Below.refl w.heap.size w⟩
 clear hm
 have CA : Hid _ := ca
 have CB : Hid _ := cb
 have CC : Hid _ := cc
 clear ca cb cc
 go_enter Tryz.func128, Tryz.ntmps128
 refine wp_seq ?_
 refine walk_seqA 1 [.made (cel [0, 0, 0, 0]) 75] (sB H0) ?ho1 ?he1
 case ho1 => exact ak (fun γ => ⟨rfl, fun w' => ex_madeW2 rfl⟩) trivial
 intro γ w1 l hM hl
 have H1 : Hid (Mm w1 [(γ 0, cel [0, 0, 0, 0]), (ga, cel [a 0, a 1, a 2, a 3, a 4, a 5]), (gb, cel [b 0, b 1, b 2, b 3, b 4, b 5])] ∧ _) := growB H0 hM (Nat.le_refl _) hl [0] rfl (by decide)
 have o1_0 := ownB H0 hM (Nat.le_refl _) hl (i := 0) rfl
 clear hM hl l
 generalize γ 0 = γ1_0 at H1 o1_0 ⊢
 clear γ
 refine rest0 rfl (then_normal (wp_seq ?_))
 refine walk_anyB 15 [.quiet (.int .i64 0), .quiet (PT ga 0), .quiet (V [a 0, a 1]), .quiet (.int .i64 2), .quiet (PT ga 24), .quiet (V [a 4, a 5]), .call (V [t0, t1]), .quiet (.int .i64 0), .quiet (PT gb 0), .quiet (V [b 0, b 1]), .quiet (.int .i64 2), .quiet (PT gb 24), .quiet (V [b 4, b 5]), .call (V [u0, u1]), .call (V [r0, r1, r2, r3])] H1 ?ho2 ?he2
 case ho2 => exact ak (fun _ => ⟨rfl, fun _ _ => rfl⟩) (ak (by refine fun γ => ⟨rfl, fun w' h => ?_⟩; clear h; go_simp) (ak (fun γ => ⟨rfl, fun w' h => ex_loadA (i := 0) (k := 2) h 1 rfl rfl rfl Tryz.isAgg26 Tryz.sizeOf26 rfl rfl⟩) (ak (fun _ => ⟨rfl, fun _ _ => rfl⟩) (ak (by refine fun γ => ⟨rfl, fun w' h => ?_⟩; clear h; go_simp) (ak (fun γ => ⟨rfl, fun w' h => ex_loadA (i := 4) (k := 2) h 1 rfl rfl rfl Tryz.isAgg26 Tryz.sizeOf26 rfl rfl⟩) (ak (fun γ => ⟨rfl, fun w' h => ⟨129, #[V [a 0, a 1], V [a 4, a 5]], exec_call rfl call129 rfl (mpn rfl), CA.out w'⟩⟩) (ak (fun _ => ⟨rfl, fun _ _ => rfl⟩) (ak (by refine fun γ => ⟨rfl, fun w' h => ?_⟩; clear h; go_simp) (ak (fun γ => ⟨rfl, fun w' h => ex_loadA (i := 0) (k := 2) h 2 rfl rfl rfl Tryz.isAgg26 Tryz.sizeOf26 rfl rfl⟩) (ak (fun _ => ⟨rfl, fun _ _ => rfl⟩) (ak (by refine fun γ => ⟨rfl, fun w' h => ?_⟩; clear h; go_simp) (ak (fun γ => ⟨rfl, fun w' h => ex_loadA (i := 4) (k := 2) h 2 rfl rfl rfl Tryz.isAgg26 Tryz.sizeOf26 rfl rfl⟩) (ak (fun γ => ⟨rfl, fun w' h => ⟨129, #[V [b 0, b 1], V [b 4, b 5]], exec_call rfl call129 rfl (mpn rfl), CB.out w'⟩⟩) (ak (fun γ => ⟨rfl, fun w' h => ⟨87, #[V [t0, t1], V [u0, u1]], exec_call rfl call87 rfl (mpn rfl), CC.out w'⟩⟩) trivial))))))))))))))
 intro _ w2 H2
 clear H1
 refine rest_at (l := [15]) rfl ?_
 refine rest_store rfl rfl rfl (ex_storeA (i := 0) (ms := [r0, r1, r2, r3]) H2.out.1 0 rfl rfl rfl rfl Tryz.sizeOf75 (Nat.le_of_ble_eq_true rfl)) ?_
 have H3 : Hid (Mm (w2.setCells γ1_0 (6 * 0) (cel [r0, r1, r2, r3])) [(γ1_0, cel [r0, r1, r2, r3]), (ga, cel [a 0, a 1, a 2, a 3, a 4, a 5]), (gb, cel [b 0, b 1, b 2, b 3, b 4, b 5])] ∧ Below w.heap.size w (w2.setCells γ1_0 (6 * 0) (cel [r0, r1, r2, r3]))) := ⟨by
  have h := H2.out.1.put 0 (off := 6 * 0) (vs := cel [r0, r1, r2, r3]) rfl (by simp only [cel_len]; exact Nat.le_of_ble_eq_true rfl)
  rw [cel_patch] at h
  exact h, below_setCells _ o1_0.out _ _ _ H2.out.2⟩
 clear H2
 generalize hgw : World.setCells _ _ _ _ = w3 at H3 ⊢
 clear hgw
 refine rest_nil (then_normal (wp_ret ?_))
 repeat (first | refine then_ret ?_ | refine block_ret ?_)
 have hf0 := cel_var (k := 4) H3.out.1 0 rfl Tryz.isAgg75 Tryz.sizeOf75 rfl
 refine bodyPost_ret (v := V [r0, r1, r2, r3]) (by simp [results, Tryz.results128, asAddr, hf0]) rfl ?_
 exact ⟨rfl, H3.out.2⟩
set_option maxHeartbeats 4000000 in
set_option maxRecDepth 100000 in
theorem times3_gen (a b f s t x y z x1 x2 x3 r0 y1 y2 y3 r1 z1 z2 r2 : Nat → Nat)
  (cf : ∀ w, Calls Tryz.prog 87 #[V [a 0, a 1], V [b 0, b 1]] w (Rt w (V [f 0, f 1, f 2, f 3])))
  (cs : ∀ w, Calls Tryz.prog 87 #[V [a 2, a 3], V [b 2, b 3]] w (Rt w (V [s 0, s 1, s 2, s 3])))
  (ct : ∀ w, Calls Tryz.prog 87 #[V [a 4, a 5], V [b 4, b 5]] w (Rt w (V [t 0, t 1, t 2, t 3])))
  (cx : ∀ ga gb w, Mm w [(ga, cel [a 0, a 1, a 2, a 3, a 4, a 5]), (gb, cel [b 0, b 1, b 2, b 3, b 4, b 5])] → Calls Tryz.prog 128 #[.int .i64 1, .int .i64 2, PT ga 0, PT gb 0] w (Rt w (V [x 0, x 1, x 2, x 3])))
  (cy : ∀ ga gb w, Mm w [(ga, cel [a 0, a 1, a 2, a 3, a 4, a 5]), (gb, cel [b 0, b 1, b 2, b 3, b 4, b 5])] → Calls Tryz.prog 128 #[.int .i64 0, .int .i64 1, PT ga 0, PT gb 0] w (Rt w (V [y 0, y 1, y 2, y 3])))
  (cz : ∀ ga gb w, Mm w [(ga, cel [a 0, a 1, a 2, a 3, a 4, a 5]), (gb, cel [b 0, b 1, b 2, b 3, b 4, b 5])] → Calls Tryz.prog 128 #[.int .i64 0, .int .i64 2, PT ga 0, PT gb 0] w (Rt w (V [z 0, z 1, z 2, z 3])))
  (d0 : ∀ w, Calls Tryz.prog 104 #[V [x 0, x 1, x 2, x 3], V [s 0, s 1, s 2, s 3]] w (Rt w (V [x1 0, x1 1, x1 2, x1 3])))
  (d1 : ∀ w, Calls Tryz.prog 104 #[V [x1 0, x1 1, x1 2, x1 3], V [t 0, t 1, t 2, t 3]] w (Rt w (V [x2 0, x2 1, x2 2, x2 3])))
  (d2 : ∀ w, Calls Tryz.prog 102 #[V [x2 0, x2 1, x2 2, x2 3]] w (Rt w (V [x3 0, x3 1, x3 2, x3 3])))
  (d3 : ∀ w, Calls Tryz.prog 103 #[V [f 0, f 1, f 2, f 3], V [x3 0, x3 1, x3 2, x3 3]] w (Rt w (V [r0 0, r0 1, r0 2, r0 3])))
  (d4 : ∀ w, Calls Tryz.prog 104 #[V [y 0, y 1, y 2, y 3], V [f 0, f 1, f 2, f 3]] w (Rt w (V [y1 0, y1 1, y1 2, y1 3])))
  (d5 : ∀ w, Calls Tryz.prog 104 #[V [y1 0, y1 1, y1 2, y1 3], V [s 0, s 1, s 2, s 3]] w (Rt w (V [y2 0, y2 1, y2 2, y2 3])))
  (d6 : ∀ w, Calls Tryz.prog 102 #[V [t 0, t 1, t 2, t 3]] w (Rt w (V [y3 0, y3 1, y3 2, y3 3])))
  (d7 : ∀ w, Calls Tryz.prog 103 #[V [y2 0, y2 1, y2 2, y2 3], V [y3 0, y3 1, y3 2, y3 3]] w (Rt w (V [r1 0, r1 1, r1 2, r1 3])))
  (d8 : ∀ w, Calls Tryz.prog 104 #[V [z 0, z 1, z 2, z 3], V [f 0, f 1, f 2, f 3]] w (Rt w (V [z1 0, z1 1, z1 2, z1 3])))
  (d9 : ∀ w, Calls Tryz.prog 104 #[V [z1 0, z1 1, z1 2, z1 3], V [t 0, t 1, t 2, t 3]] w (Rt w (V [z2 0, z2 1, z2 2, z2 3])))
  (d10 : ∀ w, Calls Tryz.prog 103 #[V [z2 0, z2 1, z2 2, z2 3], V [s 0, s 1, s 2, s 3]] w (Rt w (V [r2 0, r2 1, r2 2, r2 3]))) (w : World) :
  Calls Tryz.prog 100 #[V [a 0, a 1, a 2, a 3, a 4, a 5], V [b 0, b 1, b 2, b 3, b 4, b 5]] w (Rt w (V [r0 0, r0 1, r0 2, r0 3, r1 0, r1 1, r1 2, r1 3, r2 0, r2 1, r2 2, r2 3])) := by
 have H0 : Hid (_ ∧ _) := ⟨Mm.nil w, Below.refl w.heap.size w⟩
 have CF : Hid _ := cf
 have CS : Hid _ := cs
 have CT : Hid _ := ct
 have CX : Hid _ := cx
 have CY : Hid _ := cy
 have CZ : Hid _ := cz
 have D0 : Hid _ := d0
 have D1 : Hid _ := d1
 have D2 : Hid _ := d2
 have D3 : Hid _ := d3
 have D4 : Hid _ := d4
 have D5 : Hid _ := d5
 have D6 : Hid _ := d6
 have D7 : Hid _ := d7
 have D8 : Hid _ := d8
 have D9 : Hid _ := d9
 have D10 : Hid _ := d10
 clear cf cs ct cx cy cz d0 d1 d2 d3 d4 d5 d6 d7 d8 d9 d10
 go_enter Tryz.func100, Tryz.ntmps100
 refine wp_seq ?_
 refine walk_seqA 3 [.made (cel [a 0, a 1, a 2, a 3, a 4, a 5]) 83, .made (cel [b 0, b 1, b 2, b 3, b 4, b 5]) 83, .made (cel [0, 0, 0, 0, 0, 0, 0, 0, 0, 0, 0, 0]) 86] (sB H0) ?ho1 ?he1
 case ho1 => exact ak (fun γ => ⟨rfl, fun w' => ex_boxA rfl rfl⟩) (ak (fun γ => ⟨rfl, fun w' => ex_boxA rfl rfl⟩) (ak (fun γ => ⟨rfl, fun w' => ex_madeW3 rfl⟩) trivial))
 intro γ w1 l hM hl
 have H1 : Hid (Mm w1 [(γ 0, cel [a 0, a 1, a 2, a 3, a 4, a 5]), (γ 1, cel [b 0, b 1, b 2, b 3, b 4, b 5]), (γ 2, cel [0, 0, 0, 0, 0, 0, 0, 0, 0, 0, 0, 0])] ∧ _) := growB H0 hM (Nat.le_refl _) hl [0, 1, 2] rfl (by decide)
 have o1_0 := ownB H0 hM (Nat.le_refl _) hl (i := 0) rfl
 have o1_1 := ownB H0 hM (Nat.le_refl _) hl (i := 1) rfl
 have o1_2 := ownB H0 hM (Nat.le_refl _) hl (i := 2) rfl
 clear hM hl l
 generalize γ 0 = γ1_0 at H1 o1_0 ⊢
 generalize γ 1 = γ1_1 at H1 o1_1 ⊢
 generalize γ 2 = γ1_2 at H1 o1_2 ⊢
 clear γ
 refine rest0 rfl (then_normal (wp_seq ?_))
 refine walk_anyA 21 [.quiet (PT γ1_0 0), .quiet (V [a 0, a 1]), .quiet (PT γ1_1 0), .quiet (V [b 0, b 1]), .call (V [f 0, f 1, f 2, f 3]), .quiet (PT γ1_0 12), .quiet (V [a 2, a 3]), .quiet (PT γ1_1 12), .quiet (V [b 2, b 3]), .call (V [s 0, s 1, s 2, s 3]), .quiet (PT γ1_0 24), .quiet (V [a 4, a 5]), .quiet (PT γ1_1 24), .quiet (V [b 4, b 5]), .call (V [t 0, t 1, t 2, t 3]), .made (cel [0, 0, 0, 0]) 75, .made (cel [0, 0, 0, 0]) 75, .made (cel [0, 0, 0, 0]) 75, .laid 15 (cel [0, 0, 0, 0]) (cel [f 0, f 1, f 2, f 3]), .laid 16 (cel [0, 0, 0, 0]) (cel [s 0, s 1, s 2, s 3]), .laid 17 (cel [0, 0, 0, 0]) (cel [t 0, t 1, t 2, t 3])] (sB H1) ?ho2 ?he2 (hL := ?hL2)
 case hL2 => exact ⟨⟨_, rfl⟩, ⟨_, rfl⟩, ⟨_, rfl⟩, trivial⟩
 case ho2 => exact ak (by refine fun γ => ⟨rfl, fun w' h => ?_⟩; clear h; go_simp) (ak (fun γ => ⟨rfl, fun w' h => ex_loadA (i := 0) (k := 2) h 0 rfl rfl rfl Tryz.isAgg26 Tryz.sizeOf26 rfl rfl⟩) (ak (by refine fun γ => ⟨rfl, fun w' h => ?_⟩; clear h; go_simp) (ak (fun γ => ⟨rfl, fun w' h => ex_loadA (i := 0) (k := 2) h 1 rfl rfl rfl Tryz.isAgg26 Tryz.sizeOf26 rfl rfl⟩) (ak (fun γ => ⟨rfl, fun w' h => ⟨87, #[V [a 0, a 1], V [b 0, b 1]], exec_call rfl call87 rfl (mpn rfl), CF.out w'⟩⟩) (ak (by refine fun γ => ⟨rfl, fun w' h => ?_⟩; clear h; go_simp) (ak (fun γ => ⟨rfl, fun w' h => ex_loadA (i := 2) (k := 2) h 0 rfl rfl rfl Tryz.isAgg26 Tryz.sizeOf26 rfl rfl⟩) (ak (by refine fun γ => ⟨rfl, fun w' h => ?_⟩; clear h; go_simp) (ak (fun γ => ⟨rfl, fun w' h => ex_loadA (i := 2) (k := 2) h 1 rfl rfl rfl Tryz.isAgg26 Tryz.sizeOf26 rfl rfl⟩) (ak (fun γ => ⟨rfl, fun w' h => ⟨87, #[V [a 2, a 3], V [b 2, b 3]], exec_call rfl call87 rfl (mpn rfl), CS.out w'⟩⟩) (ak (by refine fun γ => ⟨rfl, fun w' h => ?_⟩; clear h; go_simp) (ak (fun γ => ⟨rfl, fun w' h => ex_loadA (i := 4) (k := 2) h 0 rfl rfl rfl Tryz.isAgg26 Tryz.sizeOf26 rfl rfl⟩) (ak (by refine fun γ => ⟨rfl, fun w' h => ?_⟩; clear h; go_simp) (ak (fun γ => ⟨rfl, fun w' h => ex_loadA (i := 4) (k := 2) h 1 rfl rfl rfl Tryz.isAgg26 Tryz.sizeOf26 rfl rfl⟩) (ak (fun γ => ⟨rfl, fun w' h => ⟨87, #[V [a 4, a 5], V [b 4, b 5]], exec_call rfl call87 rfl (mpn rfl), CT.out w'⟩⟩) (ak (fun γ => ⟨rfl, fun w' => ex_madeW2 rfl⟩) (ak (fun γ => ⟨rfl, fun w' => ex_madeW2 rfl⟩) (ak (fun γ => ⟨rfl, fun w' => ex_madeW2 rfl⟩) (ak (fun γ => ⟨rfl, rfl, rfl, fun w' h => ex_laidA h rfl Tryz.sizeOf75 rfl rfl rfl⟩) (ak (fun γ => ⟨rfl, rfl, rfl, fun w' h => ex_laidA h rfl Tryz.sizeOf75 rfl rfl rfl⟩) (ak (fun γ => ⟨rfl, rfl, rfl, fun w' h => ex_laidA h rfl Tryz.sizeOf75 rfl rfl rfl⟩) trivial))))))))))))))))))))
 intro γ w2 l hM hl
 have H2 : Hid (Mm w2 [(γ 15, cel [f 0, f 1, f 2, f 3]), (γ 16, cel [s 0, s 1, s 2, s 3]), (γ 17, cel [t 0, t 1, t 2, t 3]), (γ1_0, cel [a 0, a 1, a 2, a 3, a 4, a 5]), (γ1_1, cel [b 0, b 1, b 2, b 3, b 4, b 5]), (γ1_2, cel [0, 0, 0, 0, 0, 0, 0, 0, 0, 0, 0, 0])] ∧ _) := growB H1 hM (Nat.le_refl _) hl [15, 16, 17] rfl (by decide)
 have o2_15 := ownB H1 hM (Nat.le_refl _) hl (i := 15) rfl
 have o2_16 := ownB H1 hM (Nat.le_refl _) hl (i := 16) rfl
 have o2_17 := ownB H1 hM (Nat.le_refl _) hl (i := 17) rfl
 clear hM hl l H1
 generalize γ 15 = γ2_15 at H2 o2_15 ⊢
 generalize γ 16 = γ2_16 at H2 o2_16 ⊢
 generalize γ 17 = γ2_17 at H2 o2_17 ⊢
 clear γ
 refine rest0 rfl (then_normal (wp_seq ?_))
 refine walk_seqB 2 [.quiet (.func (.func 128) #[] #[PT γ1_0 0, PT γ1_1 0]), .quiet (.func (.func 128) #[] #[PT γ1_0 0, PT γ1_1 0])] H2 ?ho3 ?he3
 case ho3 => exact ak (fun γ => ⟨rfl, fun w' _ => ex_makeC rfl (mpn rfl)⟩) (ak (fun _ => ⟨rfl, fun _ _ => rfl⟩) trivial)
 intro _ w3 H3
 clear H2
 refine rest0 rfl (then_normal (wp_seq ?_))
 refine walk_anyB 27 [.quiet (V [f 0, f 1, f 2, f 3]), .quiet (.func (.func 128) #[] #[PT γ1_0 0, PT γ1_1 0]), .call (V [x 0, x 1, x 2, x 3]), .quiet (V [s 0, s 1, s 2, s 3]), .call (V [x1 0, x1 1, x1 2, x1 3]), .quiet (V [t 0, t 1, t 2, t 3]), .call (V [x2 0, x2 1, x2 2, x2 3]), .call (V [x3 0, x3 1, x3 2, x3 3]), .call (V [r0 0, r0 1, r0 2, r0 3]), .quiet (.func (.func 128) #[] #[PT γ1_0 0, PT γ1_1 0]), .call (V [y 0, y 1, y 2, y 3]), .quiet (V [f 0, f 1, f 2, f 3]), .call (V [y1 0, y1 1, y1 2, y1 3]), .quiet (V [s 0, s 1, s 2, s 3]), .call (V [y2 0, y2 1, y2 2, y2 3]), .quiet (V [t 0, t 1, t 2, t 3]), .call (V [y3 0, y3 1, y3 2, y3 3]), .call (V [r1 0, r1 1, r1 2, r1 3]), .quiet (.func (.func 128) #[] #[PT γ1_0 0, PT γ1_1 0]), .call (V [z 0, z 1, z 2, z 3]), .quiet (V [f 0, f 1, f 2, f 3]), .call (V [z1 0, z1 1, z1 2, z1 3]), .quiet (V [t 0, t 1, t 2, t 3]), .call (V [z2 0, z2 1, z2 2, z2 3]), .quiet (V [s 0, s 1, s 2, s 3]), .call (V [r2 0, r2 1, r2 2, r2 3]), .quiet (V [r0 0, r0 1, r0 2, r0 3, r1 0, r1 1, r1 2, r1 3, r2 0, r2 1, r2 2, r2 3])] H3 ?ho4 ?he4 (hL := ?hL4)
 case hL4 => exact trivial
 case ho4 => exact ak (fun γ => ⟨rfl, fun w' h => ex_loadA (i := 0) (k := 4) h 0 rfl rfl rfl Tryz.isAgg75 Tryz.sizeOf75 rfl rfl⟩) (ak (fun _ => ⟨rfl, fun _ _ => rfl⟩) (ak (fun γ => ⟨rfl, fun w' h => ⟨128, #[.int .i64 1, .int .i64 2, PT γ1_0 0, PT γ1_1 0], ex_callC rfl call128 rfl (mpn rfl), CX.out _ _ w' (h.two 3 4 rfl rfl (by decide))⟩⟩) (ak (fun γ => ⟨rfl, fun w' h => ex_loadA (i := 0) (k := 4) h 1 rfl rfl rfl Tryz.isAgg75 Tryz.sizeOf75 rfl rfl⟩) (ak (fun γ => ⟨rfl, fun w' h => ⟨104, #[V [x 0, x 1, x 2, x 3], V [s 0, s 1, s 2, s 3]], exec_call rfl call104 rfl (mpn rfl), D0.out w'⟩⟩) (ak (fun γ => ⟨rfl, fun w' h => ex_loadA (i := 0) (k := 4) h 2 rfl rfl rfl Tryz.isAgg75 Tryz.sizeOf75 rfl rfl⟩) (ak (fun γ => ⟨rfl, fun w' h => ⟨104, #[V [x1 0, x1 1, x1 2, x1 3], V [t 0, t 1, t 2, t 3]], exec_call rfl call104 rfl (mpn rfl), D1.out w'⟩⟩) (ak (fun γ => ⟨rfl, fun w' h => ⟨102, #[V [x2 0, x2 1, x2 2, x2 3]], exec_call rfl call102 rfl (mpn rfl), D2.out w'⟩⟩) (ak (fun γ => ⟨rfl, fun w' h => ⟨103, #[V [f 0, f 1, f 2, f 3], V [x3 0, x3 1, x3 2, x3 3]], exec_call rfl call103 rfl (mpn rfl), D3.out w'⟩⟩) (ak (fun _ => ⟨rfl, fun _ _ => rfl⟩) (ak (fun γ => ⟨rfl, fun w' h => ⟨128, #[.int .i64 0, .int .i64 1, PT γ1_0 0, PT γ1_1 0], ex_callC rfl call128 rfl (mpn rfl), CY.out _ _ w' (h.two 3 4 rfl rfl (by decide))⟩⟩) (ak (fun γ => ⟨rfl, fun w' h => ex_loadA (i := 0) (k := 4) h 0 rfl rfl rfl Tryz.isAgg75 Tryz.sizeOf75 rfl rfl⟩) (ak (fun γ => ⟨rfl, fun w' h => ⟨104, #[V [y 0, y 1, y 2, y 3], V [f 0, f 1, f 2, f 3]], exec_call rfl call104 rfl (mpn rfl), D4.out w'⟩⟩) (ak (fun γ => ⟨rfl, fun w' h => ex_loadA (i := 0) (k := 4) h 1 rfl rfl rfl Tryz.isAgg75 Tryz.sizeOf75 rfl rfl⟩) (ak (fun γ => ⟨rfl, fun w' h => ⟨104, #[V [y1 0, y1 1, y1 2, y1 3], V [s 0, s 1, s 2, s 3]], exec_call rfl call104 rfl (mpn rfl), D5.out w'⟩⟩) (ak (fun γ => ⟨rfl, fun w' h => ex_loadA (i := 0) (k := 4) h 2 rfl rfl rfl Tryz.isAgg75 Tryz.sizeOf75 rfl rfl⟩) (ak (fun γ => ⟨rfl, fun w' h => ⟨102, #[V [t 0, t 1, t 2, t 3]], exec_call rfl call102 rfl (mpn rfl), D6.out w'⟩⟩) (ak (fun γ => ⟨rfl, fun w' h => ⟨103, #[V [y2 0, y2 1, y2 2, y2 3], V [y3 0, y3 1, y3 2, y3 3]], exec_call rfl call103 rfl (mpn rfl), D7.out w'⟩⟩) (ak (fun _ => ⟨rfl, fun _ _ => rfl⟩) (ak (fun γ => ⟨rfl, fun w' h => ⟨128, #[.int .i64 0, .int .i64 2, PT γ1_0 0, PT γ1_1 0], ex_callC rfl call128 rfl (mpn rfl), CZ.out _ _ w' (h.two 3 4 rfl rfl (by decide))⟩⟩) (ak (fun γ => ⟨rfl, fun w' h => ex_loadA (i := 0) (k := 4) h 0 rfl rfl rfl Tryz.isAgg75 Tryz.sizeOf75 rfl rfl⟩) (ak (fun γ => ⟨rfl, fun w' h => ⟨104, #[V [z 0, z 1, z 2, z 3], V [f 0, f 1, f 2, f 3]], exec_call rfl call104 rfl (mpn rfl), D8.out w'⟩⟩) (ak (fun γ => ⟨rfl, fun w' h => ex_loadA (i := 0) (k := 4) h 2 rfl rfl rfl Tryz.isAgg75 Tryz.sizeOf75 rfl rfl⟩) (ak (fun γ => ⟨rfl, fun w' h => ⟨104, #[V [z1 0, z1 1, z1 2, z1 3], V [t 0, t 1, t 2, t 3]], exec_call rfl call104 rfl (mpn rfl), D9.out w'⟩⟩) (ak (fun γ => ⟨rfl, fun w' h => ex_loadA (i := 0) (k := 4) h 1 rfl rfl rfl Tryz.isAgg75 Tryz.sizeOf75 rfl rfl⟩) (ak (fun γ => ⟨rfl, fun w' h => ⟨103, #[V [z2 0, z2 1, z2 2, z2 3], V [s 0, s 1, s 2, s 3]], exec_call rfl call103 rfl (mpn rfl), D10.out w'⟩⟩) (ak (fun γ => ⟨rfl, fun w' _ => ex_buildW3 rfl rfl rfl rfl⟩) trivial))))))))))))))))))))))))))
 intro _ w4 H4
 clear H3
 refine rest_at (l := [27]) rfl ?_
 refine rest_store rfl rfl rfl (ex_storeA (i := 0) (ms := [r0 0, r0 1, r0 2, r0 3, r1 0, r1 1, r1 2, r1 3, r2 0, r2 1, r2 2, r2 3]) H4.out.1 5 rfl rfl rfl rfl Tryz.sizeOf86 (Nat.le_of_ble_eq_true rfl)) ?_
 have H5 : Hid (Mm (w4.setCells γ1_2 (6 * 0) (cel [r0 0, r0 1, r0 2, r0 3, r1 0, r1 1, r1 2, r1 3, r2 0, r2 1, r2 2, r2 3])) [(γ2_15, cel [f 0, f 1, f 2, f 3]), (γ2_16, cel [s 0, s 1, s 2, s 3]), (γ2_17, cel [t 0, t 1, t 2, t 3]), (γ1_0, cel [a 0, a 1, a 2, a 3, a 4, a 5]), (γ1_1, cel [b 0, b 1, b 2, b 3, b 4, b 5]), (γ1_2, cel [r0 0, r0 1, r0 2, r0 3, r1 0, r1 1, r1 2, r1 3, r2 0, r2 1, r2 2, r2 3])] ∧ Below w.heap.size w (w4.setCells γ1_2 (6 * 0) (cel [r0 0, r0 1, r0 2, r0 3, r1 0, r1 1, r1 2, r1 3, r2 0, r2 1, r2 2, r2 3]))) := ⟨by
  have h := H4.out.1.put 5 (off := 6 * 0) (vs := cel [r0 0, r0 1, r0 2, r0 3, r1 0, r1 1, r1 2, r1 3, r2 0, r2 1, r2 2, r2 3]) rfl (by simp only [cel_len]; exact Nat.le_of_ble_eq_true rfl)
  rw [cel_patch] at h
  exact h, below_setCells _ o1_2.out _ _ _ H4.out.2⟩
 clear H4
 generalize hgw : World.setCells _ _ _ _ = w5 at H5 ⊢
 clear hgw
 refine rest_nil (then_normal (wp_ret ?_))
 repeat (first | refine then_ret ?_ | refine block_ret ?_)
 have hf0 := cel_var (k := 12) H5.out.1 5 rfl Tryz.isAgg86 Tryz.sizeOf86 rfl
 refine bodyPost_ret (v := V [r0 0, r0 1, r0 2, r0 3, r1 0, r1 1, r1 2, r1 3, r2 0, r2 1, r2 2, r2 3]) (by simp [results, Tryz.results100, asAddr, hf0]) rfl ?_
 exact ⟨rfl, H5.out.2⟩
end Rg
end Go.Proofs.YtgdlhgbdigpfhaaGreatDoor
end
