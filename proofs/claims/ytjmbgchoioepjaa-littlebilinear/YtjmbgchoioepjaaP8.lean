/- Texts of the proof, joined. -/
import Derived.Test.YtjmbgchoioepjaaP7
import Derived.ProofKit
import Derived.OpenShut
import Derived.Test.YtjmbgchoioepjaaRows
section
namespace Go.Proofs.Ytjmbgchoioepjaa
open Go.RowKit
namespace Rg
open NT
set_option maxHeartbeats 4000000 in
set_option maxRecDepth 100000 in
theorem bil_ft (s : Int) (x1 y1 x2 y2 : Nat) (z2 : Bool) (x3 y3 x4 y4 : Nat) (z4 : Bool) (x5 y5 : Nat) (z5 : Bool) (x6 y6 : Nat) (z6 : Bool) (u1 v1 u2 v2 u3 v3 u4 v4 r m n : Nat) (hm : m < 4294967296) (hn : n < 4294967296) (ht : decide ((u1, v1) = ((1, 0) : E2)) = true)
    (c0 : ∀ w, Calls Try.prog 41 #[] w fun e w' => e = .returned (.bool true) ∧ Below w.heap.size w w')
    (c1 : ∀ w, Calls Try.prog 20 #[.int .i64 s, .agg (pt x1 y1 false).toArray] w fun e w' => e = .returned (.bool true) ∧ Below w.heap.size w w')
    (c2 : ∀ w, Calls Try.prog 20 #[.int .i64 s, .agg (pt x2 y2 z2).toArray] w fun e w' => e = .returned (.bool true) ∧ Below w.heap.size w w')
    (c3 : ∀ w, Calls Try.prog 20 #[.int .i64 s, .agg (pt x3 y3 true).toArray] w fun e w' => e = .returned (.bool true) ∧ Below w.heap.size w w')
    (c4 : ∀ w, Calls Try.prog 14 #[.int .i64 s, .agg (pt x1 y1 false).toArray, .agg (pt x2 y2 z2).toArray] w fun e w' => e = .returned (.tuple #[.agg (pt x4 y4 z4).toArray, .int .i64 0]) ∧ Below w.heap.size w w')
    (c5 : ∀ w, Calls Try.prog 27 #[.int .i64 s, .agg (pt x1 y1 false).toArray, .agg (pt x3 y3 true).toArray] w fun e w' => e = .returned (.tuple #[.agg (l2 u1 v1).toArray, .int .i64 0]) ∧ Below w.heap.size w w')
    (c6 : ∀ w, Calls Try.prog 27 #[.int .i64 s, .agg (pt x2 y2 z2).toArray, .agg (pt x3 y3 true).toArray] w fun e w' => e = .returned (.tuple #[.agg (l2 u2 v2).toArray, .int .i64 0]) ∧ Below w.heap.size w w')
    (c7 : ∀ w, Calls Try.prog 27 #[.int .i64 s, .agg (pt x4 y4 z4).toArray, .agg (pt x3 y3 true).toArray] w fun e w' => e = .returned (.tuple #[.agg (l2 u3 v3).toArray, .int .i64 0]) ∧ Below w.heap.size w w')
    (c8 : ∀ w, Calls Try.prog 27 #[.int .i64 s, .agg (pt x3 y3 true).toArray, .agg (pt x1 y1 false).toArray] w fun e w' => e = .returned (.tuple #[.agg (l2 u1 v1).toArray, .int .i64 0]) ∧ Below w.heap.size w w')
    (c9 : ∀ w, Calls Try.prog 27 #[.int .i64 s, .agg (pt x5 y5 z5).toArray, .agg (pt x6 y6 z6).toArray] w fun e w' => e = .returned (.tuple #[.agg (l2 u4 v4).toArray, .int .i64 0]) ∧ Below w.heap.size w w')
    (c10 : ∀ w, Calls Try.prog 28 #[.int .i64 s, .agg (l2 u1 v1).toArray, .agg (l2 u2 v2).toArray] w fun e w' => e = .returned (.tuple #[.agg (l2 u3 v3).toArray, .int .i64 0]) ∧ Below w.heap.size w w')
    (c11 : ∀ w, Calls Try.prog 15 #[.int .i64 s, .agg (pt x1 y1 false).toArray, U m] w fun e w' => e = .returned (.tuple #[.agg (pt x5 y5 z5).toArray, .int .i64 0]) ∧ Below w.heap.size w w')
    (c12 : ∀ w, Calls Try.prog 15 #[.int .i64 s, .agg (pt x3 y3 true).toArray, U n] w fun e w' => e = .returned (.tuple #[.agg (pt x6 y6 z6).toArray, .int .i64 0]) ∧ Below w.heap.size w w')
    (c13 : ∀ w, Calls Try.prog 12 #[.int .i64 s] w fun e w' => e = .returned (.tuple #[U r, .int .i64 0]) ∧ Below w.heap.size w w')
    (c14 : ∀ w, Calls Try.prog 29 #[.int .i64 s, .agg (l2 u1 v1).toArray, U (m * n)] w fun e w' => e = .returned (.tuple #[.agg (l2 u4 v4).toArray, .int .i64 0]) ∧ Below w.heap.size w w')
    (c15 : ∀ w, Calls Try.prog 29 #[.int .i64 s, .agg (l2 u1 v1).toArray, U r] w fun e w' => e = .returned (.tuple #[.agg (l2 1 0).toArray, .int .i64 0]) ∧ Below w.heap.size w w') (w : World) :
    Calls Try.prog 7 #[.int .i64 s, .agg (pt x1 y1 false).toArray, .agg (pt x2 y2 z2).toArray, .agg (pt x3 y3 true).toArray, W32 m, W32 n] w fun e w' => e = .returned (.bool true) ∧ Below w.heap.size w w' := by
  have H0 : Hid (_ ∧ _) := ⟨Mm.nil w, Below.refl w.heap.size w⟩
  have C0 : Hid _ := c0
  have C1 : Hid _ := c1
  have C2 : Hid _ := c2
  have C3 : Hid _ := c3
  have C4 : Hid _ := c4
  have C5 : Hid _ := c5
  have C6 : Hid _ := c6
  have C7 : Hid _ := c7
  have C8 : Hid _ := c8
  have C9 : Hid _ := c9
  have C10 : Hid _ := c10
  have C11 : Hid _ := c11
  have C12 : Hid _ := c12
  have C13 : Hid _ := c13
  have C14 : Hid _ := c14
  have C15 : Hid _ := c15
  clear c0 c1 c2 c3 c4 c5 c6 c7 c8 c9 c10 c11 c12 c13 c14 c15
  go_enter Try.func7, Try.ntmps7
  refine wp_seq ?_
  refine walk_seqA 4 [.made (pt x1 y1 false) 25, .made (pt x2 y2 z2) 25, .made (pt x3 y3 true) 25, .quiet (.bool false)] (sB H0) ?ho1 ?he1
  case ho1 => exact ak (fun γ => ⟨rfl, fun w' => ex_boxT rfl rfl⟩) (ak (fun γ => ⟨rfl, fun w' => ex_boxT rfl rfl⟩) (ak (fun γ => ⟨rfl, fun w' => ex_boxT rfl rfl⟩) (ak (fun _ => ⟨rfl, fun _ _ => rfl⟩) trivial)))
  intro γ w1 l hM hl
  have H1 : Hid (Mm w1 [(γ 0, pt x1 y1 false), (γ 1, pt x2 y2 z2), (γ 2, pt x3 y3 true)] ∧ _) := growB H0 hM (Nat.le_refl _) hl [0, 1, 2] rfl (by decide)
  have o1_0 := ownB H0 hM (Nat.le_refl _) hl (i := 0) rfl
  have o1_1 := ownB H0 hM (Nat.le_refl _) hl (i := 1) rfl
  have o1_2 := ownB H0 hM (Nat.le_refl _) hl (i := 2) rfl
  clear hM hl l
  generalize γ 0 = γ1_0 at H1 o1_0 ⊢
  generalize γ 1 = γ1_1 at H1 o1_1 ⊢
  generalize γ 2 = γ1_2 at H1 o1_2 ⊢
  clear γ
  refine rest0 rfl (then_normal (wp_seq ?_))
  refine walk_seqB 2 [.call (.bool true), .quiet (.bool true)] H1 ?ho2 ?he2
  case ho2 => exact ak (fun γ => ⟨rfl, fun w' h => ⟨41, #[], exec_call rfl call41 rfl (mpn rfl), C0.out w'⟩⟩) (ak (fun _ => ⟨rfl, fun _ _ => rfl⟩) trivial)
  intro _ w2 H2
  clear H1
  refine rest0 rfl (then_normal (wp_seq (wp_seq ?_)))
  refine walk_seqB 16 [.quiet (.int .i64 s), .quiet (.agg (pt x1 y1 false).toArray), .call (.bool true), .quiet (.bool false), .quiet (.bool false), .quiet (.int .i64 s), .quiet (.agg (pt x2 y2 z2).toArray), .call (.bool true), .quiet (.bool false), .quiet (.bool false), .quiet (.bool false), .quiet (.int .i64 s), .quiet (.agg (pt x3 y3 true).toArray), .call (.bool true), .quiet (.bool false), .quiet (.bool false)] H2 ?ho3 ?he3
  case ho3 => exact ak (fun _ => ⟨rfl, fun _ _ => rfl⟩) (ak (fun γ => ⟨rfl, fun w' h => ex_loadT h 0 rfl rfl rfl Try.isAgg25 Try.sizeOf25 rfl rfl⟩) (ak (fun γ => ⟨rfl, fun w' h => ⟨20, #[.int .i64 s, .agg (pt x1 y1 false).toArray], exec_call rfl call20 rfl (mpn rfl), C1.out w'⟩⟩) (ak (by refine fun γ => ⟨rfl, fun w' h => ?_⟩; clear h; go_simp) (ak (fun _ => ⟨rfl, fun _ _ => rfl⟩) (ak (fun _ => ⟨rfl, fun _ _ => rfl⟩) (ak (fun γ => ⟨rfl, fun w' h => ex_loadT h 1 rfl rfl rfl Try.isAgg25 Try.sizeOf25 rfl rfl⟩) (ak (fun γ => ⟨rfl, fun w' h => ⟨20, #[.int .i64 s, .agg (pt x2 y2 z2).toArray], exec_call rfl call20 rfl (mpn rfl), C2.out w'⟩⟩) (ak (by refine fun γ => ⟨rfl, fun w' h => ?_⟩; clear h; go_simp) (ak (by refine fun γ => ⟨rfl, fun w' h => ?_⟩; clear h; go_simp) (ak (fun _ => ⟨rfl, fun _ _ => rfl⟩) (ak (fun _ => ⟨rfl, fun _ _ => rfl⟩) (ak (fun γ => ⟨rfl, fun w' h => ex_loadT h 2 rfl rfl rfl Try.isAgg25 Try.sizeOf25 rfl rfl⟩) (ak (fun γ => ⟨rfl, fun w' h => ⟨20, #[.int .i64 s, .agg (pt x3 y3 true).toArray], exec_call rfl call20 rfl (mpn rfl), C3.out w'⟩⟩) (ak (by refine fun γ => ⟨rfl, fun w' h => ?_⟩; clear h; go_simp) (ak (by refine fun γ => ⟨rfl, fun w' h => ?_⟩; clear h; go_simp) trivial)))))))))))))))
  intro _ w3 H3
  clear H2
  refine rest0 rfl (then_normal (wp_cond_false rfl ?_))
  refine wp_skip (then_normal (wp_seq ?_))
  refine walk_seqA 10 [.quiet (.int .i64 s), .quiet (.agg (pt x1 y1 false).toArray), .quiet (.agg (pt x2 y2 z2).toArray), .call (.tuple #[.agg (pt x4 y4 z4).toArray, .int .i64 0]), .quiet (.tuple #[.agg (pt x4 y4 z4).toArray, .int .i64 0]), .quiet (.agg (pt x4 y4 z4).toArray), .quiet (.int .i64 0), .made (pt 0 0 false) 25, .laid 7 (pt 0 0 false) (pt x4 y4 z4), .quiet (.int .i64 0)] (sB H3) ?ho4 ?he4 (hL := ?hL4)
  case hL4 => exact ⟨⟨_, rfl⟩, trivial⟩
  case ho4 => exact ak (fun _ => ⟨rfl, fun _ _ => rfl⟩) (ak (fun γ => ⟨rfl, fun w' h => ex_loadT h 0 rfl rfl rfl Try.isAgg25 Try.sizeOf25 rfl rfl⟩) (ak (fun γ => ⟨rfl, fun w' h => ex_loadT h 1 rfl rfl rfl Try.isAgg25 Try.sizeOf25 rfl rfl⟩) (ak (fun γ => ⟨rfl, fun w' h => ⟨14, #[.int .i64 s, .agg (pt x1 y1 false).toArray, .agg (pt x2 y2 z2).toArray], exec_call rfl call14 rfl (mpn rfl), C4.out w'⟩⟩) (ak (fun _ => ⟨rfl, fun _ _ => rfl⟩) (ak (by refine fun γ => ⟨rfl, fun w' h => ?_⟩; clear h; go_simp) (ak (by refine fun γ => ⟨rfl, fun w' h => ?_⟩; clear h; go_simp) (ak (fun γ => ⟨rfl, fun w' => ex_made25 rfl⟩) (ak (fun γ => ⟨rfl, rfl, rfl, fun w' h => ex_laidT h rfl rfl Try.sizeOf25 rfl rfl rfl⟩) (ak (fun _ => ⟨rfl, fun _ _ => rfl⟩) trivial)))))))))
  intro γ w4 l hM hl
  have H4 : Hid (Mm w4 [(γ 7, pt x4 y4 z4), (γ1_0, pt x1 y1 false), (γ1_1, pt x2 y2 z2), (γ1_2, pt x3 y3 true)] ∧ _) := growB H3 hM (Nat.le_refl _) hl [7] rfl (by decide)
  have o4_7 := ownB H3 hM (Nat.le_refl _) hl (i := 7) rfl
  clear hM hl l H3
  generalize γ 7 = γ4_7 at H4 o4_7 ⊢
  clear γ
  refine rest0 rfl (then_normal (wp_seq ?_))
  refine walk_seqA 10 [.quiet (.int .i64 s), .quiet (.agg (pt x1 y1 false).toArray), .quiet (.agg (pt x3 y3 true).toArray), .call (.tuple #[.agg (l2 u1 v1).toArray, .int .i64 0]), .quiet (.tuple #[.agg (l2 u1 v1).toArray, .int .i64 0]), .quiet (.agg (l2 u1 v1).toArray), .quiet (.int .i64 0), .made (l2 0 0) 49, .laid 7 (l2 0 0) (l2 u1 v1), .quiet (.int .i64 0)] (sB H4) ?ho5 ?he5 (hL := ?hL5)
  case hL5 => exact ⟨⟨_, rfl⟩, trivial⟩
  case ho5 => exact ak (fun _ => ⟨rfl, fun _ _ => rfl⟩) (ak (fun γ => ⟨rfl, fun w' h => ex_loadT h 1 rfl rfl rfl Try.isAgg25 Try.sizeOf25 rfl rfl⟩) (ak (fun γ => ⟨rfl, fun w' h => ex_loadT h 3 rfl rfl rfl Try.isAgg25 Try.sizeOf25 rfl rfl⟩) (ak (fun γ => ⟨rfl, fun w' h => ⟨27, #[.int .i64 s, .agg (pt x1 y1 false).toArray, .agg (pt x3 y3 true).toArray], exec_call rfl call27 rfl (mpn rfl), C5.out w'⟩⟩) (ak (fun _ => ⟨rfl, fun _ _ => rfl⟩) (ak (by refine fun γ => ⟨rfl, fun w' h => ?_⟩; clear h; go_simp) (ak (by refine fun γ => ⟨rfl, fun w' h => ?_⟩; clear h; go_simp) (ak (fun γ => ⟨rfl, fun w' => ex_made49 rfl⟩) (ak (fun γ => ⟨rfl, rfl, rfl, fun w' h => ex_laidT h rfl rfl Try.sizeOf49 rfl rfl rfl⟩) (ak (fun _ => ⟨rfl, fun _ _ => rfl⟩) trivial)))))))))
  intro γ w5 l hM hl
  have H5 : Hid (Mm w5 [(γ 7, l2 u1 v1), (γ4_7, pt x4 y4 z4), (γ1_0, pt x1 y1 false), (γ1_1, pt x2 y2 z2), (γ1_2, pt x3 y3 true)] ∧ _) := growB H4 hM (Nat.le_refl _) hl [7] rfl (by decide)
  have o5_7 := ownB H4 hM (Nat.le_refl _) hl (i := 7) rfl
  clear hM hl l H4
  generalize γ 7 = γ5_7 at H5 o5_7 ⊢
  clear γ
  refine rest0 rfl (then_normal (wp_seq ?_))
  refine walk_seqA 10 [.quiet (.int .i64 s), .quiet (.agg (pt x2 y2 z2).toArray), .quiet (.agg (pt x3 y3 true).toArray), .call (.tuple #[.agg (l2 u2 v2).toArray, .int .i64 0]), .quiet (.tuple #[.agg (l2 u2 v2).toArray, .int .i64 0]), .quiet (.agg (l2 u2 v2).toArray), .quiet (.int .i64 0), .made (l2 0 0) 49, .laid 7 (l2 0 0) (l2 u2 v2), .quiet (.int .i64 0)] (sB H5) ?ho6 ?he6 (hL := ?hL6)
  case hL6 => exact ⟨⟨_, rfl⟩, trivial⟩
  case ho6 => exact ak (fun _ => ⟨rfl, fun _ _ => rfl⟩) (ak (fun γ => ⟨rfl, fun w' h => ex_loadT h 3 rfl rfl rfl Try.isAgg25 Try.sizeOf25 rfl rfl⟩) (ak (fun γ => ⟨rfl, fun w' h => ex_loadT h 4 rfl rfl rfl Try.isAgg25 Try.sizeOf25 rfl rfl⟩) (ak (fun γ => ⟨rfl, fun w' h => ⟨27, #[.int .i64 s, .agg (pt x2 y2 z2).toArray, .agg (pt x3 y3 true).toArray], exec_call rfl call27 rfl (mpn rfl), C6.out w'⟩⟩) (ak (fun _ => ⟨rfl, fun _ _ => rfl⟩) (ak (by refine fun γ => ⟨rfl, fun w' h => ?_⟩; clear h; go_simp) (ak (by refine fun γ => ⟨rfl, fun w' h => ?_⟩; clear h; go_simp) (ak (fun γ => ⟨rfl, fun w' => ex_made49 rfl⟩) (ak (fun γ => ⟨rfl, rfl, rfl, fun w' h => ex_laidT h rfl rfl Try.sizeOf49 rfl rfl rfl⟩) (ak (fun _ => ⟨rfl, fun _ _ => rfl⟩) trivial)))))))))
  intro γ w6 l hM hl
  have H6 : Hid (Mm w6 [(γ 7, l2 u2 v2), (γ5_7, l2 u1 v1), (γ4_7, pt x4 y4 z4), (γ1_0, pt x1 y1 false), (γ1_1, pt x2 y2 z2), (γ1_2, pt x3 y3 true)] ∧ _) := growB H5 hM (Nat.le_refl _) hl [7] rfl (by decide)
  have o6_7 := ownB H5 hM (Nat.le_refl _) hl (i := 7) rfl
  clear hM hl l H5
  generalize γ 7 = γ6_7 at H6 o6_7 ⊢
  clear γ
  refine rest0 rfl (then_normal (wp_seq ?_))
  refine walk_seqA 10 [.quiet (.int .i64 s), .quiet (.agg (pt x4 y4 z4).toArray), .quiet (.agg (pt x3 y3 true).toArray), .call (.tuple #[.agg (l2 u3 v3).toArray, .int .i64 0]), .quiet (.tuple #[.agg (l2 u3 v3).toArray, .int .i64 0]), .quiet (.agg (l2 u3 v3).toArray), .quiet (.int .i64 0), .made (l2 0 0) 49, .laid 7 (l2 0 0) (l2 u3 v3), .quiet (.int .i64 0)] (sB H6) ?ho7 ?he7 (hL := ?hL7)
  case hL7 => exact ⟨⟨_, rfl⟩, trivial⟩
  case ho7 => exact ak (fun _ => ⟨rfl, fun _ _ => rfl⟩) (ak (fun γ => ⟨rfl, fun w' h => ex_loadT h 2 rfl rfl rfl Try.isAgg25 Try.sizeOf25 rfl rfl⟩) (ak (fun γ => ⟨rfl, fun w' h => ex_loadT h 5 rfl rfl rfl Try.isAgg25 Try.sizeOf25 rfl rfl⟩) (ak (fun γ => ⟨rfl, fun w' h => ⟨27, #[.int .i64 s, .agg (pt x4 y4 z4).toArray, .agg (pt x3 y3 true).toArray], exec_call rfl call27 rfl (mpn rfl), C7.out w'⟩⟩) (ak (fun _ => ⟨rfl, fun _ _ => rfl⟩) (ak (by refine fun γ => ⟨rfl, fun w' h => ?_⟩; clear h; go_simp) (ak (by refine fun γ => ⟨rfl, fun w' h => ?_⟩; clear h; go_simp) (ak (fun γ => ⟨rfl, fun w' => ex_made49 rfl⟩) (ak (fun γ => ⟨rfl, rfl, rfl, fun w' h => ex_laidT h rfl rfl Try.sizeOf49 rfl rfl rfl⟩) (ak (fun _ => ⟨rfl, fun _ _ => rfl⟩) trivial)))))))))
  intro γ w7 l hM hl
  have H7 : Hid (Mm w7 [(γ 7, l2 u3 v3), (γ6_7, l2 u2 v2), (γ5_7, l2 u1 v1), (γ4_7, pt x4 y4 z4), (γ1_0, pt x1 y1 false), (γ1_1, pt x2 y2 z2), (γ1_2, pt x3 y3 true)] ∧ _) := growB H6 hM (Nat.le_refl _) hl [7] rfl (by decide)
  have o7_7 := ownB H6 hM (Nat.le_refl _) hl (i := 7) rfl
  clear hM hl l H6
  generalize γ 7 = γ7_7 at H7 o7_7 ⊢
  clear γ
  refine rest0 rfl (then_normal (wp_seq ?_))
  refine walk_seqA 10 [.quiet (.int .i64 s), .quiet (.agg (pt x3 y3 true).toArray), .quiet (.agg (pt x1 y1 false).toArray), .call (.tuple #[.agg (l2 u1 v1).toArray, .int .i64 0]), .quiet (.tuple #[.agg (l2 u1 v1).toArray, .int .i64 0]), .quiet (.agg (l2 u1 v1).toArray), .quiet (.int .i64 0), .made (l2 0 0) 49, .laid 7 (l2 0 0) (l2 u1 v1), .quiet (.int .i64 0)] (sB H7) ?ho8 ?he8 (hL := ?hL8)
  case hL8 => exact ⟨⟨_, rfl⟩, trivial⟩
  case ho8 => exact ak (fun _ => ⟨rfl, fun _ _ => rfl⟩) (ak (fun γ => ⟨rfl, fun w' h => ex_loadT h 6 rfl rfl rfl Try.isAgg25 Try.sizeOf25 rfl rfl⟩) (ak (fun γ => ⟨rfl, fun w' h => ex_loadT h 4 rfl rfl rfl Try.isAgg25 Try.sizeOf25 rfl rfl⟩) (ak (fun γ => ⟨rfl, fun w' h => ⟨27, #[.int .i64 s, .agg (pt x3 y3 true).toArray, .agg (pt x1 y1 false).toArray], exec_call rfl call27 rfl (mpn rfl), C8.out w'⟩⟩) (ak (fun _ => ⟨rfl, fun _ _ => rfl⟩) (ak (by refine fun γ => ⟨rfl, fun w' h => ?_⟩; clear h; go_simp) (ak (by refine fun γ => ⟨rfl, fun w' h => ?_⟩; clear h; go_simp) (ak (fun γ => ⟨rfl, fun w' => ex_made49 rfl⟩) (ak (fun γ => ⟨rfl, rfl, rfl, fun w' h => ex_laidT h rfl rfl Try.sizeOf49 rfl rfl rfl⟩) (ak (fun _ => ⟨rfl, fun _ _ => rfl⟩) trivial)))))))))
  intro γ w8 l hM hl
  have H8 : Hid (Mm w8 [(γ 7, l2 u1 v1), (γ7_7, l2 u3 v3), (γ6_7, l2 u2 v2), (γ5_7, l2 u1 v1), (γ4_7, pt x4 y4 z4), (γ1_0, pt x1 y1 false), (γ1_1, pt x2 y2 z2), (γ1_2, pt x3 y3 true)] ∧ _) := growB H7 hM (Nat.le_refl _) hl [7] rfl (by decide)
  have o8_7 := ownB H7 hM (Nat.le_refl _) hl (i := 7) rfl
  clear hM hl l H7
  generalize γ 7 = γ8_7 at H8 o8_7 ⊢
  clear γ
  refine rest0 rfl (then_normal (wp_seq ?_))
  refine walk_seqA 10 [.quiet (.int .i64 s), .quiet (.agg (l2 u1 v1).toArray), .quiet (.agg (l2 u2 v2).toArray), .call (.tuple #[.agg (l2 u3 v3).toArray, .int .i64 0]), .quiet (.tuple #[.agg (l2 u3 v3).toArray, .int .i64 0]), .quiet (.agg (l2 u3 v3).toArray), .quiet (.int .i64 0), .made (l2 0 0) 49, .laid 7 (l2 0 0) (l2 u3 v3), .quiet (.int .i64 0)] (sB H8) ?ho9 ?he9 (hL := ?hL9)
  case hL9 => exact ⟨⟨_, rfl⟩, trivial⟩
  case ho9 => exact ak (fun _ => ⟨rfl, fun _ _ => rfl⟩) (ak (fun γ => ⟨rfl, fun w' h => ex_loadT h 3 rfl rfl rfl Try.isAgg49 Try.sizeOf49 rfl rfl⟩) (ak (fun γ => ⟨rfl, fun w' h => ex_loadT h 2 rfl rfl rfl Try.isAgg49 Try.sizeOf49 rfl rfl⟩) (ak (fun γ => ⟨rfl, fun w' h => ⟨28, #[.int .i64 s, .agg (l2 u1 v1).toArray, .agg (l2 u2 v2).toArray], exec_call rfl call28 rfl (mpn rfl), C10.out w'⟩⟩) (ak (fun _ => ⟨rfl, fun _ _ => rfl⟩) (ak (by refine fun γ => ⟨rfl, fun w' h => ?_⟩; clear h; go_simp) (ak (by refine fun γ => ⟨rfl, fun w' h => ?_⟩; clear h; go_simp) (ak (fun γ => ⟨rfl, fun w' => ex_made49 rfl⟩) (ak (fun γ => ⟨rfl, rfl, rfl, fun w' h => ex_laidT h rfl rfl Try.sizeOf49 rfl rfl rfl⟩) (ak (fun _ => ⟨rfl, fun _ _ => rfl⟩) trivial)))))))))
  intro γ w9 l hM hl
  have H9 : Hid (Mm w9 [(γ 7, l2 u3 v3), (γ8_7, l2 u1 v1), (γ7_7, l2 u3 v3), (γ6_7, l2 u2 v2), (γ5_7, l2 u1 v1), (γ4_7, pt x4 y4 z4), (γ1_0, pt x1 y1 false), (γ1_1, pt x2 y2 z2), (γ1_2, pt x3 y3 true)] ∧ _) := growB H8 hM (Nat.le_refl _) hl [7] rfl (by decide)
  have o9_7 := ownB H8 hM (Nat.le_refl _) hl (i := 7) rfl
  clear hM hl l H8
  generalize γ 7 = γ9_7 at H9 o9_7 ⊢
  clear γ
  refine rest0 rfl (then_normal (wp_seq ?_))
  refine walk_seqA 11 [.quiet (.int .i64 s), .quiet (.agg (pt x1 y1 false).toArray), .quiet (W32 m), .quiet (U m), .call (.tuple #[.agg (pt x5 y5 z5).toArray, .int .i64 0]), .quiet (.tuple #[.agg (pt x5 y5 z5).toArray, .int .i64 0]), .quiet (.agg (pt x5 y5 z5).toArray), .quiet (.int .i64 0), .made (pt 0 0 false) 25, .laid 8 (pt 0 0 false) (pt x5 y5 z5), .quiet (.int .i64 0)] (sB H9) ?ho10 ?he10 (hL := ?hL10)
  case hL10 => exact ⟨⟨_, rfl⟩, trivial⟩
  case ho10 => exact ak (fun _ => ⟨rfl, fun _ _ => rfl⟩) (ak (fun γ => ⟨rfl, fun w' h => ex_loadT h 6 rfl rfl rfl Try.isAgg25 Try.sizeOf25 rfl rfl⟩) (ak (fun _ => ⟨rfl, fun _ _ => rfl⟩) (ak (fun γ => ⟨rfl, fun w' _ => ex_cv32 hm rfl rfl⟩) (ak (fun γ => ⟨rfl, fun w' h => ⟨15, #[.int .i64 s, .agg (pt x1 y1 false).toArray, U m], exec_call rfl call15 rfl (mpn rfl), C11.out w'⟩⟩) (ak (fun _ => ⟨rfl, fun _ _ => rfl⟩) (ak (by refine fun γ => ⟨rfl, fun w' h => ?_⟩; clear h; go_simp) (ak (by refine fun γ => ⟨rfl, fun w' h => ?_⟩; clear h; go_simp) (ak (fun γ => ⟨rfl, fun w' => ex_made25 rfl⟩) (ak (fun γ => ⟨rfl, rfl, rfl, fun w' h => ex_laidT h rfl rfl Try.sizeOf25 rfl rfl rfl⟩) (ak (fun _ => ⟨rfl, fun _ _ => rfl⟩) trivial))))))))))
  intro γ w10 l hM hl
  have H10 : Hid (Mm w10 [(γ 8, pt x5 y5 z5), (γ9_7, l2 u3 v3), (γ8_7, l2 u1 v1), (γ7_7, l2 u3 v3), (γ6_7, l2 u2 v2), (γ5_7, l2 u1 v1), (γ4_7, pt x4 y4 z4), (γ1_0, pt x1 y1 false), (γ1_1, pt x2 y2 z2), (γ1_2, pt x3 y3 true)] ∧ _) := growB H9 hM (Nat.le_refl _) hl [8] rfl (by decide)
  have o10_8 := ownB H9 hM (Nat.le_refl _) hl (i := 8) rfl
  clear hM hl l H9
  generalize γ 8 = γ10_8 at H10 o10_8 ⊢
  clear γ
  refine rest0 rfl (then_normal (wp_seq ?_))
  refine walk_seqA 11 [.quiet (.int .i64 s), .quiet (.agg (pt x3 y3 true).toArray), .quiet (W32 n), .quiet (U n), .call (.tuple #[.agg (pt x6 y6 z6).toArray, .int .i64 0]), .quiet (.tuple #[.agg (pt x6 y6 z6).toArray, .int .i64 0]), .quiet (.agg (pt x6 y6 z6).toArray), .quiet (.int .i64 0), .made (pt 0 0 false) 25, .laid 8 (pt 0 0 false) (pt x6 y6 z6), .quiet (.int .i64 0)] (sB H10) ?ho11 ?he11 (hL := ?hL11)
  case hL11 => exact ⟨⟨_, rfl⟩, trivial⟩
  case ho11 => exact ak (fun _ => ⟨rfl, fun _ _ => rfl⟩) (ak (fun γ => ⟨rfl, fun w' h => ex_loadT h 9 rfl rfl rfl Try.isAgg25 Try.sizeOf25 rfl rfl⟩) (ak (fun _ => ⟨rfl, fun _ _ => rfl⟩) (ak (fun γ => ⟨rfl, fun w' _ => ex_cv32 hn rfl rfl⟩) (ak (fun γ => ⟨rfl, fun w' h => ⟨15, #[.int .i64 s, .agg (pt x3 y3 true).toArray, U n], exec_call rfl call15 rfl (mpn rfl), C12.out w'⟩⟩) (ak (fun _ => ⟨rfl, fun _ _ => rfl⟩) (ak (by refine fun γ => ⟨rfl, fun w' h => ?_⟩; clear h; go_simp) (ak (by refine fun γ => ⟨rfl, fun w' h => ?_⟩; clear h; go_simp) (ak (fun γ => ⟨rfl, fun w' => ex_made25 rfl⟩) (ak (fun γ => ⟨rfl, rfl, rfl, fun w' h => ex_laidT h rfl rfl Try.sizeOf25 rfl rfl rfl⟩) (ak (fun _ => ⟨rfl, fun _ _ => rfl⟩) trivial))))))))))
  intro γ w11 l hM hl
  have H11 : Hid (Mm w11 [(γ 8, pt x6 y6 z6), (γ10_8, pt x5 y5 z5), (γ9_7, l2 u3 v3), (γ8_7, l2 u1 v1), (γ7_7, l2 u3 v3), (γ6_7, l2 u2 v2), (γ5_7, l2 u1 v1), (γ4_7, pt x4 y4 z4), (γ1_0, pt x1 y1 false), (γ1_1, pt x2 y2 z2), (γ1_2, pt x3 y3 true)] ∧ _) := growB H10 hM (Nat.le_refl _) hl [8] rfl (by decide)
  have o11_8 := ownB H10 hM (Nat.le_refl _) hl (i := 8) rfl
  clear hM hl l H10
  generalize γ 8 = γ11_8 at H11 o11_8 ⊢
  clear γ
  refine rest0 rfl (then_normal (wp_seq ?_))
  refine walk_seqA 10 [.quiet (.int .i64 s), .quiet (.agg (pt x5 y5 z5).toArray), .quiet (.agg (pt x6 y6 z6).toArray), .call (.tuple #[.agg (l2 u4 v4).toArray, .int .i64 0]), .quiet (.tuple #[.agg (l2 u4 v4).toArray, .int .i64 0]), .quiet (.agg (l2 u4 v4).toArray), .quiet (.int .i64 0), .made (l2 0 0) 49, .laid 7 (l2 0 0) (l2 u4 v4), .quiet (.int .i64 0)] (sB H11) ?ho12 ?he12 (hL := ?hL12)
  case hL12 => exact ⟨⟨_, rfl⟩, trivial⟩
  case ho12 => exact ak (fun _ => ⟨rfl, fun _ _ => rfl⟩) (ak (fun γ => ⟨rfl, fun w' h => ex_loadT h 1 rfl rfl rfl Try.isAgg25 Try.sizeOf25 rfl rfl⟩) (ak (fun γ => ⟨rfl, fun w' h => ex_loadT h 0 rfl rfl rfl Try.isAgg25 Try.sizeOf25 rfl rfl⟩) (ak (fun γ => ⟨rfl, fun w' h => ⟨27, #[.int .i64 s, .agg (pt x5 y5 z5).toArray, .agg (pt x6 y6 z6).toArray], exec_call rfl call27 rfl (mpn rfl), C9.out w'⟩⟩) (ak (fun _ => ⟨rfl, fun _ _ => rfl⟩) (ak (by refine fun γ => ⟨rfl, fun w' h => ?_⟩; clear h; go_simp) (ak (by refine fun γ => ⟨rfl, fun w' h => ?_⟩; clear h; go_simp) (ak (fun γ => ⟨rfl, fun w' => ex_made49 rfl⟩) (ak (fun γ => ⟨rfl, rfl, rfl, fun w' h => ex_laidT h rfl rfl Try.sizeOf49 rfl rfl rfl⟩) (ak (fun _ => ⟨rfl, fun _ _ => rfl⟩) trivial)))))))))
  intro γ w12 l hM hl
  have H12 : Hid (Mm w12 [(γ 7, l2 u4 v4), (γ11_8, pt x6 y6 z6), (γ10_8, pt x5 y5 z5), (γ9_7, l2 u3 v3), (γ8_7, l2 u1 v1), (γ7_7, l2 u3 v3), (γ6_7, l2 u2 v2), (γ5_7, l2 u1 v1), (γ4_7, pt x4 y4 z4), (γ1_0, pt x1 y1 false), (γ1_1, pt x2 y2 z2), (γ1_2, pt x3 y3 true)] ∧ _) := growB H11 hM (Nat.le_refl _) hl [7] rfl (by decide)
  have o12_7 := ownB H11 hM (Nat.le_refl _) hl (i := 7) rfl
  clear hM hl l H11
  generalize γ 7 = γ12_7 at H12 o12_7 ⊢
  clear γ
  refine rest0 rfl (then_normal (wp_seq ?_))
  refine walk_seqA 14 [.quiet (.int .i64 s), .quiet (.agg (l2 u1 v1).toArray), .quiet (W32 m), .quiet (U m), .quiet (W32 n), .quiet (U n), .quiet (U (m * n)), .call (.tuple #[.agg (l2 u4 v4).toArray, .int .i64 0]), .quiet (.tuple #[.agg (l2 u4 v4).toArray, .int .i64 0]), .quiet (.agg (l2 u4 v4).toArray), .quiet (.int .i64 0), .made (l2 0 0) 49, .laid 11 (l2 0 0) (l2 u4 v4), .quiet (.int .i64 0)] (sB H12) ?ho13 ?he13 (hL := ?hL13)
  case hL13 => exact ⟨⟨_, rfl⟩, trivial⟩
  case ho13 => exact ak (fun _ => ⟨rfl, fun _ _ => rfl⟩) (ak (fun γ => ⟨rfl, fun w' h => ex_loadT h 7 rfl rfl rfl Try.isAgg49 Try.sizeOf49 rfl rfl⟩) (ak (fun _ => ⟨rfl, fun _ _ => rfl⟩) (ak (fun γ => ⟨rfl, fun w' _ => ex_cv32 hm rfl rfl⟩) (ak (fun _ => ⟨rfl, fun _ _ => rfl⟩) (ak (fun γ => ⟨rfl, fun w' _ => ex_cv32 hn rfl rfl⟩) (ak (fun γ => ⟨rfl, fun w' _ => ex_mulU (mul32 hm hn) rfl rfl rfl⟩) (ak (fun γ => ⟨rfl, fun w' h => ⟨29, #[.int .i64 s, .agg (l2 u1 v1).toArray, U (m * n)], exec_call rfl call29 rfl (mpn rfl), C14.out w'⟩⟩) (ak (fun _ => ⟨rfl, fun _ _ => rfl⟩) (ak (by refine fun γ => ⟨rfl, fun w' h => ?_⟩; clear h; go_simp) (ak (by refine fun γ => ⟨rfl, fun w' h => ?_⟩; clear h; go_simp) (ak (fun γ => ⟨rfl, fun w' => ex_made49 rfl⟩) (ak (fun γ => ⟨rfl, rfl, rfl, fun w' h => ex_laidT h rfl rfl Try.sizeOf49 rfl rfl rfl⟩) (ak (fun _ => ⟨rfl, fun _ _ => rfl⟩) trivial)))))))))))))
  intro γ w13 l hM hl
  have H13 : Hid (Mm w13 [(γ 11, l2 u4 v4), (γ12_7, l2 u4 v4), (γ11_8, pt x6 y6 z6), (γ10_8, pt x5 y5 z5), (γ9_7, l2 u3 v3), (γ8_7, l2 u1 v1), (γ7_7, l2 u3 v3), (γ6_7, l2 u2 v2), (γ5_7, l2 u1 v1), (γ4_7, pt x4 y4 z4), (γ1_0, pt x1 y1 false), (γ1_1, pt x2 y2 z2), (γ1_2, pt x3 y3 true)] ∧ _) := growB H12 hM (Nat.le_refl _) hl [11] rfl (by decide)
  have o13_11 := ownB H12 hM (Nat.le_refl _) hl (i := 11) rfl
  clear hM hl l H12
  generalize γ 11 = γ13_11 at H13 o13_11 ⊢
  clear γ
  refine rest0 rfl (then_normal (wp_seq ?_))
  refine walk_seqB 7 [.quiet (.int .i64 s), .call (.tuple #[U r, .int .i64 0]), .quiet (.tuple #[U r, .int .i64 0]), .quiet (U r), .quiet (.int .i64 0), .quiet (U r), .quiet (.int .i64 0)] H13 ?ho14 ?he14
  case ho14 => exact ak (fun _ => ⟨rfl, fun _ _ => rfl⟩) (ak (fun γ => ⟨rfl, fun w' h => ⟨12, #[.int .i64 s], exec_call rfl call12 rfl (mpn rfl), C13.out w'⟩⟩) (ak (fun _ => ⟨rfl, fun _ _ => rfl⟩) (ak (by refine fun γ => ⟨rfl, fun w' h => ?_⟩; clear h; go_simp) (ak (by refine fun γ => ⟨rfl, fun w' h => ?_⟩; clear h; go_simp) (ak (fun _ => ⟨rfl, fun _ _ => rfl⟩) (ak (fun _ => ⟨rfl, fun _ _ => rfl⟩) trivial))))))
  intro _ w14 H14
  clear H13
  refine rest0 rfl (then_normal (wp_seq ?_))
  refine walk_seqA 10 [.quiet (.int .i64 s), .quiet (.agg (l2 u1 v1).toArray), .quiet (U r), .call (.tuple #[.agg (l2 1 0).toArray, .int .i64 0]), .quiet (.tuple #[.agg (l2 1 0).toArray, .int .i64 0]), .quiet (.agg (l2 1 0).toArray), .quiet (.int .i64 0), .made (l2 0 0) 49, .laid 7 (l2 0 0) (l2 1 0), .quiet (.int .i64 0)] (sB H14) ?ho15 ?he15 (hL := ?hL15)
  case hL15 => exact ⟨⟨_, rfl⟩, trivial⟩
  case ho15 => exact ak (fun _ => ⟨rfl, fun _ _ => rfl⟩) (ak (fun γ => ⟨rfl, fun w' h => ex_loadT h 8 rfl rfl rfl Try.isAgg49 Try.sizeOf49 rfl rfl⟩) (ak (fun _ => ⟨rfl, fun _ _ => rfl⟩) (ak (fun γ => ⟨rfl, fun w' h => ⟨29, #[.int .i64 s, .agg (l2 u1 v1).toArray, U r], exec_call rfl call29 rfl (mpn rfl), C15.out w'⟩⟩) (ak (fun _ => ⟨rfl, fun _ _ => rfl⟩) (ak (by refine fun γ => ⟨rfl, fun w' h => ?_⟩; clear h; go_simp) (ak (by refine fun γ => ⟨rfl, fun w' h => ?_⟩; clear h; go_simp) (ak (fun γ => ⟨rfl, fun w' => ex_made49 rfl⟩) (ak (fun γ => ⟨rfl, rfl, rfl, fun w' h => ex_laidT h rfl rfl Try.sizeOf49 rfl rfl rfl⟩) (ak (fun _ => ⟨rfl, fun _ _ => rfl⟩) trivial)))))))))
  intro γ w15 l hM hl
  have H15 : Hid (Mm w15 [(γ 7, l2 1 0), (γ13_11, l2 u4 v4), (γ12_7, l2 u4 v4), (γ11_8, pt x6 y6 z6), (γ10_8, pt x5 y5 z5), (γ9_7, l2 u3 v3), (γ8_7, l2 u1 v1), (γ7_7, l2 u3 v3), (γ6_7, l2 u2 v2), (γ5_7, l2 u1 v1), (γ4_7, pt x4 y4 z4), (γ1_0, pt x1 y1 false), (γ1_1, pt x2 y2 z2), (γ1_2, pt x3 y3 true)] ∧ _) := growB H14 hM (Nat.le_refl _) hl [7] rfl (by decide)
  have o15_7 := ownB H14 hM (Nat.le_refl _) hl (i := 7) rfl
  clear hM hl l H14
  generalize γ 7 = γ15_7 at H15 o15_7 ⊢
  clear γ
  refine rest0 rfl (then_normal (wp_seq ?_))
  refine walk_seqB 4 [.quiet (.agg (l2 u1 v1).toArray), .quiet (.agg (l2 1 0).toArray), .quiet (.bool true), .quiet (.bool true)] H15 ?ho16 ?he16
  case ho16 => exact ak (fun γ => ⟨rfl, fun w' h => ex_loadT h 9 rfl rfl rfl Try.isAgg49 Try.sizeOf49 rfl rfl⟩) (ak (fun γ => ⟨rfl, fun w' _ => ex_build49_01 rfl rfl rfl⟩) (ak (fun γ => ⟨rfl, fun w' _ => exec_eqT49 (fun w => eq_triv _ ht w) rfl rfl rfl⟩) (ak (fun _ => ⟨rfl, fun _ _ => rfl⟩) trivial)))
  intro _ w16 H16
  clear H15
  refine rest0 rfl (then_normal (wp_seq ?_))
  refine walk_seqB 48 [.quiet (.bool true), .quiet (.bool true), .quiet (.int .i64 0), .quiet (.bool true), .quiet (.bool true), .quiet (.bool true), .quiet (.int .i64 0), .quiet (.bool true), .quiet (.bool true), .quiet (.bool true), .quiet (.int .i64 0), .quiet (.bool true), .quiet (.bool true), .quiet (.bool true), .quiet (.int .i64 0), .quiet (.bool true), .quiet (.bool true), .quiet (.bool true), .quiet (.agg (l2 u3 v3).toArray), .quiet (.agg (l2 u3 v3).toArray), .quiet (.bool true), .quiet (.bool true), .quiet (.bool true), .quiet (.agg (l2 u1 v1).toArray), .quiet (.agg (l2 u1 v1).toArray), .quiet (.bool true), .quiet (.bool true), .quiet (.bool true), .quiet (.agg (l2 u4 v4).toArray), .quiet (.agg (l2 u4 v4).toArray), .quiet (.bool true), .quiet (.bool true), .quiet (.bool true), .quiet (.agg (l2 1 0).toArray), .quiet (.agg (l2 1 0).toArray), .quiet (.bool true), .quiet (.bool true), .quiet (.bool true), .quiet (.bool true), .quiet (PT γ1_0 2), .quiet (.bool false), .quiet (.bool false), .quiet (PT γ1_2 2), .quiet (.bool true), .quiet (.bool true), .quiet (.bool true), .quiet (.bool true), .quiet (.bool true)] H16 ?ho17 ?he17 (hL := ?hL17)
  case hL17 => exact trivial
  case ho17 => exact ak (fun _ => ⟨rfl, fun _ _ => rfl⟩) (ak (fun _ => ⟨rfl, fun _ _ => rfl⟩) (ak (fun _ => ⟨rfl, fun _ _ => rfl⟩) (ak (by refine fun γ => ⟨rfl, fun w' h => ?_⟩; clear h; go_simp) (ak (by refine fun γ => ⟨rfl, fun w' h => ?_⟩; clear h; go_simp) (ak (fun _ => ⟨rfl, fun _ _ => rfl⟩) (ak (fun _ => ⟨rfl, fun _ _ => rfl⟩) (ak (by refine fun γ => ⟨rfl, fun w' h => ?_⟩; clear h; go_simp) (ak (by refine fun γ => ⟨rfl, fun w' h => ?_⟩; clear h; go_simp) (ak (fun _ => ⟨rfl, fun _ _ => rfl⟩) (ak (fun _ => ⟨rfl, fun _ _ => rfl⟩) (ak (by refine fun γ => ⟨rfl, fun w' h => ?_⟩; clear h; go_simp) (ak (by refine fun γ => ⟨rfl, fun w' h => ?_⟩; clear h; go_simp) (ak (fun _ => ⟨rfl, fun _ _ => rfl⟩) (ak (fun _ => ⟨rfl, fun _ _ => rfl⟩) (ak (by refine fun γ => ⟨rfl, fun w' h => ?_⟩; clear h; go_simp) (ak (by refine fun γ => ⟨rfl, fun w' h => ?_⟩; clear h; go_simp) (ak (fun _ => ⟨rfl, fun _ _ => rfl⟩) (ak (fun γ => ⟨rfl, fun w' h => ex_loadT h 7 rfl rfl rfl Try.isAgg49 Try.sizeOf49 rfl rfl⟩) (ak (fun γ => ⟨rfl, fun w' h => ex_loadT h 5 rfl rfl rfl Try.isAgg49 Try.sizeOf49 rfl rfl⟩) (ak (fun γ => ⟨rfl, fun w' _ => exec_eqT49 (fun w => eqL_self _ _ w) rfl rfl rfl⟩) (ak (by refine fun γ => ⟨rfl, fun w' h => ?_⟩; clear h; go_simp) (ak (fun _ => ⟨rfl, fun _ _ => rfl⟩) (ak (fun γ => ⟨rfl, fun w' h => ex_loadT h 6 rfl rfl rfl Try.isAgg49 Try.sizeOf49 rfl rfl⟩) (ak (fun γ => ⟨rfl, fun w' h => ex_loadT h 9 rfl rfl rfl Try.isAgg49 Try.sizeOf49 rfl rfl⟩) (ak (fun γ => ⟨rfl, fun w' _ => exec_eqT49 (fun w => eqL_self _ _ w) rfl rfl rfl⟩) (ak (by refine fun γ => ⟨rfl, fun w' h => ?_⟩; clear h; go_simp) (ak (fun _ => ⟨rfl, fun _ _ => rfl⟩) (ak (fun γ => ⟨rfl, fun w' h => ex_loadT h 2 rfl rfl rfl Try.isAgg49 Try.sizeOf49 rfl rfl⟩) (ak (fun γ => ⟨rfl, fun w' h => ex_loadT h 1 rfl rfl rfl Try.isAgg49 Try.sizeOf49 rfl rfl⟩) (ak (fun γ => ⟨rfl, fun w' _ => exec_eqT49 (fun w => eqL_self _ _ w) rfl rfl rfl⟩) (ak (by refine fun γ => ⟨rfl, fun w' h => ?_⟩; clear h; go_simp) (ak (fun _ => ⟨rfl, fun _ _ => rfl⟩) (ak (fun γ => ⟨rfl, fun w' h => ex_loadT h 0 rfl rfl rfl Try.isAgg49 Try.sizeOf49 rfl rfl⟩) (ak (fun γ => ⟨rfl, fun w' _ => ex_build49_01 rfl rfl rfl⟩) (ak (fun γ => ⟨rfl, fun w' _ => exec_eqT49 (fun w => eqL_self _ _ w) rfl rfl rfl⟩) (ak (by refine fun γ => ⟨rfl, fun w' h => ?_⟩; clear h; go_simp) (ak (fun _ => ⟨rfl, fun _ _ => rfl⟩) (ak (fun _ => ⟨rfl, fun _ _ => rfl⟩) (ak (by refine fun γ => ⟨rfl, fun w' h => ?_⟩; clear h; go_simp) (ak (fun γ => ⟨rfl, fun w' h => ex_loadC h 11 rfl rfl rfl Try.isAgg4 rfl⟩) (ak (fun _ => ⟨rfl, fun _ _ => rfl⟩) (ak (by refine fun γ => ⟨rfl, fun w' h => ?_⟩; clear h; go_simp) (ak (fun γ => ⟨rfl, fun w' h => ex_loadC h 13 rfl rfl rfl Try.isAgg4 rfl⟩) (ak (by refine fun γ => ⟨rfl, fun w' h => ?_⟩; clear h; go_simp) (ak (by refine fun γ => ⟨rfl, fun w' h => ?_⟩; clear h; go_simp) (ak (by refine fun γ => ⟨rfl, fun w' h => ?_⟩; clear h; go_simp) (ak (fun _ => ⟨rfl, fun _ _ => rfl⟩) trivial)))))))))))))))))))))))))))))))))))))))))))))))
  intro _ w17 H17
  clear H16
  refine rest0 rfl (then_normal (wp_ret ?_))
  repeat (first | refine then_ret ?_ | refine block_ret ?_)
  refine bodyPost_ret (v := .bool true) (by simp [results, Try.results7, go_sem, *]) rfl ?_
  exact ⟨rfl, H17.out.2⟩
end Rg
end Go.Proofs.Ytjmbgchoioepjaa
end
section
namespace Go.Proofs.Ytjmbgchoioepjaa
open Go.RowKit
namespace Rg
open NT
set_option maxHeartbeats 4000000 in
set_option maxRecDepth 100000 in
theorem bil_tF (s : Int) (x1 y1 x2 y2 : Nat) (z2 : Bool) (x3 y3 x4 y4 : Nat) (z4 : Bool) (x5 y5 : Nat) (z5 : Bool) (x6 y6 : Nat) (z6 : Bool) (u1 v1 u2 v2 u3 v3 u4 v4 r m n : Nat) (hm : m < 4294967296) (hn : n < 4294967296) (ht : decide ((u1, v1) = ((1, 0) : E2)) = true)
    (c0 : ∀ w, Calls Try.prog 41 #[] w fun e w' => e = .returned (.bool true) ∧ Below w.heap.size w w')
    (c1 : ∀ w, Calls Try.prog 20 #[.int .i64 s, .agg (pt x1 y1 true).toArray] w fun e w' => e = .returned (.bool true) ∧ Below w.heap.size w w')
    (c2 : ∀ w, Calls Try.prog 20 #[.int .i64 s, .agg (pt x2 y2 z2).toArray] w fun e w' => e = .returned (.bool true) ∧ Below w.heap.size w w')
    (c3 : ∀ w, Calls Try.prog 20 #[.int .i64 s, .agg (pt x3 y3 false).toArray] w fun e w' => e = .returned (.bool true) ∧ Below w.heap.size w w')
    (c4 : ∀ w, Calls Try.prog 14 #[.int .i64 s, .agg (pt x1 y1 true).toArray, .agg (pt x2 y2 z2).toArray] w fun e w' => e = .returned (.tuple #[.agg (pt x4 y4 z4).toArray, .int .i64 0]) ∧ Below w.heap.size w w')
    (c5 : ∀ w, Calls Try.prog 27 #[.int .i64 s, .agg (pt x1 y1 true).toArray, .agg (pt x3 y3 false).toArray] w fun e w' => e = .returned (.tuple #[.agg (l2 u1 v1).toArray, .int .i64 0]) ∧ Below w.heap.size w w')
    (c6 : ∀ w, Calls Try.prog 27 #[.int .i64 s, .agg (pt x2 y2 z2).toArray, .agg (pt x3 y3 false).toArray] w fun e w' => e = .returned (.tuple #[.agg (l2 u2 v2).toArray, .int .i64 0]) ∧ Below w.heap.size w w')
    (c7 : ∀ w, Calls Try.prog 27 #[.int .i64 s, .agg (pt x4 y4 z4).toArray, .agg (pt x3 y3 false).toArray] w fun e w' => e = .returned (.tuple #[.agg (l2 u3 v3).toArray, .int .i64 0]) ∧ Below w.heap.size w w')
    (c8 : ∀ w, Calls Try.prog 27 #[.int .i64 s, .agg (pt x3 y3 false).toArray, .agg (pt x1 y1 true).toArray] w fun e w' => e = .returned (.tuple #[.agg (l2 u1 v1).toArray, .int .i64 0]) ∧ Below w.heap.size w w')
    (c9 : ∀ w, Calls Try.prog 27 #[.int .i64 s, .agg (pt x5 y5 z5).toArray, .agg (pt x6 y6 z6).toArray] w fun e w' => e = .returned (.tuple #[.agg (l2 u4 v4).toArray, .int .i64 0]) ∧ Below w.heap.size w w')
    (c10 : ∀ w, Calls Try.prog 28 #[.int .i64 s, .agg (l2 u1 v1).toArray, .agg (l2 u2 v2).toArray] w fun e w' => e = .returned (.tuple #[.agg (l2 u3 v3).toArray, .int .i64 0]) ∧ Below w.heap.size w w')
    (c11 : ∀ w, Calls Try.prog 15 #[.int .i64 s, .agg (pt x1 y1 true).toArray, U m] w fun e w' => e = .returned (.tuple #[.agg (pt x5 y5 z5).toArray, .int .i64 0]) ∧ Below w.heap.size w w')
    (c12 : ∀ w, Calls Try.prog 15 #[.int .i64 s, .agg (pt x3 y3 false).toArray, U n] w fun e w' => e = .returned (.tuple #[.agg (pt x6 y6 z6).toArray, .int .i64 0]) ∧ Below w.heap.size w w')
    (c13 : ∀ w, Calls Try.prog 12 #[.int .i64 s] w fun e w' => e = .returned (.tuple #[U r, .int .i64 0]) ∧ Below w.heap.size w w')
    (c14 : ∀ w, Calls Try.prog 29 #[.int .i64 s, .agg (l2 u1 v1).toArray, U (m * n)] w fun e w' => e = .returned (.tuple #[.agg (l2 u4 v4).toArray, .int .i64 0]) ∧ Below w.heap.size w w')
    (c15 : ∀ w, Calls Try.prog 29 #[.int .i64 s, .agg (l2 u1 v1).toArray, U r] w fun e w' => e = .returned (.tuple #[.agg (l2 1 0).toArray, .int .i64 0]) ∧ Below w.heap.size w w') (w : World) :
    Calls Try.prog 7 #[.int .i64 s, .agg (pt x1 y1 true).toArray, .agg (pt x2 y2 z2).toArray, .agg (pt x3 y3 false).toArray, W32 m, W32 n] w fun e w' => e = .returned (.bool true) ∧ Below w.heap.size w w' := by
  have H0 : Hid (_ ∧ _) := ⟨Mm.nil w, Below.refl w.heap.size w⟩
  have C0 : Hid _ := c0
  have C1 : Hid _ := c1
  have C2 : Hid _ := c2
  have C3 : Hid _ := c3
  have C4 : Hid _ := c4
  have C5 : Hid _ := c5
  have C6 : Hid _ := c6
  have C7 : Hid _ := c7
  have C8 : Hid _ := c8
  have C9 : Hid _ := c9
  have C10 : Hid _ := c10
  have C11 : Hid _ := c11
  have C12 : Hid _ := c12
  have C13 : Hid _ := c13
  have C14 : Hid _ := c14
  have C15 : Hid _ := c15
  clear c0 c1 c2 c3 c4 c5 c6 c7 c8 c9 c10 c11 c12 c13 c14 c15
  go_enter Try.func7, Try.ntmps7
  refine wp_seq ?_
  refine walk_seqA 4 [.made (pt x1 y1 true) 25, .made (pt x2 y2 z2) 25, .made (pt x3 y3 false) 25, .quiet (.bool false)] (sB H0) ?ho1 ?he1
  case ho1 => exact ak (fun γ => ⟨rfl, fun w' => ex_boxT rfl rfl⟩) (ak (fun γ => ⟨rfl, fun w' => ex_boxT rfl rfl⟩) (ak (fun γ => ⟨rfl, fun w' => ex_boxT rfl rfl⟩) (ak (fun _ => ⟨rfl, fun _ _ => rfl⟩) trivial)))
  intro γ w1 l hM hl
  have H1 : Hid (Mm w1 [(γ 0, pt x1 y1 true), (γ 1, pt x2 y2 z2), (γ 2, pt x3 y3 false)] ∧ _) := growB H0 hM (Nat.le_refl _) hl [0, 1, 2] rfl (by decide)
  have o1_0 := ownB H0 hM (Nat.le_refl _) hl (i := 0) rfl
  have o1_1 := ownB H0 hM (Nat.le_refl _) hl (i := 1) rfl
  have o1_2 := ownB H0 hM (Nat.le_refl _) hl (i := 2) rfl
  clear hM hl l
  generalize γ 0 = γ1_0 at H1 o1_0 ⊢
  generalize γ 1 = γ1_1 at H1 o1_1 ⊢
  generalize γ 2 = γ1_2 at H1 o1_2 ⊢
  clear γ
  refine rest0 rfl (then_normal (wp_seq ?_))
  refine walk_seqB 2 [.call (.bool true), .quiet (.bool true)] H1 ?ho2 ?he2
  case ho2 => exact ak (fun γ => ⟨rfl, fun w' h => ⟨41, #[], exec_call rfl call41 rfl (mpn rfl), C0.out w'⟩⟩) (ak (fun _ => ⟨rfl, fun _ _ => rfl⟩) trivial)
  intro _ w2 H2
  clear H1
  refine rest0 rfl (then_normal (wp_seq (wp_seq ?_)))
  refine walk_seqB 16 [.quiet (.int .i64 s), .quiet (.agg (pt x1 y1 true).toArray), .call (.bool true), .quiet (.bool false), .quiet (.bool false), .quiet (.int .i64 s), .quiet (.agg (pt x2 y2 z2).toArray), .call (.bool true), .quiet (.bool false), .quiet (.bool false), .quiet (.bool false), .quiet (.int .i64 s), .quiet (.agg (pt x3 y3 false).toArray), .call (.bool true), .quiet (.bool false), .quiet (.bool false)] H2 ?ho3 ?he3
  case ho3 => exact ak (fun _ => ⟨rfl, fun _ _ => rfl⟩) (ak (fun γ => ⟨rfl, fun w' h => ex_loadT h 0 rfl rfl rfl Try.isAgg25 Try.sizeOf25 rfl rfl⟩) (ak (fun γ => ⟨rfl, fun w' h => ⟨20, #[.int .i64 s, .agg (pt x1 y1 true).toArray], exec_call rfl call20 rfl (mpn rfl), C1.out w'⟩⟩) (ak (by refine fun γ => ⟨rfl, fun w' h => ?_⟩; clear h; go_simp) (ak (fun _ => ⟨rfl, fun _ _ => rfl⟩) (ak (fun _ => ⟨rfl, fun _ _ => rfl⟩) (ak (fun γ => ⟨rfl, fun w' h => ex_loadT h 1 rfl rfl rfl Try.isAgg25 Try.sizeOf25 rfl rfl⟩) (ak (fun γ => ⟨rfl, fun w' h => ⟨20, #[.int .i64 s, .agg (pt x2 y2 z2).toArray], exec_call rfl call20 rfl (mpn rfl), C2.out w'⟩⟩) (ak (by refine fun γ => ⟨rfl, fun w' h => ?_⟩; clear h; go_simp) (ak (by refine fun γ => ⟨rfl, fun w' h => ?_⟩; clear h; go_simp) (ak (fun _ => ⟨rfl, fun _ _ => rfl⟩) (ak (fun _ => ⟨rfl, fun _ _ => rfl⟩) (ak (fun γ => ⟨rfl, fun w' h => ex_loadT h 2 rfl rfl rfl Try.isAgg25 Try.sizeOf25 rfl rfl⟩) (ak (fun γ => ⟨rfl, fun w' h => ⟨20, #[.int .i64 s, .agg (pt x3 y3 false).toArray], exec_call rfl call20 rfl (mpn rfl), C3.out w'⟩⟩) (ak (by refine fun γ => ⟨rfl, fun w' h => ?_⟩; clear h; go_simp) (ak (by refine fun γ => ⟨rfl, fun w' h => ?_⟩; clear h; go_simp) trivial)))))))))))))))
  intro _ w3 H3
  clear H2
  refine rest0 rfl (then_normal (wp_cond_false rfl ?_))
  refine wp_skip (then_normal (wp_seq ?_))
  refine walk_seqA 10 [.quiet (.int .i64 s), .quiet (.agg (pt x1 y1 true).toArray), .quiet (.agg (pt x2 y2 z2).toArray), .call (.tuple #[.agg (pt x4 y4 z4).toArray, .int .i64 0]), .quiet (.tuple #[.agg (pt x4 y4 z4).toArray, .int .i64 0]), .quiet (.agg (pt x4 y4 z4).toArray), .quiet (.int .i64 0), .made (pt 0 0 false) 25, .laid 7 (pt 0 0 false) (pt x4 y4 z4), .quiet (.int .i64 0)] (sB H3) ?ho4 ?he4 (hL := ?hL4)
  case hL4 => exact ⟨⟨_, rfl⟩, trivial⟩
  case ho4 => exact ak (fun _ => ⟨rfl, fun _ _ => rfl⟩) (ak (fun γ => ⟨rfl, fun w' h => ex_loadT h 0 rfl rfl rfl Try.isAgg25 Try.sizeOf25 rfl rfl⟩) (ak (fun γ => ⟨rfl, fun w' h => ex_loadT h 1 rfl rfl rfl Try.isAgg25 Try.sizeOf25 rfl rfl⟩) (ak (fun γ => ⟨rfl, fun w' h => ⟨14, #[.int .i64 s, .agg (pt x1 y1 true).toArray, .agg (pt x2 y2 z2).toArray], exec_call rfl call14 rfl (mpn rfl), C4.out w'⟩⟩) (ak (fun _ => ⟨rfl, fun _ _ => rfl⟩) (ak (by refine fun γ => ⟨rfl, fun w' h => ?_⟩; clear h; go_simp) (ak (by refine fun γ => ⟨rfl, fun w' h => ?_⟩; clear h; go_simp) (ak (fun γ => ⟨rfl, fun w' => ex_made25 rfl⟩) (ak (fun γ => ⟨rfl, rfl, rfl, fun w' h => ex_laidT h rfl rfl Try.sizeOf25 rfl rfl rfl⟩) (ak (fun _ => ⟨rfl, fun _ _ => rfl⟩) trivial)))))))))
  intro γ w4 l hM hl
  have H4 : Hid (Mm w4 [(γ 7, pt x4 y4 z4), (γ1_0, pt x1 y1 true), (γ1_1, pt x2 y2 z2), (γ1_2, pt x3 y3 false)] ∧ _) := growB H3 hM (Nat.le_refl _) hl [7] rfl (by decide)
  have o4_7 := ownB H3 hM (Nat.le_refl _) hl (i := 7) rfl
  clear hM hl l H3
  generalize γ 7 = γ4_7 at H4 o4_7 ⊢
  clear γ
  refine rest0 rfl (then_normal (wp_seq ?_))
  refine walk_seqA 10 [.quiet (.int .i64 s), .quiet (.agg (pt x1 y1 true).toArray), .quiet (.agg (pt x3 y3 false).toArray), .call (.tuple #[.agg (l2 u1 v1).toArray, .int .i64 0]), .quiet (.tuple #[.agg (l2 u1 v1).toArray, .int .i64 0]), .quiet (.agg (l2 u1 v1).toArray), .quiet (.int .i64 0), .made (l2 0 0) 49, .laid 7 (l2 0 0) (l2 u1 v1), .quiet (.int .i64 0)] (sB H4) ?ho5 ?he5 (hL := ?hL5)
  case hL5 => exact ⟨⟨_, rfl⟩, trivial⟩
  case ho5 => exact ak (fun _ => ⟨rfl, fun _ _ => rfl⟩) (ak (fun γ => ⟨rfl, fun w' h => ex_loadT h 1 rfl rfl rfl Try.isAgg25 Try.sizeOf25 rfl rfl⟩) (ak (fun γ => ⟨rfl, fun w' h => ex_loadT h 3 rfl rfl rfl Try.isAgg25 Try.sizeOf25 rfl rfl⟩) (ak (fun γ => ⟨rfl, fun w' h => ⟨27, #[.int .i64 s, .agg (pt x1 y1 true).toArray, .agg (pt x3 y3 false).toArray], exec_call rfl call27 rfl (mpn rfl), C5.out w'⟩⟩) (ak (fun _ => ⟨rfl, fun _ _ => rfl⟩) (ak (by refine fun γ => ⟨rfl, fun w' h => ?_⟩; clear h; go_simp) (ak (by refine fun γ => ⟨rfl, fun w' h => ?_⟩; clear h; go_simp) (ak (fun γ => ⟨rfl, fun w' => ex_made49 rfl⟩) (ak (fun γ => ⟨rfl, rfl, rfl, fun w' h => ex_laidT h rfl rfl Try.sizeOf49 rfl rfl rfl⟩) (ak (fun _ => ⟨rfl, fun _ _ => rfl⟩) trivial)))))))))
  intro γ w5 l hM hl
  have H5 : Hid (Mm w5 [(γ 7, l2 u1 v1), (γ4_7, pt x4 y4 z4), (γ1_0, pt x1 y1 true), (γ1_1, pt x2 y2 z2), (γ1_2, pt x3 y3 false)] ∧ _) := growB H4 hM (Nat.le_refl _) hl [7] rfl (by decide)
  have o5_7 := ownB H4 hM (Nat.le_refl _) hl (i := 7) rfl
  clear hM hl l H4
  generalize γ 7 = γ5_7 at H5 o5_7 ⊢
  clear γ
  refine rest0 rfl (then_normal (wp_seq ?_))
  refine walk_seqA 10 [.quiet (.int .i64 s), .quiet (.agg (pt x2 y2 z2).toArray), .quiet (.agg (pt x3 y3 false).toArray), .call (.tuple #[.agg (l2 u2 v2).toArray, .int .i64 0]), .quiet (.tuple #[.agg (l2 u2 v2).toArray, .int .i64 0]), .quiet (.agg (l2 u2 v2).toArray), .quiet (.int .i64 0), .made (l2 0 0) 49, .laid 7 (l2 0 0) (l2 u2 v2), .quiet (.int .i64 0)] (sB H5) ?ho6 ?he6 (hL := ?hL6)
  case hL6 => exact ⟨⟨_, rfl⟩, trivial⟩
  case ho6 => exact ak (fun _ => ⟨rfl, fun _ _ => rfl⟩) (ak (fun γ => ⟨rfl, fun w' h => ex_loadT h 3 rfl rfl rfl Try.isAgg25 Try.sizeOf25 rfl rfl⟩) (ak (fun γ => ⟨rfl, fun w' h => ex_loadT h 4 rfl rfl rfl Try.isAgg25 Try.sizeOf25 rfl rfl⟩) (ak (fun γ => ⟨rfl, fun w' h => ⟨27, #[.int .i64 s, .agg (pt x2 y2 z2).toArray, .agg (pt x3 y3 false).toArray], exec_call rfl call27 rfl (mpn rfl), C6.out w'⟩⟩) (ak (fun _ => ⟨rfl, fun _ _ => rfl⟩) (ak (by refine fun γ => ⟨rfl, fun w' h => ?_⟩; clear h; go_simp) (ak (by refine fun γ => ⟨rfl, fun w' h => ?_⟩; clear h; go_simp) (ak (fun γ => ⟨rfl, fun w' => ex_made49 rfl⟩) (ak (fun γ => ⟨rfl, rfl, rfl, fun w' h => ex_laidT h rfl rfl Try.sizeOf49 rfl rfl rfl⟩) (ak (fun _ => ⟨rfl, fun _ _ => rfl⟩) trivial)))))))))
  intro γ w6 l hM hl
  have H6 : Hid (Mm w6 [(γ 7, l2 u2 v2), (γ5_7, l2 u1 v1), (γ4_7, pt x4 y4 z4), (γ1_0, pt x1 y1 true), (γ1_1, pt x2 y2 z2), (γ1_2, pt x3 y3 false)] ∧ _) := growB H5 hM (Nat.le_refl _) hl [7] rfl (by decide)
  have o6_7 := ownB H5 hM (Nat.le_refl _) hl (i := 7) rfl
  clear hM hl l H5
  generalize γ 7 = γ6_7 at H6 o6_7 ⊢
  clear γ
  refine rest0 rfl (then_normal (wp_seq ?_))
  refine walk_seqA 10 [.quiet (.int .i64 s), .quiet (.agg (pt x4 y4 z4).toArray), .quiet (.agg (pt x3 y3 false).toArray), .call (.tuple #[.agg (l2 u3 v3).toArray, .int .i64 0]), .quiet (.tuple #[.agg (l2 u3 v3).toArray, .int .i64 0]), .quiet (.agg (l2 u3 v3).toArray), .quiet (.int .i64 0), .made (l2 0 0) 49, .laid 7 (l2 0 0) (l2 u3 v3), .quiet (.int .i64 0)] (sB H6) ?ho7 ?he7 (hL := ?hL7)
  case hL7 => exact ⟨⟨_, rfl⟩, trivial⟩
  case ho7 => exact ak (fun _ => ⟨rfl, fun _ _ => rfl⟩) (ak (fun γ => ⟨rfl, fun w' h => ex_loadT h 2 rfl rfl rfl Try.isAgg25 Try.sizeOf25 rfl rfl⟩) (ak (fun γ => ⟨rfl, fun w' h => ex_loadT h 5 rfl rfl rfl Try.isAgg25 Try.sizeOf25 rfl rfl⟩) (ak (fun γ => ⟨rfl, fun w' h => ⟨27, #[.int .i64 s, .agg (pt x4 y4 z4).toArray, .agg (pt x3 y3 false).toArray], exec_call rfl call27 rfl (mpn rfl), C7.out w'⟩⟩) (ak (fun _ => ⟨rfl, fun _ _ => rfl⟩) (ak (by refine fun γ => ⟨rfl, fun w' h => ?_⟩; clear h; go_simp) (ak (by refine fun γ => ⟨rfl, fun w' h => ?_⟩; clear h; go_simp) (ak (fun γ => ⟨rfl, fun w' => ex_made49 rfl⟩) (ak (fun γ => ⟨rfl, rfl, rfl, fun w' h => ex_laidT h rfl rfl Try.sizeOf49 rfl rfl rfl⟩) (ak (fun _ => ⟨rfl, fun _ _ => rfl⟩) trivial)))))))))
  intro γ w7 l hM hl
  have H7 : Hid (Mm w7 [(γ 7, l2 u3 v3), (γ6_7, l2 u2 v2), (γ5_7, l2 u1 v1), (γ4_7, pt x4 y4 z4), (γ1_0, pt x1 y1 true), (γ1_1, pt x2 y2 z2), (γ1_2, pt x3 y3 false)] ∧ _) := growB H6 hM (Nat.le_refl _) hl [7] rfl (by decide)
  have o7_7 := ownB H6 hM (Nat.le_refl _) hl (i := 7) rfl
  clear hM hl l H6
  generalize γ 7 = γ7_7 at H7 o7_7 ⊢
  clear γ
  refine rest0 rfl (then_normal (wp_seq ?_))
  refine walk_seqA 10 [.quiet (.int .i64 s), .quiet (.agg (pt x3 y3 false).toArray), .quiet (.agg (pt x1 y1 true).toArray), .call (.tuple #[.agg (l2 u1 v1).toArray, .int .i64 0]), .quiet (.tuple #[.agg (l2 u1 v1).toArray, .int .i64 0]), .quiet (.agg (l2 u1 v1).toArray), .quiet (.int .i64 0), .made (l2 0 0) 49, .laid 7 (l2 0 0) (l2 u1 v1), .quiet (.int .i64 0)] (sB H7) ?ho8 ?he8 (hL := ?hL8)
  case hL8 => exact ⟨⟨_, rfl⟩, trivial⟩
  case ho8 => exact ak (fun _ => ⟨rfl, fun _ _ => rfl⟩) (ak (fun γ => ⟨rfl, fun w' h => ex_loadT h 6 rfl rfl rfl Try.isAgg25 Try.sizeOf25 rfl rfl⟩) (ak (fun γ => ⟨rfl, fun w' h => ex_loadT h 4 rfl rfl rfl Try.isAgg25 Try.sizeOf25 rfl rfl⟩) (ak (fun γ => ⟨rfl, fun w' h => ⟨27, #[.int .i64 s, .agg (pt x3 y3 false).toArray, .agg (pt x1 y1 true).toArray], exec_call rfl call27 rfl (mpn rfl), C8.out w'⟩⟩) (ak (fun _ => ⟨rfl, fun _ _ => rfl⟩) (ak (by refine fun γ => ⟨rfl, fun w' h => ?_⟩; clear h; go_simp) (ak (by refine fun γ => ⟨rfl, fun w' h => ?_⟩; clear h; go_simp) (ak (fun γ => ⟨rfl, fun w' => ex_made49 rfl⟩) (ak (fun γ => ⟨rfl, rfl, rfl, fun w' h => ex_laidT h rfl rfl Try.sizeOf49 rfl rfl rfl⟩) (ak (fun _ => ⟨rfl, fun _ _ => rfl⟩) trivial)))))))))
  intro γ w8 l hM hl
  have H8 : Hid (Mm w8 [(γ 7, l2 u1 v1), (γ7_7, l2 u3 v3), (γ6_7, l2 u2 v2), (γ5_7, l2 u1 v1), (γ4_7, pt x4 y4 z4), (γ1_0, pt x1 y1 true), (γ1_1, pt x2 y2 z2), (γ1_2, pt x3 y3 false)] ∧ _) := growB H7 hM (Nat.le_refl _) hl [7] rfl (by decide)
  have o8_7 := ownB H7 hM (Nat.le_refl _) hl (i := 7) rfl
  clear hM hl l H7
  generalize γ 7 = γ8_7 at H8 o8_7 ⊢
  clear γ
  refine rest0 rfl (then_normal (wp_seq ?_))
  refine walk_seqA 10 [.quiet (.int .i64 s), .quiet (.agg (l2 u1 v1).toArray), .quiet (.agg (l2 u2 v2).toArray), .call (.tuple #[.agg (l2 u3 v3).toArray, .int .i64 0]), .quiet (.tuple #[.agg (l2 u3 v3).toArray, .int .i64 0]), .quiet (.agg (l2 u3 v3).toArray), .quiet (.int .i64 0), .made (l2 0 0) 49, .laid 7 (l2 0 0) (l2 u3 v3), .quiet (.int .i64 0)] (sB H8) ?ho9 ?he9 (hL := ?hL9)
  case hL9 => exact ⟨⟨_, rfl⟩, trivial⟩
  case ho9 => exact ak (fun _ => ⟨rfl, fun _ _ => rfl⟩) (ak (fun γ => ⟨rfl, fun w' h => ex_loadT h 3 rfl rfl rfl Try.isAgg49 Try.sizeOf49 rfl rfl⟩) (ak (fun γ => ⟨rfl, fun w' h => ex_loadT h 2 rfl rfl rfl Try.isAgg49 Try.sizeOf49 rfl rfl⟩) (ak (fun γ => ⟨rfl, fun w' h => ⟨28, #[.int .i64 s, .agg (l2 u1 v1).toArray, .agg (l2 u2 v2).toArray], exec_call rfl call28 rfl (mpn rfl), C10.out w'⟩⟩) (ak (fun _ => ⟨rfl, fun _ _ => rfl⟩) (ak (by refine fun γ => ⟨rfl, fun w' h => ?_⟩; clear h; go_simp) (ak (by refine fun γ => ⟨rfl, fun w' h => ?_⟩; clear h; go_simp) (ak (fun γ => ⟨rfl, fun w' => ex_made49 rfl⟩) (ak (fun γ => ⟨rfl, rfl, rfl, fun w' h => ex_laidT h rfl rfl Try.sizeOf49 rfl rfl rfl⟩) (ak (fun _ => ⟨rfl, fun _ _ => rfl⟩) trivial)))))))))
  intro γ w9 l hM hl
  have H9 : Hid (Mm w9 [(γ 7, l2 u3 v3), (γ8_7, l2 u1 v1), (γ7_7, l2 u3 v3), (γ6_7, l2 u2 v2), (γ5_7, l2 u1 v1), (γ4_7, pt x4 y4 z4), (γ1_0, pt x1 y1 true), (γ1_1, pt x2 y2 z2), (γ1_2, pt x3 y3 false)] ∧ _) := growB H8 hM (Nat.le_refl _) hl [7] rfl (by decide)
  have o9_7 := ownB H8 hM (Nat.le_refl _) hl (i := 7) rfl
  clear hM hl l H8
  generalize γ 7 = γ9_7 at H9 o9_7 ⊢
  clear γ
  refine rest0 rfl (then_normal (wp_seq ?_))
  refine walk_seqA 11 [.quiet (.int .i64 s), .quiet (.agg (pt x1 y1 true).toArray), .quiet (W32 m), .quiet (U m), .call (.tuple #[.agg (pt x5 y5 z5).toArray, .int .i64 0]), .quiet (.tuple #[.agg (pt x5 y5 z5).toArray, .int .i64 0]), .quiet (.agg (pt x5 y5 z5).toArray), .quiet (.int .i64 0), .made (pt 0 0 false) 25, .laid 8 (pt 0 0 false) (pt x5 y5 z5), .quiet (.int .i64 0)] (sB H9) ?ho10 ?he10 (hL := ?hL10)
  case hL10 => exact ⟨⟨_, rfl⟩, trivial⟩
  case ho10 => exact ak (fun _ => ⟨rfl, fun _ _ => rfl⟩) (ak (fun γ => ⟨rfl, fun w' h => ex_loadT h 6 rfl rfl rfl Try.isAgg25 Try.sizeOf25 rfl rfl⟩) (ak (fun _ => ⟨rfl, fun _ _ => rfl⟩) (ak (fun γ => ⟨rfl, fun w' _ => ex_cv32 hm rfl rfl⟩) (ak (fun γ => ⟨rfl, fun w' h => ⟨15, #[.int .i64 s, .agg (pt x1 y1 true).toArray, U m], exec_call rfl call15 rfl (mpn rfl), C11.out w'⟩⟩) (ak (fun _ => ⟨rfl, fun _ _ => rfl⟩) (ak (by refine fun γ => ⟨rfl, fun w' h => ?_⟩; clear h; go_simp) (ak (by refine fun γ => ⟨rfl, fun w' h => ?_⟩; clear h; go_simp) (ak (fun γ => ⟨rfl, fun w' => ex_made25 rfl⟩) (ak (fun γ => ⟨rfl, rfl, rfl, fun w' h => ex_laidT h rfl rfl Try.sizeOf25 rfl rfl rfl⟩) (ak (fun _ => ⟨rfl, fun _ _ => rfl⟩) trivial))))))))))
  intro γ w10 l hM hl
  have H10 : Hid (Mm w10 [(γ 8, pt x5 y5 z5), (γ9_7, l2 u3 v3), (γ8_7, l2 u1 v1), (γ7_7, l2 u3 v3), (γ6_7, l2 u2 v2), (γ5_7, l2 u1 v1), (γ4_7, pt x4 y4 z4), (γ1_0, pt x1 y1 true), (γ1_1, pt x2 y2 z2), (γ1_2, pt x3 y3 false)] ∧ _) := growB H9 hM (Nat.le_refl _) hl [8] rfl (by decide)
  have o10_8 := ownB H9 hM (Nat.le_refl _) hl (i := 8) rfl
  clear hM hl l H9
  generalize γ 8 = γ10_8 at H10 o10_8 ⊢
  clear γ
  refine rest0 rfl (then_normal (wp_seq ?_))
  refine walk_seqA 11 [.quiet (.int .i64 s), .quiet (.agg (pt x3 y3 false).toArray), .quiet (W32 n), .quiet (U n), .call (.tuple #[.agg (pt x6 y6 z6).toArray, .int .i64 0]), .quiet (.tuple #[.agg (pt x6 y6 z6).toArray, .int .i64 0]), .quiet (.agg (pt x6 y6 z6).toArray), .quiet (.int .i64 0), .made (pt 0 0 false) 25, .laid 8 (pt 0 0 false) (pt x6 y6 z6), .quiet (.int .i64 0)] (sB H10) ?ho11 ?he11 (hL := ?hL11)
  case hL11 => exact ⟨⟨_, rfl⟩, trivial⟩
  case ho11 => exact ak (fun _ => ⟨rfl, fun _ _ => rfl⟩) (ak (fun γ => ⟨rfl, fun w' h => ex_loadT h 9 rfl rfl rfl Try.isAgg25 Try.sizeOf25 rfl rfl⟩) (ak (fun _ => ⟨rfl, fun _ _ => rfl⟩) (ak (fun γ => ⟨rfl, fun w' _ => ex_cv32 hn rfl rfl⟩) (ak (fun γ => ⟨rfl, fun w' h => ⟨15, #[.int .i64 s, .agg (pt x3 y3 false).toArray, U n], exec_call rfl call15 rfl (mpn rfl), C12.out w'⟩⟩) (ak (fun _ => ⟨rfl, fun _ _ => rfl⟩) (ak (by refine fun γ => ⟨rfl, fun w' h => ?_⟩; clear h; go_simp) (ak (by refine fun γ => ⟨rfl, fun w' h => ?_⟩; clear h; go_simp) (ak (fun γ => ⟨rfl, fun w' => ex_made25 rfl⟩) (ak (fun γ => ⟨rfl, rfl, rfl, fun w' h => ex_laidT h rfl rfl Try.sizeOf25 rfl rfl rfl⟩) (ak (fun _ => ⟨rfl, fun _ _ => rfl⟩) trivial))))))))))
  intro γ w11 l hM hl
  have H11 : Hid (Mm w11 [(γ 8, pt x6 y6 z6), (γ10_8, pt x5 y5 z5), (γ9_7, l2 u3 v3), (γ8_7, l2 u1 v1), (γ7_7, l2 u3 v3), (γ6_7, l2 u2 v2), (γ5_7, l2 u1 v1), (γ4_7, pt x4 y4 z4), (γ1_0, pt x1 y1 true), (γ1_1, pt x2 y2 z2), (γ1_2, pt x3 y3 false)] ∧ _) := growB H10 hM (Nat.le_refl _) hl [8] rfl (by decide)
  have o11_8 := ownB H10 hM (Nat.le_refl _) hl (i := 8) rfl
  clear hM hl l H10
  generalize γ 8 = γ11_8 at H11 o11_8 ⊢
  clear γ
  refine rest0 rfl (then_normal (wp_seq ?_))
  refine walk_seqA 10 [.quiet (.int .i64 s), .quiet (.agg (pt x5 y5 z5).toArray), .quiet (.agg (pt x6 y6 z6).toArray), .call (.tuple #[.agg (l2 u4 v4).toArray, .int .i64 0]), .quiet (.tuple #[.agg (l2 u4 v4).toArray, .int .i64 0]), .quiet (.agg (l2 u4 v4).toArray), .quiet (.int .i64 0), .made (l2 0 0) 49, .laid 7 (l2 0 0) (l2 u4 v4), .quiet (.int .i64 0)] (sB H11) ?ho12 ?he12 (hL := ?hL12)
  case hL12 => exact ⟨⟨_, rfl⟩, trivial⟩
  case ho12 => exact ak (fun _ => ⟨rfl, fun _ _ => rfl⟩) (ak (fun γ => ⟨rfl, fun w' h => ex_loadT h 1 rfl rfl rfl Try.isAgg25 Try.sizeOf25 rfl rfl⟩) (ak (fun γ => ⟨rfl, fun w' h => ex_loadT h 0 rfl rfl rfl Try.isAgg25 Try.sizeOf25 rfl rfl⟩) (ak (fun γ => ⟨rfl, fun w' h => ⟨27, #[.int .i64 s, .agg (pt x5 y5 z5).toArray, .agg (pt x6 y6 z6).toArray], exec_call rfl call27 rfl (mpn rfl), C9.out w'⟩⟩) (ak (fun _ => ⟨rfl, fun _ _ => rfl⟩) (ak (by refine fun γ => ⟨rfl, fun w' h => ?_⟩; clear h; go_simp) (ak (by refine fun γ => ⟨rfl, fun w' h => ?_⟩; clear h; go_simp) (ak (fun γ => ⟨rfl, fun w' => ex_made49 rfl⟩) (ak (fun γ => ⟨rfl, rfl, rfl, fun w' h => ex_laidT h rfl rfl Try.sizeOf49 rfl rfl rfl⟩) (ak (fun _ => ⟨rfl, fun _ _ => rfl⟩) trivial)))))))))
  intro γ w12 l hM hl
  have H12 : Hid (Mm w12 [(γ 7, l2 u4 v4), (γ11_8, pt x6 y6 z6), (γ10_8, pt x5 y5 z5), (γ9_7, l2 u3 v3), (γ8_7, l2 u1 v1), (γ7_7, l2 u3 v3), (γ6_7, l2 u2 v2), (γ5_7, l2 u1 v1), (γ4_7, pt x4 y4 z4), (γ1_0, pt x1 y1 true), (γ1_1, pt x2 y2 z2), (γ1_2, pt x3 y3 false)] ∧ _) := growB H11 hM (Nat.le_refl _) hl [7] rfl (by decide)
  have o12_7 := ownB H11 hM (Nat.le_refl _) hl (i := 7) rfl
  clear hM hl l H11
  generalize γ 7 = γ12_7 at H12 o12_7 ⊢
  clear γ
  refine rest0 rfl (then_normal (wp_seq ?_))
  refine walk_seqA 14 [.quiet (.int .i64 s), .quiet (.agg (l2 u1 v1).toArray), .quiet (W32 m), .quiet (U m), .quiet (W32 n), .quiet (U n), .quiet (U (m * n)), .call (.tuple #[.agg (l2 u4 v4).toArray, .int .i64 0]), .quiet (.tuple #[.agg (l2 u4 v4).toArray, .int .i64 0]), .quiet (.agg (l2 u4 v4).toArray), .quiet (.int .i64 0), .made (l2 0 0) 49, .laid 11 (l2 0 0) (l2 u4 v4), .quiet (.int .i64 0)] (sB H12) ?ho13 ?he13 (hL := ?hL13)
  case hL13 => exact ⟨⟨_, rfl⟩, trivial⟩
  case ho13 => exact ak (fun _ => ⟨rfl, fun _ _ => rfl⟩) (ak (fun γ => ⟨rfl, fun w' h => ex_loadT h 7 rfl rfl rfl Try.isAgg49 Try.sizeOf49 rfl rfl⟩) (ak (fun _ => ⟨rfl, fun _ _ => rfl⟩) (ak (fun γ => ⟨rfl, fun w' _ => ex_cv32 hm rfl rfl⟩) (ak (fun _ => ⟨rfl, fun _ _ => rfl⟩) (ak (fun γ => ⟨rfl, fun w' _ => ex_cv32 hn rfl rfl⟩) (ak (fun γ => ⟨rfl, fun w' _ => ex_mulU (mul32 hm hn) rfl rfl rfl⟩) (ak (fun γ => ⟨rfl, fun w' h => ⟨29, #[.int .i64 s, .agg (l2 u1 v1).toArray, U (m * n)], exec_call rfl call29 rfl (mpn rfl), C14.out w'⟩⟩) (ak (fun _ => ⟨rfl, fun _ _ => rfl⟩) (ak (by refine fun γ => ⟨rfl, fun w' h => ?_⟩; clear h; go_simp) (ak (by refine fun γ => ⟨rfl, fun w' h => ?_⟩; clear h; go_simp) (ak (fun γ => ⟨rfl, fun w' => ex_made49 rfl⟩) (ak (fun γ => ⟨rfl, rfl, rfl, fun w' h => ex_laidT h rfl rfl Try.sizeOf49 rfl rfl rfl⟩) (ak (fun _ => ⟨rfl, fun _ _ => rfl⟩) trivial)))))))))))))
  intro γ w13 l hM hl
  have H13 : Hid (Mm w13 [(γ 11, l2 u4 v4), (γ12_7, l2 u4 v4), (γ11_8, pt x6 y6 z6), (γ10_8, pt x5 y5 z5), (γ9_7, l2 u3 v3), (γ8_7, l2 u1 v1), (γ7_7, l2 u3 v3), (γ6_7, l2 u2 v2), (γ5_7, l2 u1 v1), (γ4_7, pt x4 y4 z4), (γ1_0, pt x1 y1 true), (γ1_1, pt x2 y2 z2), (γ1_2, pt x3 y3 false)] ∧ _) := growB H12 hM (Nat.le_refl _) hl [11] rfl (by decide)
  have o13_11 := ownB H12 hM (Nat.le_refl _) hl (i := 11) rfl
  clear hM hl l H12
  generalize γ 11 = γ13_11 at H13 o13_11 ⊢
  clear γ
  refine rest0 rfl (then_normal (wp_seq ?_))
  refine walk_seqB 7 [.quiet (.int .i64 s), .call (.tuple #[U r, .int .i64 0]), .quiet (.tuple #[U r, .int .i64 0]), .quiet (U r), .quiet (.int .i64 0), .quiet (U r), .quiet (.int .i64 0)] H13 ?ho14 ?he14
  case ho14 => exact ak (fun _ => ⟨rfl, fun _ _ => rfl⟩) (ak (fun γ => ⟨rfl, fun w' h => ⟨12, #[.int .i64 s], exec_call rfl call12 rfl (mpn rfl), C13.out w'⟩⟩) (ak (fun _ => ⟨rfl, fun _ _ => rfl⟩) (ak (by refine fun γ => ⟨rfl, fun w' h => ?_⟩; clear h; go_simp) (ak (by refine fun γ => ⟨rfl, fun w' h => ?_⟩; clear h; go_simp) (ak (fun _ => ⟨rfl, fun _ _ => rfl⟩) (ak (fun _ => ⟨rfl, fun _ _ => rfl⟩) trivial))))))
  intro _ w14 H14
  clear H13
  refine rest0 rfl (then_normal (wp_seq ?_))
  refine walk_seqA 10 [.quiet (.int .i64 s), .quiet (.agg (l2 u1 v1).toArray), .quiet (U r), .call (.tuple #[.agg (l2 1 0).toArray, .int .i64 0]), .quiet (.tuple #[.agg (l2 1 0).toArray, .int .i64 0]), .quiet (.agg (l2 1 0).toArray), .quiet (.int .i64 0), .made (l2 0 0) 49, .laid 7 (l2 0 0) (l2 1 0), .quiet (.int .i64 0)] (sB H14) ?ho15 ?he15 (hL := ?hL15)
  case hL15 => exact ⟨⟨_, rfl⟩, trivial⟩
  case ho15 => exact ak (fun _ => ⟨rfl, fun _ _ => rfl⟩) (ak (fun γ => ⟨rfl, fun w' h => ex_loadT h 8 rfl rfl rfl Try.isAgg49 Try.sizeOf49 rfl rfl⟩) (ak (fun _ => ⟨rfl, fun _ _ => rfl⟩) (ak (fun γ => ⟨rfl, fun w' h => ⟨29, #[.int .i64 s, .agg (l2 u1 v1).toArray, U r], exec_call rfl call29 rfl (mpn rfl), C15.out w'⟩⟩) (ak (fun _ => ⟨rfl, fun _ _ => rfl⟩) (ak (by refine fun γ => ⟨rfl, fun w' h => ?_⟩; clear h; go_simp) (ak (by refine fun γ => ⟨rfl, fun w' h => ?_⟩; clear h; go_simp) (ak (fun γ => ⟨rfl, fun w' => ex_made49 rfl⟩) (ak (fun γ => ⟨rfl, rfl, rfl, fun w' h => ex_laidT h rfl rfl Try.sizeOf49 rfl rfl rfl⟩) (ak (fun _ => ⟨rfl, fun _ _ => rfl⟩) trivial)))))))))
  intro γ w15 l hM hl
  have H15 : Hid (Mm w15 [(γ 7, l2 1 0), (γ13_11, l2 u4 v4), (γ12_7, l2 u4 v4), (γ11_8, pt x6 y6 z6), (γ10_8, pt x5 y5 z5), (γ9_7, l2 u3 v3), (γ8_7, l2 u1 v1), (γ7_7, l2 u3 v3), (γ6_7, l2 u2 v2), (γ5_7, l2 u1 v1), (γ4_7, pt x4 y4 z4), (γ1_0, pt x1 y1 true), (γ1_1, pt x2 y2 z2), (γ1_2, pt x3 y3 false)] ∧ _) := growB H14 hM (Nat.le_refl _) hl [7] rfl (by decide)
  have o15_7 := ownB H14 hM (Nat.le_refl _) hl (i := 7) rfl
  clear hM hl l H14
  generalize γ 7 = γ15_7 at H15 o15_7 ⊢
  clear γ
  refine rest0 rfl (then_normal (wp_seq ?_))
  refine walk_seqB 4 [.quiet (.agg (l2 u1 v1).toArray), .quiet (.agg (l2 1 0).toArray), .quiet (.bool true), .quiet (.bool true)] H15 ?ho16 ?he16
  case ho16 => exact ak (fun γ => ⟨rfl, fun w' h => ex_loadT h 9 rfl rfl rfl Try.isAgg49 Try.sizeOf49 rfl rfl⟩) (ak (fun γ => ⟨rfl, fun w' _ => ex_build49_01 rfl rfl rfl⟩) (ak (fun γ => ⟨rfl, fun w' _ => exec_eqT49 (fun w => eq_triv _ ht w) rfl rfl rfl⟩) (ak (fun _ => ⟨rfl, fun _ _ => rfl⟩) trivial)))
  intro _ w16 H16
  clear H15
  refine rest0 rfl (then_normal (wp_seq ?_))
  refine walk_seqB 48 [.quiet (.bool true), .quiet (.bool true), .quiet (.int .i64 0), .quiet (.bool true), .quiet (.bool true), .quiet (.bool true), .quiet (.int .i64 0), .quiet (.bool true), .quiet (.bool true), .quiet (.bool true), .quiet (.int .i64 0), .quiet (.bool true), .quiet (.bool true), .quiet (.bool true), .quiet (.int .i64 0), .quiet (.bool true), .quiet (.bool true), .quiet (.bool true), .quiet (.agg (l2 u3 v3).toArray), .quiet (.agg (l2 u3 v3).toArray), .quiet (.bool true), .quiet (.bool true), .quiet (.bool true), .quiet (.agg (l2 u1 v1).toArray), .quiet (.agg (l2 u1 v1).toArray), .quiet (.bool true), .quiet (.bool true), .quiet (.bool true), .quiet (.agg (l2 u4 v4).toArray), .quiet (.agg (l2 u4 v4).toArray), .quiet (.bool true), .quiet (.bool true), .quiet (.bool true), .quiet (.agg (l2 1 0).toArray), .quiet (.agg (l2 1 0).toArray), .quiet (.bool true), .quiet (.bool true), .quiet (.bool true), .quiet (.bool true), .quiet (PT γ1_0 2), .quiet (.bool true), .quiet (.bool true), .gone, .gone, .quiet (.bool true), .quiet (.bool true), .quiet (.bool true), .quiet (.bool true)] H16 ?ho17 ?he17 (hL := ?hL17)
  case hL17 => exact trivial
  case ho17 => exact ak (fun _ => ⟨rfl, fun _ _ => rfl⟩) (ak (fun _ => ⟨rfl, fun _ _ => rfl⟩) (ak (fun _ => ⟨rfl, fun _ _ => rfl⟩) (ak (by refine fun γ => ⟨rfl, fun w' h => ?_⟩; clear h; go_simp) (ak (by refine fun γ => ⟨rfl, fun w' h => ?_⟩; clear h; go_simp) (ak (fun _ => ⟨rfl, fun _ _ => rfl⟩) (ak (fun _ => ⟨rfl, fun _ _ => rfl⟩) (ak (by refine fun γ => ⟨rfl, fun w' h => ?_⟩; clear h; go_simp) (ak (by refine fun γ => ⟨rfl, fun w' h => ?_⟩; clear h; go_simp) (ak (fun _ => ⟨rfl, fun _ _ => rfl⟩) (ak (fun _ => ⟨rfl, fun _ _ => rfl⟩) (ak (by refine fun γ => ⟨rfl, fun w' h => ?_⟩; clear h; go_simp) (ak (by refine fun γ => ⟨rfl, fun w' h => ?_⟩; clear h; go_simp) (ak (fun _ => ⟨rfl, fun _ _ => rfl⟩) (ak (fun _ => ⟨rfl, fun _ _ => rfl⟩) (ak (by refine fun γ => ⟨rfl, fun w' h => ?_⟩; clear h; go_simp) (ak (by refine fun γ => ⟨rfl, fun w' h => ?_⟩; clear h; go_simp) (ak (fun _ => ⟨rfl, fun _ _ => rfl⟩) (ak (fun γ => ⟨rfl, fun w' h => ex_loadT h 7 rfl rfl rfl Try.isAgg49 Try.sizeOf49 rfl rfl⟩) (ak (fun γ => ⟨rfl, fun w' h => ex_loadT h 5 rfl rfl rfl Try.isAgg49 Try.sizeOf49 rfl rfl⟩) (ak (fun γ => ⟨rfl, fun w' _ => exec_eqT49 (fun w => eqL_self _ _ w) rfl rfl rfl⟩) (ak (by refine fun γ => ⟨rfl, fun w' h => ?_⟩; clear h; go_simp) (ak (fun _ => ⟨rfl, fun _ _ => rfl⟩) (ak (fun γ => ⟨rfl, fun w' h => ex_loadT h 6 rfl rfl rfl Try.isAgg49 Try.sizeOf49 rfl rfl⟩) (ak (fun γ => ⟨rfl, fun w' h => ex_loadT h 9 rfl rfl rfl Try.isAgg49 Try.sizeOf49 rfl rfl⟩) (ak (fun γ => ⟨rfl, fun w' _ => exec_eqT49 (fun w => eqL_self _ _ w) rfl rfl rfl⟩) (ak (by refine fun γ => ⟨rfl, fun w' h => ?_⟩; clear h; go_simp) (ak (fun _ => ⟨rfl, fun _ _ => rfl⟩) (ak (fun γ => ⟨rfl, fun w' h => ex_loadT h 2 rfl rfl rfl Try.isAgg49 Try.sizeOf49 rfl rfl⟩) (ak (fun γ => ⟨rfl, fun w' h => ex_loadT h 1 rfl rfl rfl Try.isAgg49 Try.sizeOf49 rfl rfl⟩) (ak (fun γ => ⟨rfl, fun w' _ => exec_eqT49 (fun w => eqL_self _ _ w) rfl rfl rfl⟩) (ak (by refine fun γ => ⟨rfl, fun w' h => ?_⟩; clear h; go_simp) (ak (fun _ => ⟨rfl, fun _ _ => rfl⟩) (ak (fun γ => ⟨rfl, fun w' h => ex_loadT h 0 rfl rfl rfl Try.isAgg49 Try.sizeOf49 rfl rfl⟩) (ak (fun γ => ⟨rfl, fun w' _ => ex_build49_01 rfl rfl rfl⟩) (ak (fun γ => ⟨rfl, fun w' _ => exec_eqT49 (fun w => eqL_self _ _ w) rfl rfl rfl⟩) (ak (by refine fun γ => ⟨rfl, fun w' h => ?_⟩; clear h; go_simp) (ak (fun _ => ⟨rfl, fun _ _ => rfl⟩) (ak (fun _ => ⟨rfl, fun _ _ => rfl⟩) (ak (by refine fun γ => ⟨rfl, fun w' h => ?_⟩; clear h; go_simp) (ak (fun γ => ⟨rfl, fun w' h => ex_loadC h 11 rfl rfl rfl Try.isAgg4 rfl⟩) (ak (fun _ => ⟨rfl, fun _ _ => rfl⟩) (ak (fun γ => rfl) (ak (fun γ => rfl) (ak (by refine fun γ => ⟨rfl, fun w' h => ?_⟩; clear h; go_simp) (ak (by refine fun γ => ⟨rfl, fun w' h => ?_⟩; clear h; go_simp) (ak (by refine fun γ => ⟨rfl, fun w' h => ?_⟩; clear h; go_simp) (ak (fun _ => ⟨rfl, fun _ _ => rfl⟩) trivial)))))))))))))))))))))))))))))))))))))))))))))))
  intro _ w17 H17
  clear H16
  refine rest0 rfl (then_normal (wp_ret ?_))
  repeat (first | refine then_ret ?_ | refine block_ret ?_)
  refine bodyPost_ret (v := .bool true) (by simp [results, Try.results7, go_sem, *]) rfl ?_
  exact ⟨rfl, H17.out.2⟩
end Rg
end Go.Proofs.Ytjmbgchoioepjaa
end
section
namespace Go.Proofs.Ytjmbgchoioepjaa
open Go.RowKit
namespace Rg
open NT
set_option maxHeartbeats 4000000 in
set_option maxRecDepth 100000 in
theorem bil_tt (s : Int) (x1 y1 x2 y2 : Nat) (z2 : Bool) (x3 y3 x4 y4 : Nat) (z4 : Bool) (x5 y5 : Nat) (z5 : Bool) (x6 y6 : Nat) (z6 : Bool) (u1 v1 u2 v2 u3 v3 u4 v4 r m n : Nat) (hm : m < 4294967296) (hn : n < 4294967296) (ht : decide ((u1, v1) = ((1, 0) : E2)) = true)
    (c0 : ∀ w, Calls Try.prog 41 #[] w fun e w' => e = .returned (.bool true) ∧ Below w.heap.size w w')
    (c1 : ∀ w, Calls Try.prog 20 #[.int .i64 s, .agg (pt x1 y1 true).toArray] w fun e w' => e = .returned (.bool true) ∧ Below w.heap.size w w')
    (c2 : ∀ w, Calls Try.prog 20 #[.int .i64 s, .agg (pt x2 y2 z2).toArray] w fun e w' => e = .returned (.bool true) ∧ Below w.heap.size w w')
    (c3 : ∀ w, Calls Try.prog 20 #[.int .i64 s, .agg (pt x3 y3 true).toArray] w fun e w' => e = .returned (.bool true) ∧ Below w.heap.size w w')
    (c4 : ∀ w, Calls Try.prog 14 #[.int .i64 s, .agg (pt x1 y1 true).toArray, .agg (pt x2 y2 z2).toArray] w fun e w' => e = .returned (.tuple #[.agg (pt x4 y4 z4).toArray, .int .i64 0]) ∧ Below w.heap.size w w')
    (c5 : ∀ w, Calls Try.prog 27 #[.int .i64 s, .agg (pt x1 y1 true).toArray, .agg (pt x3 y3 true).toArray] w fun e w' => e = .returned (.tuple #[.agg (l2 u1 v1).toArray, .int .i64 0]) ∧ Below w.heap.size w w')
    (c6 : ∀ w, Calls Try.prog 27 #[.int .i64 s, .agg (pt x2 y2 z2).toArray, .agg (pt x3 y3 true).toArray] w fun e w' => e = .returned (.tuple #[.agg (l2 u2 v2).toArray, .int .i64 0]) ∧ Below w.heap.size w w')
    (c7 : ∀ w, Calls Try.prog 27 #[.int .i64 s, .agg (pt x4 y4 z4).toArray, .agg (pt x3 y3 true).toArray] w fun e w' => e = .returned (.tuple #[.agg (l2 u3 v3).toArray, .int .i64 0]) ∧ Below w.heap.size w w')
    (c8 : ∀ w, Calls Try.prog 27 #[.int .i64 s, .agg (pt x3 y3 true).toArray, .agg (pt x1 y1 true).toArray] w fun e w' => e = .returned (.tuple #[.agg (l2 u1 v1).toArray, .int .i64 0]) ∧ Below w.heap.size w w')
    (c9 : ∀ w, Calls Try.prog 27 #[.int .i64 s, .agg (pt x5 y5 z5).toArray, .agg (pt x6 y6 z6).toArray] w fun e w' => e = .returned (.tuple #[.agg (l2 u4 v4).toArray, .int .i64 0]) ∧ Below w.heap.size w w')
    (c10 : ∀ w, Calls Try.prog 28 #[.int .i64 s, .agg (l2 u1 v1).toArray, .agg (l2 u2 v2).toArray] w fun e w' => e = .returned (.tuple #[.agg (l2 u3 v3).toArray, .int .i64 0]) ∧ Below w.heap.size w w')
    (c11 : ∀ w, Calls Try.prog 15 #[.int .i64 s, .agg (pt x1 y1 true).toArray, U m] w fun e w' => e = .returned (.tuple #[.agg (pt x5 y5 z5).toArray, .int .i64 0]) ∧ Below w.heap.size w w')
    (c12 : ∀ w, Calls Try.prog 15 #[.int .i64 s, .agg (pt x3 y3 true).toArray, U n] w fun e w' => e = .returned (.tuple #[.agg (pt x6 y6 z6).toArray, .int .i64 0]) ∧ Below w.heap.size w w')
    (c13 : ∀ w, Calls Try.prog 12 #[.int .i64 s] w fun e w' => e = .returned (.tuple #[U r, .int .i64 0]) ∧ Below w.heap.size w w')
    (c14 : ∀ w, Calls Try.prog 29 #[.int .i64 s, .agg (l2 u1 v1).toArray, U (m * n)] w fun e w' => e = .returned (.tuple #[.agg (l2 u4 v4).toArray, .int .i64 0]) ∧ Below w.heap.size w w')
    (c15 : ∀ w, Calls Try.prog 29 #[.int .i64 s, .agg (l2 u1 v1).toArray, U r] w fun e w' => e = .returned (.tuple #[.agg (l2 1 0).toArray, .int .i64 0]) ∧ Below w.heap.size w w') (w : World) :
    Calls Try.prog 7 #[.int .i64 s, .agg (pt x1 y1 true).toArray, .agg (pt x2 y2 z2).toArray, .agg (pt x3 y3 true).toArray, W32 m, W32 n] w fun e w' => e = .returned (.bool true) ∧ Below w.heap.size w w' := by
  have H0 : Hid (_ ∧ _) := ⟨Mm.nil w, Below.refl w.heap.size w⟩
  have C0 : Hid _ := c0
  have C1 : Hid _ := c1
  have C2 : Hid _ := c2
  have C3 : Hid _ := c3
  have C4 : Hid _ := c4
  have C5 : Hid _ := c5
  have C6 : Hid _ := c6
  have C7 : Hid _ := c7
  have C8 : Hid _ := c8
  have C9 : Hid _ := c9
  have C10 : Hid _ := c10
  have C11 : Hid _ := c11
  have C12 : Hid _ := c12
  have C13 : Hid _ := c13
  have C14 : Hid _ := c14
  have C15 : Hid _ := c15
  clear c0 c1 c2 c3 c4 c5 c6 c7 c8 c9 c10 c11 c12 c13 c14 c15
  go_enter Try.func7, Try.ntmps7
  refine wp_seq ?_
  refine walk_seqA 4 [.made (pt x1 y1 true) 25, .made (pt x2 y2 z2) 25, .made (pt x3 y3 true) 25, .quiet (.bool false)] (sB H0) ?ho1 ?he1
  case ho1 => exact ak (fun γ => ⟨rfl, fun w' => ex_boxT rfl rfl⟩) (ak (fun γ => ⟨rfl, fun w' => ex_boxT rfl rfl⟩) (ak (fun γ => ⟨rfl, fun w' => ex_boxT rfl rfl⟩) (ak (fun _ => ⟨rfl, fun _ _ => rfl⟩) trivial)))
  intro γ w1 l hM hl
  have H1 : Hid (Mm w1 [(γ 0, pt x1 y1 true), (γ 1, pt x2 y2 z2), (γ 2, pt x3 y3 true)] ∧ _) := growB H0 hM (Nat.le_refl _) hl [0, 1, 2] rfl (by decide)
  have o1_0 := ownB H0 hM (Nat.le_refl _) hl (i := 0) rfl
  have o1_1 := ownB H0 hM (Nat.le_refl _) hl (i := 1) rfl
  have o1_2 := ownB H0 hM (Nat.le_refl _) hl (i := 2) rfl
  clear hM hl l
  generalize γ 0 = γ1_0 at H1 o1_0 ⊢
  generalize γ 1 = γ1_1 at H1 o1_1 ⊢
  generalize γ 2 = γ1_2 at H1 o1_2 ⊢
  clear γ
  refine rest0 rfl (then_normal (wp_seq ?_))
  refine walk_seqB 2 [.call (.bool true), .quiet (.bool true)] H1 ?ho2 ?he2
  case ho2 => exact ak (fun γ => ⟨rfl, fun w' h => ⟨41, #[], exec_call rfl call41 rfl (mpn rfl), C0.out w'⟩⟩) (ak (fun _ => ⟨rfl, fun _ _ => rfl⟩) trivial)
  intro _ w2 H2
  clear H1
  refine rest0 rfl (then_normal (wp_seq (wp_seq ?_)))
  refine walk_seqB 16 [.quiet (.int .i64 s), .quiet (.agg (pt x1 y1 true).toArray), .call (.bool true), .quiet (.bool false), .quiet (.bool false), .quiet (.int .i64 s), .quiet (.agg (pt x2 y2 z2).toArray), .call (.bool true), .quiet (.bool false), .quiet (.bool false), .quiet (.bool false), .quiet (.int .i64 s), .quiet (.agg (pt x3 y3 true).toArray), .call (.bool true), .quiet (.bool false), .quiet (.bool false)] H2 ?ho3 ?he3
  case ho3 => exact ak (fun _ => ⟨rfl, fun _ _ => rfl⟩) (ak (fun γ => ⟨rfl, fun w' h => ex_loadT h 0 rfl rfl rfl Try.isAgg25 Try.sizeOf25 rfl rfl⟩) (ak (fun γ => ⟨rfl, fun w' h => ⟨20, #[.int .i64 s, .agg (pt x1 y1 true).toArray], exec_call rfl call20 rfl (mpn rfl), C1.out w'⟩⟩) (ak (by refine fun γ => ⟨rfl, fun w' h => ?_⟩; clear h; go_simp) (ak (fun _ => ⟨rfl, fun _ _ => rfl⟩) (ak (fun _ => ⟨rfl, fun _ _ => rfl⟩) (ak (fun γ => ⟨rfl, fun w' h => ex_loadT h 1 rfl rfl rfl Try.isAgg25 Try.sizeOf25 rfl rfl⟩) (ak (fun γ => ⟨rfl, fun w' h => ⟨20, #[.int .i64 s, .agg (pt x2 y2 z2).toArray], exec_call rfl call20 rfl (mpn rfl), C2.out w'⟩⟩) (ak (by refine fun γ => ⟨rfl, fun w' h => ?_⟩; clear h; go_simp) (ak (by refine fun γ => ⟨rfl, fun w' h => ?_⟩; clear h; go_simp) (ak (fun _ => ⟨rfl, fun _ _ => rfl⟩) (ak (fun _ => ⟨rfl, fun _ _ => rfl⟩) (ak (fun γ => ⟨rfl, fun w' h => ex_loadT h 2 rfl rfl rfl Try.isAgg25 Try.sizeOf25 rfl rfl⟩) (ak (fun γ => ⟨rfl, fun w' h => ⟨20, #[.int .i64 s, .agg (pt x3 y3 true).toArray], exec_call rfl call20 rfl (mpn rfl), C3.out w'⟩⟩) (ak (by refine fun γ => ⟨rfl, fun w' h => ?_⟩; clear h; go_simp) (ak (by refine fun γ => ⟨rfl, fun w' h => ?_⟩; clear h; go_simp) trivial)))))))))))))))
  intro _ w3 H3
  clear H2
  refine rest0 rfl (then_normal (wp_cond_false rfl ?_))
  refine wp_skip (then_normal (wp_seq ?_))
  refine walk_seqA 10 [.quiet (.int .i64 s), .quiet (.agg (pt x1 y1 true).toArray), .quiet (.agg (pt x2 y2 z2).toArray), .call (.tuple #[.agg (pt x4 y4 z4).toArray, .int .i64 0]), .quiet (.tuple #[.agg (pt x4 y4 z4).toArray, .int .i64 0]), .quiet (.agg (pt x4 y4 z4).toArray), .quiet (.int .i64 0), .made (pt 0 0 false) 25, .laid 7 (pt 0 0 false) (pt x4 y4 z4), .quiet (.int .i64 0)] (sB H3) ?ho4 ?he4 (hL := ?hL4)
  case hL4 => exact ⟨⟨_, rfl⟩, trivial⟩
  case ho4 => exact ak (fun _ => ⟨rfl, fun _ _ => rfl⟩) (ak (fun γ => ⟨rfl, fun w' h => ex_loadT h 0 rfl rfl rfl Try.isAgg25 Try.sizeOf25 rfl rfl⟩) (ak (fun γ => ⟨rfl, fun w' h => ex_loadT h 1 rfl rfl rfl Try.isAgg25 Try.sizeOf25 rfl rfl⟩) (ak (fun γ => ⟨rfl, fun w' h => ⟨14, #[.int .i64 s, .agg (pt x1 y1 true).toArray, .agg (pt x2 y2 z2).toArray], exec_call rfl call14 rfl (mpn rfl), C4.out w'⟩⟩) (ak (fun _ => ⟨rfl, fun _ _ => rfl⟩) (ak (by refine fun γ => ⟨rfl, fun w' h => ?_⟩; clear h; go_simp) (ak (by refine fun γ => ⟨rfl, fun w' h => ?_⟩; clear h; go_simp) (ak (fun γ => ⟨rfl, fun w' => ex_made25 rfl⟩) (ak (fun γ => ⟨rfl, rfl, rfl, fun w' h => ex_laidT h rfl rfl Try.sizeOf25 rfl rfl rfl⟩) (ak (fun _ => ⟨rfl, fun _ _ => rfl⟩) trivial)))))))))
  intro γ w4 l hM hl
  have H4 : Hid (Mm w4 [(γ 7, pt x4 y4 z4), (γ1_0, pt x1 y1 true), (γ1_1, pt x2 y2 z2), (γ1_2, pt x3 y3 true)] ∧ _) := growB H3 hM (Nat.le_refl _) hl [7] rfl (by decide)
  have o4_7 := ownB H3 hM (Nat.le_refl _) hl (i := 7) rfl
  clear hM hl l H3
  generalize γ 7 = γ4_7 at H4 o4_7 ⊢
  clear γ
  refine rest0 rfl (then_normal (wp_seq ?_))
  refine walk_seqA 10 [.quiet (.int .i64 s), .quiet (.agg (pt x1 y1 true).toArray), .quiet (.agg (pt x3 y3 true).toArray), .call (.tuple #[.agg (l2 u1 v1).toArray, .int .i64 0]), .quiet (.tuple #[.agg (l2 u1 v1).toArray, .int .i64 0]), .quiet (.agg (l2 u1 v1).toArray), .quiet (.int .i64 0), .made (l2 0 0) 49, .laid 7 (l2 0 0) (l2 u1 v1), .quiet (.int .i64 0)] (sB H4) ?ho5 ?he5 (hL := ?hL5)
  case hL5 => exact ⟨⟨_, rfl⟩, trivial⟩
  case ho5 => exact ak (fun _ => ⟨rfl, fun _ _ => rfl⟩) (ak (fun γ => ⟨rfl, fun w' h => ex_loadT h 1 rfl rfl rfl Try.isAgg25 Try.sizeOf25 rfl rfl⟩) (ak (fun γ => ⟨rfl, fun w' h => ex_loadT h 3 rfl rfl rfl Try.isAgg25 Try.sizeOf25 rfl rfl⟩) (ak (fun γ => ⟨rfl, fun w' h => ⟨27, #[.int .i64 s, .agg (pt x1 y1 true).toArray, .agg (pt x3 y3 true).toArray], exec_call rfl call27 rfl (mpn rfl), C5.out w'⟩⟩) (ak (fun _ => ⟨rfl, fun _ _ => rfl⟩) (ak (by refine fun γ => ⟨rfl, fun w' h => ?_⟩; clear h; go_simp) (ak (by refine fun γ => ⟨rfl, fun w' h => ?_⟩; clear h; go_simp) (ak (fun γ => ⟨rfl, fun w' => ex_made49 rfl⟩) (ak (fun γ => ⟨rfl, rfl, rfl, fun w' h => ex_laidT h rfl rfl Try.sizeOf49 rfl rfl rfl⟩) (ak (fun _ => ⟨rfl, fun _ _ => rfl⟩) trivial)))))))))
  intro γ w5 l hM hl
  have H5 : Hid (Mm w5 [(γ 7, l2 u1 v1), (γ4_7, pt x4 y4 z4), (γ1_0, pt x1 y1 true), (γ1_1, pt x2 y2 z2), (γ1_2, pt x3 y3 true)] ∧ _) := growB H4 hM (Nat.le_refl _) hl [7] rfl (by decide)
  have o5_7 := ownB H4 hM (Nat.le_refl _) hl (i := 7) rfl
  clear hM hl l H4
  generalize γ 7 = γ5_7 at H5 o5_7 ⊢
  clear γ
  refine rest0 rfl (then_normal (wp_seq ?_))
  refine walk_seqA 10 [.quiet (.int .i64 s), .quiet (.agg (pt x2 y2 z2).toArray), .quiet (.agg (pt x3 y3 true).toArray), .call (.tuple #[.agg (l2 u2 v2).toArray, .int .i64 0]), .quiet (.tuple #[.agg (l2 u2 v2).toArray, .int .i64 0]), .quiet (.agg (l2 u2 v2).toArray), .quiet (.int .i64 0), .made (l2 0 0) 49, .laid 7 (l2 0 0) (l2 u2 v2), .quiet (.int .i64 0)] (sB H5) ?ho6 ?he6 (hL := ?hL6)
  case hL6 => exact ⟨⟨_, rfl⟩, trivial⟩
  case ho6 => exact ak (fun _ => ⟨rfl, fun _ _ => rfl⟩) (ak (fun γ => ⟨rfl, fun w' h => ex_loadT h 3 rfl rfl rfl Try.isAgg25 Try.sizeOf25 rfl rfl⟩) (ak (fun γ => ⟨rfl, fun w' h => ex_loadT h 4 rfl rfl rfl Try.isAgg25 Try.sizeOf25 rfl rfl⟩) (ak (fun γ => ⟨rfl, fun w' h => ⟨27, #[.int .i64 s, .agg (pt x2 y2 z2).toArray, .agg (pt x3 y3 true).toArray], exec_call rfl call27 rfl (mpn rfl), C6.out w'⟩⟩) (ak (fun _ => ⟨rfl, fun _ _ => rfl⟩) (ak (by refine fun γ => ⟨rfl, fun w' h => ?_⟩; clear h; go_simp) (ak (by refine fun γ => ⟨rfl, fun w' h => ?_⟩; clear h; go_simp) (ak (fun γ => ⟨rfl, fun w' => ex_made49 rfl⟩) (ak (fun γ => ⟨rfl, rfl, rfl, fun w' h => ex_laidT h rfl rfl Try.sizeOf49 rfl rfl rfl⟩) (ak (fun _ => ⟨rfl, fun _ _ => rfl⟩) trivial)))))))))
  intro γ w6 l hM hl
  have H6 : Hid (Mm w6 [(γ 7, l2 u2 v2), (γ5_7, l2 u1 v1), (γ4_7, pt x4 y4 z4), (γ1_0, pt x1 y1 true), (γ1_1, pt x2 y2 z2), (γ1_2, pt x3 y3 true)] ∧ _) := growB H5 hM (Nat.le_refl _) hl [7] rfl (by decide)
  have o6_7 := ownB H5 hM (Nat.le_refl _) hl (i := 7) rfl
  clear hM hl l H5
  generalize γ 7 = γ6_7 at H6 o6_7 ⊢
  clear γ
  refine rest0 rfl (then_normal (wp_seq ?_))
  refine walk_seqA 10 [.quiet (.int .i64 s), .quiet (.agg (pt x4 y4 z4).toArray), .quiet (.agg (pt x3 y3 true).toArray), .call (.tuple #[.agg (l2 u3 v3).toArray, .int .i64 0]), .quiet (.tuple #[.agg (l2 u3 v3).toArray, .int .i64 0]), .quiet (.agg (l2 u3 v3).toArray), .quiet (.int .i64 0), .made (l2 0 0) 49, .laid 7 (l2 0 0) (l2 u3 v3), .quiet (.int .i64 0)] (sB H6) ?ho7 ?he7 (hL := ?hL7)
  case hL7 => exact ⟨⟨_, rfl⟩, trivial⟩
  case ho7 => exact ak (fun _ => ⟨rfl, fun _ _ => rfl⟩) (ak (fun γ => ⟨rfl, fun w' h => ex_loadT h 2 rfl rfl rfl Try.isAgg25 Try.sizeOf25 rfl rfl⟩) (ak (fun γ => ⟨rfl, fun w' h => ex_loadT h 5 rfl rfl rfl Try.isAgg25 Try.sizeOf25 rfl rfl⟩) (ak (fun γ => ⟨rfl, fun w' h => ⟨27, #[.int .i64 s, .agg (pt x4 y4 z4).toArray, .agg (pt x3 y3 true).toArray], exec_call rfl call27 rfl (mpn rfl), C7.out w'⟩⟩) (ak (fun _ => ⟨rfl, fun _ _ => rfl⟩) (ak (by refine fun γ => ⟨rfl, fun w' h => ?_⟩; clear h; go_simp) (ak (by refine fun γ => ⟨rfl, fun w' h => ?_⟩; clear h; go_simp) (ak (fun γ => ⟨rfl, fun w' => ex_made49 rfl⟩) (ak (fun γ => ⟨rfl, rfl, rfl, fun w' h => ex_laidT h rfl rfl Try.sizeOf49 rfl rfl rfl⟩) (ak (fun _ => ⟨rfl, fun _ _ => rfl⟩) trivial)))))))))
  intro γ w7 l hM hl
  have H7 : Hid (Mm w7 [(γ 7, l2 u3 v3), (γ6_7, l2 u2 v2), (γ5_7, l2 u1 v1), (γ4_7, pt x4 y4 z4), (γ1_0, pt x1 y1 true), (γ1_1, pt x2 y2 z2), (γ1_2, pt x3 y3 true)] ∧ _) := growB H6 hM (Nat.le_refl _) hl [7] rfl (by decide)
  have o7_7 := ownB H6 hM (Nat.le_refl _) hl (i := 7) rfl
  clear hM hl l H6
  generalize γ 7 = γ7_7 at H7 o7_7 ⊢
  clear γ
  refine rest0 rfl (then_normal (wp_seq ?_))
  refine walk_seqA 10 [.quiet (.int .i64 s), .quiet (.agg (pt x3 y3 true).toArray), .quiet (.agg (pt x1 y1 true).toArray), .call (.tuple #[.agg (l2 u1 v1).toArray, .int .i64 0]), .quiet (.tuple #[.agg (l2 u1 v1).toArray, .int .i64 0]), .quiet (.agg (l2 u1 v1).toArray), .quiet (.int .i64 0), .made (l2 0 0) 49, .laid 7 (l2 0 0) (l2 u1 v1), .quiet (.int .i64 0)] (sB H7) ?ho8 ?he8 (hL := ?hL8)
  case hL8 => exact ⟨⟨_, rfl⟩, trivial⟩
  case ho8 => exact ak (fun _ => ⟨rfl, fun _ _ => rfl⟩) (ak (fun γ => ⟨rfl, fun w' h => ex_loadT h 6 rfl rfl rfl Try.isAgg25 Try.sizeOf25 rfl rfl⟩) (ak (fun γ => ⟨rfl, fun w' h => ex_loadT h 4 rfl rfl rfl Try.isAgg25 Try.sizeOf25 rfl rfl⟩) (ak (fun γ => ⟨rfl, fun w' h => ⟨27, #[.int .i64 s, .agg (pt x3 y3 true).toArray, .agg (pt x1 y1 true).toArray], exec_call rfl call27 rfl (mpn rfl), C8.out w'⟩⟩) (ak (fun _ => ⟨rfl, fun _ _ => rfl⟩) (ak (by refine fun γ => ⟨rfl, fun w' h => ?_⟩; clear h; go_simp) (ak (by refine fun γ => ⟨rfl, fun w' h => ?_⟩; clear h; go_simp) (ak (fun γ => ⟨rfl, fun w' => ex_made49 rfl⟩) (ak (fun γ => ⟨rfl, rfl, rfl, fun w' h => ex_laidT h rfl rfl Try.sizeOf49 rfl rfl rfl⟩) (ak (fun _ => ⟨rfl, fun _ _ => rfl⟩) trivial)))))))))
  intro γ w8 l hM hl
  have H8 : Hid (Mm w8 [(γ 7, l2 u1 v1), (γ7_7, l2 u3 v3), (γ6_7, l2 u2 v2), (γ5_7, l2 u1 v1), (γ4_7, pt x4 y4 z4), (γ1_0, pt x1 y1 true), (γ1_1, pt x2 y2 z2), (γ1_2, pt x3 y3 true)] ∧ _) := growB H7 hM (Nat.le_refl _) hl [7] rfl (by decide)
  have o8_7 := ownB H7 hM (Nat.le_refl _) hl (i := 7) rfl
  clear hM hl l H7
  generalize γ 7 = γ8_7 at H8 o8_7 ⊢
  clear γ
  refine rest0 rfl (then_normal (wp_seq ?_))
  refine walk_seqA 10 [.quiet (.int .i64 s), .quiet (.agg (l2 u1 v1).toArray), .quiet (.agg (l2 u2 v2).toArray), .call (.tuple #[.agg (l2 u3 v3).toArray, .int .i64 0]), .quiet (.tuple #[.agg (l2 u3 v3).toArray, .int .i64 0]), .quiet (.agg (l2 u3 v3).toArray), .quiet (.int .i64 0), .made (l2 0 0) 49, .laid 7 (l2 0 0) (l2 u3 v3), .quiet (.int .i64 0)] (sB H8) ?ho9 ?he9 (hL := ?hL9)
  case hL9 => exact ⟨⟨_, rfl⟩, trivial⟩
  case ho9 => exact ak (fun _ => ⟨rfl, fun _ _ => rfl⟩) (ak (fun γ => ⟨rfl, fun w' h => ex_loadT h 3 rfl rfl rfl Try.isAgg49 Try.sizeOf49 rfl rfl⟩) (ak (fun γ => ⟨rfl, fun w' h => ex_loadT h 2 rfl rfl rfl Try.isAgg49 Try.sizeOf49 rfl rfl⟩) (ak (fun γ => ⟨rfl, fun w' h => ⟨28, #[.int .i64 s, .agg (l2 u1 v1).toArray, .agg (l2 u2 v2).toArray], exec_call rfl call28 rfl (mpn rfl), C10.out w'⟩⟩) (ak (fun _ => ⟨rfl, fun _ _ => rfl⟩) (ak (by refine fun γ => ⟨rfl, fun w' h => ?_⟩; clear h; go_simp) (ak (by refine fun γ => ⟨rfl, fun w' h => ?_⟩; clear h; go_simp) (ak (fun γ => ⟨rfl, fun w' => ex_made49 rfl⟩) (ak (fun γ => ⟨rfl, rfl, rfl, fun w' h => ex_laidT h rfl rfl Try.sizeOf49 rfl rfl rfl⟩) (ak (fun _ => ⟨rfl, fun _ _ => rfl⟩) trivial)))))))))
  intro γ w9 l hM hl
  have H9 : Hid (Mm w9 [(γ 7, l2 u3 v3), (γ8_7, l2 u1 v1), (γ7_7, l2 u3 v3), (γ6_7, l2 u2 v2), (γ5_7, l2 u1 v1), (γ4_7, pt x4 y4 z4), (γ1_0, pt x1 y1 true), (γ1_1, pt x2 y2 z2), (γ1_2, pt x3 y3 true)] ∧ _) := growB H8 hM (Nat.le_refl _) hl [7] rfl (by decide)
  have o9_7 := ownB H8 hM (Nat.le_refl _) hl (i := 7) rfl
  clear hM hl l H8
  generalize γ 7 = γ9_7 at H9 o9_7 ⊢
  clear γ
  refine rest0 rfl (then_normal (wp_seq ?_))
  refine walk_seqA 11 [.quiet (.int .i64 s), .quiet (.agg (pt x1 y1 true).toArray), .quiet (W32 m), .quiet (U m), .call (.tuple #[.agg (pt x5 y5 z5).toArray, .int .i64 0]), .quiet (.tuple #[.agg (pt x5 y5 z5).toArray, .int .i64 0]), .quiet (.agg (pt x5 y5 z5).toArray), .quiet (.int .i64 0), .made (pt 0 0 false) 25, .laid 8 (pt 0 0 false) (pt x5 y5 z5), .quiet (.int .i64 0)] (sB H9) ?ho10 ?he10 (hL := ?hL10)
  case hL10 => exact ⟨⟨_, rfl⟩, trivial⟩
  case ho10 => exact ak (fun _ => ⟨rfl, fun _ _ => rfl⟩) (ak (fun γ => ⟨rfl, fun w' h => ex_loadT h 6 rfl rfl rfl Try.isAgg25 Try.sizeOf25 rfl rfl⟩) (ak (fun _ => ⟨rfl, fun _ _ => rfl⟩) (ak (fun γ => ⟨rfl, fun w' _ => ex_cv32 hm rfl rfl⟩) (ak (fun γ => ⟨rfl, fun w' h => ⟨15, #[.int .i64 s, .agg (pt x1 y1 true).toArray, U m], exec_call rfl call15 rfl (mpn rfl), C11.out w'⟩⟩) (ak (fun _ => ⟨rfl, fun _ _ => rfl⟩) (ak (by refine fun γ => ⟨rfl, fun w' h => ?_⟩; clear h; go_simp) (ak (by refine fun γ => ⟨rfl, fun w' h => ?_⟩; clear h; go_simp) (ak (fun γ => ⟨rfl, fun w' => ex_made25 rfl⟩) (ak (fun γ => ⟨rfl, rfl, rfl, fun w' h => ex_laidT h rfl rfl Try.sizeOf25 rfl rfl rfl⟩) (ak (fun _ => ⟨rfl, fun _ _ => rfl⟩) trivial))))))))))
  intro γ w10 l hM hl
  have H10 : Hid (Mm w10 [(γ 8, pt x5 y5 z5), (γ9_7, l2 u3 v3), (γ8_7, l2 u1 v1), (γ7_7, l2 u3 v3), (γ6_7, l2 u2 v2), (γ5_7, l2 u1 v1), (γ4_7, pt x4 y4 z4), (γ1_0, pt x1 y1 true), (γ1_1, pt x2 y2 z2), (γ1_2, pt x3 y3 true)] ∧ _) := growB H9 hM (Nat.le_refl _) hl [8] rfl (by decide)
  have o10_8 := ownB H9 hM (Nat.le_refl _) hl (i := 8) rfl
  clear hM hl l H9
  generalize γ 8 = γ10_8 at H10 o10_8 ⊢
  clear γ
  refine rest0 rfl (then_normal (wp_seq ?_))
  refine walk_seqA 11 [.quiet (.int .i64 s), .quiet (.agg (pt x3 y3 true).toArray), .quiet (W32 n), .quiet (U n), .call (.tuple #[.agg (pt x6 y6 z6).toArray, .int .i64 0]), .quiet (.tuple #[.agg (pt x6 y6 z6).toArray, .int .i64 0]), .quiet (.agg (pt x6 y6 z6).toArray), .quiet (.int .i64 0), .made (pt 0 0 false) 25, .laid 8 (pt 0 0 false) (pt x6 y6 z6), .quiet (.int .i64 0)] (sB H10) ?ho11 ?he11 (hL := ?hL11)
  case hL11 => exact ⟨⟨_, rfl⟩, trivial⟩
  case ho11 => exact ak (fun _ => ⟨rfl, fun _ _ => rfl⟩) (ak (fun γ => ⟨rfl, fun w' h => ex_loadT h 9 rfl rfl rfl Try.isAgg25 Try.sizeOf25 rfl rfl⟩) (ak (fun _ => ⟨rfl, fun _ _ => rfl⟩) (ak (fun γ => ⟨rfl, fun w' _ => ex_cv32 hn rfl rfl⟩) (ak (fun γ => ⟨rfl, fun w' h => ⟨15, #[.int .i64 s, .agg (pt x3 y3 true).toArray, U n], exec_call rfl call15 rfl (mpn rfl), C12.out w'⟩⟩) (ak (fun _ => ⟨rfl, fun _ _ => rfl⟩) (ak (by refine fun γ => ⟨rfl, fun w' h => ?_⟩; clear h; go_simp) (ak (by refine fun γ => ⟨rfl, fun w' h => ?_⟩; clear h; go_simp) (ak (fun γ => ⟨rfl, fun w' => ex_made25 rfl⟩) (ak (fun γ => ⟨rfl, rfl, rfl, fun w' h => ex_laidT h rfl rfl Try.sizeOf25 rfl rfl rfl⟩) (ak (fun _ => ⟨rfl, fun _ _ => rfl⟩) trivial))))))))))
  intro γ w11 l hM hl
  have H11 : Hid (Mm w11 [(γ 8, pt x6 y6 z6), (γ10_8, pt x5 y5 z5), (γ9_7, l2 u3 v3), (γ8_7, l2 u1 v1), (γ7_7, l2 u3 v3), (γ6_7, l2 u2 v2), (γ5_7, l2 u1 v1), (γ4_7, pt x4 y4 z4), (γ1_0, pt x1 y1 true), (γ1_1, pt x2 y2 z2), (γ1_2, pt x3 y3 true)] ∧ _) := growB H10 hM (Nat.le_refl _) hl [8] rfl (by decide)
  have o11_8 := ownB H10 hM (Nat.le_refl _) hl (i := 8) rfl
  clear hM hl l H10
  generalize γ 8 = γ11_8 at H11 o11_8 ⊢
  clear γ
  refine rest0 rfl (then_normal (wp_seq ?_))
  refine walk_seqA 10 [.quiet (.int .i64 s), .quiet (.agg (pt x5 y5 z5).toArray), .quiet (.agg (pt x6 y6 z6).toArray), .call (.tuple #[.agg (l2 u4 v4).toArray, .int .i64 0]), .quiet (.tuple #[.agg (l2 u4 v4).toArray, .int .i64 0]), .quiet (.agg (l2 u4 v4).toArray), .quiet (.int .i64 0), .made (l2 0 0) 49, .laid 7 (l2 0 0) (l2 u4 v4), .quiet (.int .i64 0)] (sB H11) ?ho12 ?he12 (hL := ?hL12)
  case hL12 => exact ⟨⟨_, rfl⟩, trivial⟩
  case ho12 => exact ak (fun _ => ⟨rfl, fun _ _ => rfl⟩) (ak (fun γ => ⟨rfl, fun w' h => ex_loadT h 1 rfl rfl rfl Try.isAgg25 Try.sizeOf25 rfl rfl⟩) (ak (fun γ => ⟨rfl, fun w' h => ex_loadT h 0 rfl rfl rfl Try.isAgg25 Try.sizeOf25 rfl rfl⟩) (ak (fun γ => ⟨rfl, fun w' h => ⟨27, #[.int .i64 s, .agg (pt x5 y5 z5).toArray, .agg (pt x6 y6 z6).toArray], exec_call rfl call27 rfl (mpn rfl), C9.out w'⟩⟩) (ak (fun _ => ⟨rfl, fun _ _ => rfl⟩) (ak (by refine fun γ => ⟨rfl, fun w' h => ?_⟩; clear h; go_simp) (ak (by refine fun γ => ⟨rfl, fun w' h => ?_⟩; clear h; go_simp) (ak (fun γ => ⟨rfl, fun w' => ex_made49 rfl⟩) (ak (fun γ => ⟨rfl, rfl, rfl, fun w' h => ex_laidT h rfl rfl Try.sizeOf49 rfl rfl rfl⟩) (ak (fun _ => ⟨rfl, fun _ _ => rfl⟩) trivial)))))))))
  intro γ w12 l hM hl
  have H12 : Hid (Mm w12 [(γ 7, l2 u4 v4), (γ11_8, pt x6 y6 z6), (γ10_8, pt x5 y5 z5), (γ9_7, l2 u3 v3), (γ8_7, l2 u1 v1), (γ7_7, l2 u3 v3), (γ6_7, l2 u2 v2), (γ5_7, l2 u1 v1), (γ4_7, pt x4 y4 z4), (γ1_0, pt x1 y1 true), (γ1_1, pt x2 y2 z2), (γ1_2, pt x3 y3 true)] ∧ _) := growB H11 hM (Nat.le_refl _) hl [7] rfl (by decide)
  have o12_7 := ownB H11 hM (Nat.le_refl _) hl (i := 7) rfl
  clear hM hl l H11
  generalize γ 7 = γ12_7 at H12 o12_7 ⊢
  clear γ
  refine rest0 rfl (then_normal (wp_seq ?_))
  refine walk_seqA 14 [.quiet (.int .i64 s), .quiet (.agg (l2 u1 v1).toArray), .quiet (W32 m), .quiet (U m), .quiet (W32 n), .quiet (U n), .quiet (U (m * n)), .call (.tuple #[.agg (l2 u4 v4).toArray, .int .i64 0]), .quiet (.tuple #[.agg (l2 u4 v4).toArray, .int .i64 0]), .quiet (.agg (l2 u4 v4).toArray), .quiet (.int .i64 0), .made (l2 0 0) 49, .laid 11 (l2 0 0) (l2 u4 v4), .quiet (.int .i64 0)] (sB H12) ?ho13 ?he13 (hL := ?hL13)
  case hL13 => exact ⟨⟨_, rfl⟩, trivial⟩
  case ho13 => exact ak (fun _ => ⟨rfl, fun _ _ => rfl⟩) (ak (fun γ => ⟨rfl, fun w' h => ex_loadT h 7 rfl rfl rfl Try.isAgg49 Try.sizeOf49 rfl rfl⟩) (ak (fun _ => ⟨rfl, fun _ _ => rfl⟩) (ak (fun γ => ⟨rfl, fun w' _ => ex_cv32 hm rfl rfl⟩) (ak (fun _ => ⟨rfl, fun _ _ => rfl⟩) (ak (fun γ => ⟨rfl, fun w' _ => ex_cv32 hn rfl rfl⟩) (ak (fun γ => ⟨rfl, fun w' _ => ex_mulU (mul32 hm hn) rfl rfl rfl⟩) (ak (fun γ => ⟨rfl, fun w' h => ⟨29, #[.int .i64 s, .agg (l2 u1 v1).toArray, U (m * n)], exec_call rfl call29 rfl (mpn rfl), C14.out w'⟩⟩) (ak (fun _ => ⟨rfl, fun _ _ => rfl⟩) (ak (by refine fun γ => ⟨rfl, fun w' h => ?_⟩; clear h; go_simp) (ak (by refine fun γ => ⟨rfl, fun w' h => ?_⟩; clear h; go_simp) (ak (fun γ => ⟨rfl, fun w' => ex_made49 rfl⟩) (ak (fun γ => ⟨rfl, rfl, rfl, fun w' h => ex_laidT h rfl rfl Try.sizeOf49 rfl rfl rfl⟩) (ak (fun _ => ⟨rfl, fun _ _ => rfl⟩) trivial)))))))))))))
  intro γ w13 l hM hl
  have H13 : Hid (Mm w13 [(γ 11, l2 u4 v4), (γ12_7, l2 u4 v4), (γ11_8, pt x6 y6 z6), (γ10_8, pt x5 y5 z5), (γ9_7, l2 u3 v3), (γ8_7, l2 u1 v1), (γ7_7, l2 u3 v3), (γ6_7, l2 u2 v2), (γ5_7, l2 u1 v1), (γ4_7, pt x4 y4 z4), (γ1_0, pt x1 y1 true), (γ1_1, pt x2 y2 z2), (γ1_2, pt x3 y3 true)] ∧ _) := growB H12 hM (Nat.le_refl _) hl [11] rfl (by decide)
  have o13_11 := ownB H12 hM (Nat.le_refl _) hl (i := 11) rfl
  clear hM hl l H12
  generalize γ 11 = γ13_11 at H13 o13_11 ⊢
  clear γ
  refine rest0 rfl (then_normal (wp_seq ?_))
  refine walk_seqB 7 [.quiet (.int .i64 s), .call (.tuple #[U r, .int .i64 0]), .quiet (.tuple #[U r, .int .i64 0]), .quiet (U r), .quiet (.int .i64 0), .quiet (U r), .quiet (.int .i64 0)] H13 ?ho14 ?he14
  case ho14 => exact ak (fun _ => ⟨rfl, fun _ _ => rfl⟩) (ak (fun γ => ⟨rfl, fun w' h => ⟨12, #[.int .i64 s], exec_call rfl call12 rfl (mpn rfl), C13.out w'⟩⟩) (ak (fun _ => ⟨rfl, fun _ _ => rfl⟩) (ak (by refine fun γ => ⟨rfl, fun w' h => ?_⟩; clear h; go_simp) (ak (by refine fun γ => ⟨rfl, fun w' h => ?_⟩; clear h; go_simp) (ak (fun _ => ⟨rfl, fun _ _ => rfl⟩) (ak (fun _ => ⟨rfl, fun _ _ => rfl⟩) trivial))))))
  intro _ w14 H14
  clear H13
  refine rest0 rfl (then_normal (wp_seq ?_))
  refine walk_seqA 10 [.quiet (.int .i64 s), .quiet (.agg (l2 u1 v1).toArray), .quiet (U r), .call (.tuple #[.agg (l2 1 0).toArray, .int .i64 0]), .quiet (.tuple #[.agg (l2 1 0).toArray, .int .i64 0]), .quiet (.agg (l2 1 0).toArray), .quiet (.int .i64 0), .made (l2 0 0) 49, .laid 7 (l2 0 0) (l2 1 0), .quiet (.int .i64 0)] (sB H14) ?ho15 ?he15 (hL := ?hL15)
  case hL15 => exact ⟨⟨_, rfl⟩, trivial⟩
  case ho15 => exact ak (fun _ => ⟨rfl, fun _ _ => rfl⟩) (ak (fun γ => ⟨rfl, fun w' h => ex_loadT h 8 rfl rfl rfl Try.isAgg49 Try.sizeOf49 rfl rfl⟩) (ak (fun _ => ⟨rfl, fun _ _ => rfl⟩) (ak (fun γ => ⟨rfl, fun w' h => ⟨29, #[.int .i64 s, .agg (l2 u1 v1).toArray, U r], exec_call rfl call29 rfl (mpn rfl), C15.out w'⟩⟩) (ak (fun _ => ⟨rfl, fun _ _ => rfl⟩) (ak (by refine fun γ => ⟨rfl, fun w' h => ?_⟩; clear h; go_simp) (ak (by refine fun γ => ⟨rfl, fun w' h => ?_⟩; clear h; go_simp) (ak (fun γ => ⟨rfl, fun w' => ex_made49 rfl⟩) (ak (fun γ => ⟨rfl, rfl, rfl, fun w' h => ex_laidT h rfl rfl Try.sizeOf49 rfl rfl rfl⟩) (ak (fun _ => ⟨rfl, fun _ _ => rfl⟩) trivial)))))))))
  intro γ w15 l hM hl
  have H15 : Hid (Mm w15 [(γ 7, l2 1 0), (γ13_11, l2 u4 v4), (γ12_7, l2 u4 v4), (γ11_8, pt x6 y6 z6), (γ10_8, pt x5 y5 z5), (γ9_7, l2 u3 v3), (γ8_7, l2 u1 v1), (γ7_7, l2 u3 v3), (γ6_7, l2 u2 v2), (γ5_7, l2 u1 v1), (γ4_7, pt x4 y4 z4), (γ1_0, pt x1 y1 true), (γ1_1, pt x2 y2 z2), (γ1_2, pt x3 y3 true)] ∧ _) := growB H14 hM (Nat.le_refl _) hl [7] rfl (by decide)
  have o15_7 := ownB H14 hM (Nat.le_refl _) hl (i := 7) rfl
  clear hM hl l H14
  generalize γ 7 = γ15_7 at H15 o15_7 ⊢
  clear γ
  refine rest0 rfl (then_normal (wp_seq ?_))
  refine walk_seqB 4 [.quiet (.agg (l2 u1 v1).toArray), .quiet (.agg (l2 1 0).toArray), .quiet (.bool true), .quiet (.bool true)] H15 ?ho16 ?he16
  case ho16 => exact ak (fun γ => ⟨rfl, fun w' h => ex_loadT h 9 rfl rfl rfl Try.isAgg49 Try.sizeOf49 rfl rfl⟩) (ak (fun γ => ⟨rfl, fun w' _ => ex_build49_01 rfl rfl rfl⟩) (ak (fun γ => ⟨rfl, fun w' _ => exec_eqT49 (fun w => eq_triv _ ht w) rfl rfl rfl⟩) (ak (fun _ => ⟨rfl, fun _ _ => rfl⟩) trivial)))
  intro _ w16 H16
  clear H15
  refine rest0 rfl (then_normal (wp_seq ?_))
  refine walk_seqB 48 [.quiet (.bool true), .quiet (.bool true), .quiet (.int .i64 0), .quiet (.bool true), .quiet (.bool true), .quiet (.bool true), .quiet (.int .i64 0), .quiet (.bool true), .quiet (.bool true), .quiet (.bool true), .quiet (.int .i64 0), .quiet (.bool true), .quiet (.bool true), .quiet (.bool true), .quiet (.int .i64 0), .quiet (.bool true), .quiet (.bool true), .quiet (.bool true), .quiet (.agg (l2 u3 v3).toArray), .quiet (.agg (l2 u3 v3).toArray), .quiet (.bool true), .quiet (.bool true), .quiet (.bool true), .quiet (.agg (l2 u1 v1).toArray), .quiet (.agg (l2 u1 v1).toArray), .quiet (.bool true), .quiet (.bool true), .quiet (.bool true), .quiet (.agg (l2 u4 v4).toArray), .quiet (.agg (l2 u4 v4).toArray), .quiet (.bool true), .quiet (.bool true), .quiet (.bool true), .quiet (.agg (l2 1 0).toArray), .quiet (.agg (l2 1 0).toArray), .quiet (.bool true), .quiet (.bool true), .quiet (.bool true), .quiet (.bool true), .quiet (PT γ1_0 2), .quiet (.bool true), .quiet (.bool true), .gone, .gone, .quiet (.bool true), .quiet (.bool true), .quiet (.bool true), .quiet (.bool true)] H16 ?ho17 ?he17 (hL := ?hL17)
  case hL17 => exact trivial
  case ho17 => exact ak (fun _ => ⟨rfl, fun _ _ => rfl⟩) (ak (fun _ => ⟨rfl, fun _ _ => rfl⟩) (ak (fun _ => ⟨rfl, fun _ _ => rfl⟩) (ak (by refine fun γ => ⟨rfl, fun w' h => ?_⟩; clear h; go_simp) (ak (by refine fun γ => ⟨rfl, fun w' h => ?_⟩; clear h; go_simp) (ak (fun _ => ⟨rfl, fun _ _ => rfl⟩) (ak (fun _ => ⟨rfl, fun _ _ => rfl⟩) (ak (by refine fun γ => ⟨rfl, fun w' h => ?_⟩; clear h; go_simp) (ak (by refine fun γ => ⟨rfl, fun w' h => ?_⟩; clear h; go_simp) (ak (fun _ => ⟨rfl, fun _ _ => rfl⟩) (ak (fun _ => ⟨rfl, fun _ _ => rfl⟩) (ak (by refine fun γ => ⟨rfl, fun w' h => ?_⟩; clear h; go_simp) (ak (by refine fun γ => ⟨rfl, fun w' h => ?_⟩; clear h; go_simp) (ak (fun _ => ⟨rfl, fun _ _ => rfl⟩) (ak (fun _ => ⟨rfl, fun _ _ => rfl⟩) (ak (by refine fun γ => ⟨rfl, fun w' h => ?_⟩; clear h; go_simp) (ak (by refine fun γ => ⟨rfl, fun w' h => ?_⟩; clear h; go_simp) (ak (fun _ => ⟨rfl, fun _ _ => rfl⟩) (ak (fun γ => ⟨rfl, fun w' h => ex_loadT h 7 rfl rfl rfl Try.isAgg49 Try.sizeOf49 rfl rfl⟩) (ak (fun γ => ⟨rfl, fun w' h => ex_loadT h 5 rfl rfl rfl Try.isAgg49 Try.sizeOf49 rfl rfl⟩) (ak (fun γ => ⟨rfl, fun w' _ => exec_eqT49 (fun w => eqL_self _ _ w) rfl rfl rfl⟩) (ak (by refine fun γ => ⟨rfl, fun w' h => ?_⟩; clear h; go_simp) (ak (fun _ => ⟨rfl, fun _ _ => rfl⟩) (ak (fun γ => ⟨rfl, fun w' h => ex_loadT h 6 rfl rfl rfl Try.isAgg49 Try.sizeOf49 rfl rfl⟩) (ak (fun γ => ⟨rfl, fun w' h => ex_loadT h 9 rfl rfl rfl Try.isAgg49 Try.sizeOf49 rfl rfl⟩) (ak (fun γ => ⟨rfl, fun w' _ => exec_eqT49 (fun w => eqL_self _ _ w) rfl rfl rfl⟩) (ak (by refine fun γ => ⟨rfl, fun w' h => ?_⟩; clear h; go_simp) (ak (fun _ => ⟨rfl, fun _ _ => rfl⟩) (ak (fun γ => ⟨rfl, fun w' h => ex_loadT h 2 rfl rfl rfl Try.isAgg49 Try.sizeOf49 rfl rfl⟩) (ak (fun γ => ⟨rfl, fun w' h => ex_loadT h 1 rfl rfl rfl Try.isAgg49 Try.sizeOf49 rfl rfl⟩) (ak (fun γ => ⟨rfl, fun w' _ => exec_eqT49 (fun w => eqL_self _ _ w) rfl rfl rfl⟩) (ak (by refine fun γ => ⟨rfl, fun w' h => ?_⟩; clear h; go_simp) (ak (fun _ => ⟨rfl, fun _ _ => rfl⟩) (ak (fun γ => ⟨rfl, fun w' h => ex_loadT h 0 rfl rfl rfl Try.isAgg49 Try.sizeOf49 rfl rfl⟩) (ak (fun γ => ⟨rfl, fun w' _ => ex_build49_01 rfl rfl rfl⟩) (ak (fun γ => ⟨rfl, fun w' _ => exec_eqT49 (fun w => eqL_self _ _ w) rfl rfl rfl⟩) (ak (by refine fun γ => ⟨rfl, fun w' h => ?_⟩; clear h; go_simp) (ak (fun _ => ⟨rfl, fun _ _ => rfl⟩) (ak (fun _ => ⟨rfl, fun _ _ => rfl⟩) (ak (by refine fun γ => ⟨rfl, fun w' h => ?_⟩; clear h; go_simp) (ak (fun γ => ⟨rfl, fun w' h => ex_loadC h 11 rfl rfl rfl Try.isAgg4 rfl⟩) (ak (fun _ => ⟨rfl, fun _ _ => rfl⟩) (ak (fun γ => rfl) (ak (fun γ => rfl) (ak (by refine fun γ => ⟨rfl, fun w' h => ?_⟩; clear h; go_simp) (ak (by refine fun γ => ⟨rfl, fun w' h => ?_⟩; clear h; go_simp) (ak (by refine fun γ => ⟨rfl, fun w' h => ?_⟩; clear h; go_simp) (ak (fun _ => ⟨rfl, fun _ _ => rfl⟩) trivial)))))))))))))))))))))))))))))))))))))))))))))))
  intro _ w17 H17
  clear H16
  refine rest0 rfl (then_normal (wp_ret ?_))
  repeat (first | refine then_ret ?_ | refine block_ret ?_)
  refine bodyPost_ret (v := .bool true) (by simp [results, Try.results7, go_sem, *]) rfl ?_
  exact ⟨rfl, H17.out.2⟩
end Rg
end Go.Proofs.Ytjmbgchoioepjaa
end
section
namespace Go.Proofs.Ytjmbgchoioepjaa
open Go.RowKit
namespace Rg
open NT
section
variable {s : Int} {p r c gx gy : Nat}
theorem bil_kb (k : Kb s p r c gx gy) (a b d : P3) (m n : Nat) (hm : m < 4294967296) (hn : n < 4294967296) (w : World) : Calls Try.prog 7 #[.int .i64 s, .agg (pt a.1 a.2.1 a.2.2).toArray, .agg (pt b.1 b.2.1 b.2.2).toArray, .agg (pt d.1 d.2.1 d.2.2).toArray, W32 m, W32 n] w fun e w' => e = .returned (.bool true) ∧ Below w.heap.size w w' := by
  have := k.k.f.q.ne
  cases ha : ig p r a.1 a.2.1 a.2.2
  · exact bil_f k.k a b d m n ha w
  · cases hb : ig p r b.1 b.2.1 b.2.2
    · exact bil_tf k.k a b d m n ha hb w
    · cases hd : ig p r d.1 d.2.1 d.2.2
      · exact bil_ttf k.k a b d m n ha hb hd w
      · have sa := ig_Sg k.k ha
        have sb := ig_Sg k.k hb
        have sd := ig_Sg k.k hd
        have tv := pe_triv k sa sd
        cases za : a.2.2
        · cases zd : d.2.2
          · exact bil_ff s a.1 a.2.1 b.1 b.2.1 b.2.2 d.1 d.2.1 (dA p a b).1 (dA p a b).2.1 (dA p a b).2.2 (dN p a m).1 (dN p a m).2.1 (dN p a m).2.2 (dN p d n).1 (dN p d n).2.1 (dN p d n).2.2 (pe p r c a d).1 (pe p r c a d).2 (pe p r c b d).1 (pe p r c b d).2 (pd p (pe p r c a d) (pe p r c b d)).1 (pd p (pe p r c a d) (pe p r c b d)).2 (po p (pe p r c a d) (m * n)).1 (po p (pe p r c a d) (m * n)).2 r m n hm hn (decide_eq_false (fun h0 => by rcases tv.1 h0 with h | h <;> simp_all)) awake_any (In_gb k.k a za _ (Sg_ig k.k sa)) (In_gb k.k b rfl _ (Sg_ig k.k sb)) (In_gb k.k d zd _ (Sg_ig k.k sd)) (Add_gb k sa.on sb.on za) (Pair_gb k sa sd za zd rfl) (Pair_gb k sb sd rfl zd rfl) (Pair_gb k (sa.add k.gg.F sb) sd rfl zd (pe_add k sa sb sd)) (Pair_gb k sd sa zd za (pe_sym k sa sd)) (Pair_gb k (sa.mul k.gg.F m) (sd.mul k.gg.F n) rfl rfl (pe_mul k sa sd m n)) (Times_gb k (pe_lt k sa) (pe_lt k sb)) (Mul_gb k sa.on za (by omega)) (Mul_gb k sd.on zd (by omega)) (Order_ok k.k.f.q.k) (Power_gb k (pe_lt k sa) (mul32 hm hn) rfl) (Power_gb k (pe_lt k sa) k.k.f.q.k.rb (pe_r k sa sd)) w
          · exact bil_ft s a.1 a.2.1 b.1 b.2.1 b.2.2 d.1 d.2.1 (dA p a b).1 (dA p a b).2.1 (dA p a b).2.2 (dN p a m).1 (dN p a m).2.1 (dN p a m).2.2 (dN p d n).1 (dN p d n).2.1 (dN p d n).2.2 (pe p r c a d).1 (pe p r c a d).2 (pe p r c b d).1 (pe p r c b d).2 (pd p (pe p r c a d) (pe p r c b d)).1 (pd p (pe p r c a d) (pe p r c b d)).2 (po p (pe p r c a d) (m * n)).1 (po p (pe p r c a d) (m * n)).2 r m n hm hn (decide_eq_true (tv.2 (.inr zd))) awake_any (In_gb k.k a za _ (Sg_ig k.k sa)) (In_gb k.k b rfl _ (Sg_ig k.k sb)) (In_gb k.k d zd _ (Sg_ig k.k sd)) (Add_gb k sa.on sb.on za) (Pair_gb k sa sd za zd rfl) (Pair_gb k sb sd rfl zd rfl) (Pair_gb k (sa.add k.gg.F sb) sd rfl zd (pe_add k sa sb sd)) (Pair_gb k sd sa zd za (pe_sym k sa sd)) (Pair_gb k (sa.mul k.gg.F m) (sd.mul k.gg.F n) rfl rfl (pe_mul k sa sd m n)) (Times_gb k (pe_lt k sa) (pe_lt k sb)) (Mul_gb k sa.on za (by omega)) (Mul_gb k sd.on zd (by omega)) (Order_ok k.k.f.q.k) (Power_gb k (pe_lt k sa) (mul32 hm hn) rfl) (Power_gb k (pe_lt k sa) k.k.f.q.k.rb (pe_r k sa sd)) w
        · cases zd : d.2.2
          · exact bil_tF s a.1 a.2.1 b.1 b.2.1 b.2.2 d.1 d.2.1 (dA p a b).1 (dA p a b).2.1 (dA p a b).2.2 (dN p a m).1 (dN p a m).2.1 (dN p a m).2.2 (dN p d n).1 (dN p d n).2.1 (dN p d n).2.2 (pe p r c a d).1 (pe p r c a d).2 (pe p r c b d).1 (pe p r c b d).2 (pd p (pe p r c a d) (pe p r c b d)).1 (pd p (pe p r c a d) (pe p r c b d)).2 (po p (pe p r c a d) (m * n)).1 (po p (pe p r c a d) (m * n)).2 r m n hm hn (decide_eq_true (tv.2 (.inl za))) awake_any (In_gb k.k a za _ (Sg_ig k.k sa)) (In_gb k.k b rfl _ (Sg_ig k.k sb)) (In_gb k.k d zd _ (Sg_ig k.k sd)) (Add_gb k sa.on sb.on za) (Pair_gb k sa sd za zd rfl) (Pair_gb k sb sd rfl zd rfl) (Pair_gb k (sa.add k.gg.F sb) sd rfl zd (pe_add k sa sb sd)) (Pair_gb k sd sa zd za (pe_sym k sa sd)) (Pair_gb k (sa.mul k.gg.F m) (sd.mul k.gg.F n) rfl rfl (pe_mul k sa sd m n)) (Times_gb k (pe_lt k sa) (pe_lt k sb)) (Mul_gb k sa.on za (by omega)) (Mul_gb k sd.on zd (by omega)) (Order_ok k.k.f.q.k) (Power_gb k (pe_lt k sa) (mul32 hm hn) rfl) (Power_gb k (pe_lt k sa) k.k.f.q.k.rb (pe_r k sa sd)) w
          · exact bil_tt s a.1 a.2.1 b.1 b.2.1 b.2.2 d.1 d.2.1 (dA p a b).1 (dA p a b).2.1 (dA p a b).2.2 (dN p a m).1 (dN p a m).2.1 (dN p a m).2.2 (dN p d n).1 (dN p d n).2.1 (dN p d n).2.2 (pe p r c a d).1 (pe p r c a d).2 (pe p r c b d).1 (pe p r c b d).2 (pd p (pe p r c a d) (pe p r c b d)).1 (pd p (pe p r c a d) (pe p r c b d)).2 (po p (pe p r c a d) (m * n)).1 (po p (pe p r c a d) (m * n)).2 r m n hm hn (decide_eq_true (tv.2 (.inl za))) awake_any (In_gb k.k a za _ (Sg_ig k.k sa)) (In_gb k.k b rfl _ (Sg_ig k.k sb)) (In_gb k.k d zd _ (Sg_ig k.k sd)) (Add_gb k sa.on sb.on za) (Pair_gb k sa sd za zd rfl) (Pair_gb k sb sd rfl zd rfl) (Pair_gb k (sa.add k.gg.F sb) sd rfl zd (pe_add k sa sb sd)) (Pair_gb k sd sa zd za (pe_sym k sa sd)) (Pair_gb k (sa.mul k.gg.F m) (sd.mul k.gg.F n) rfl rfl (pe_mul k sa sd m n)) (Times_gb k (pe_lt k sa) (pe_lt k sb)) (Mul_gb k sa.on za (by omega)) (Mul_gb k sd.on zd (by omega)) (Order_ok k.k.f.q.k) (Power_gb k (pe_lt k sa) (mul32 hm hn) rfl) (Power_gb k (pe_lt k sa) k.k.f.q.k.rb (pe_r k sa sd)) w
end
end Rg
end Go.Proofs.Ytjmbgchoioepjaa
end
section
namespace Go.Proofs.Ytjmbgchoioepjaa
open Go.RowKit
namespace Rg
open NT
theorem ig_gb : ig 1152921504606846223 72057594037927889 613740293506734924 666621259561003659 false = true := by decide +kernel
theorem gn_1 : pr 786251 65521 12 9723 164643 9723 164643 false false ≠ (1, 0) := by
  rw [pr_g1]
  decide
theorem pr_fb (p r c X Y X' Y' : Nat) : pr p r c X Y X' Y' false false = ls p c (wk p r X Y X' Y' false) := rfl
theorem gn_2 : pr 1152921504606846223 72057594037927889 16 613740293506734924 666621259561003659 613740293506734924 666621259561003659 false false ≠ (1, 0) := by
  rw [pr_fb, ls_pm _ _ _ (by decide)]
  decide +kernel
theorem kb_1 : Kb 1 786251 65521 12 9723 164643 := ⟨kr_1, by decide, by decide, by decide, by decide, ig_g1, gn_1⟩
theorem kb_2 : Kb 2 1152921504606846223 72057594037927889 16 613740293506734924 666621259561003659 := ⟨kr_2, by decide, by decide, by decide, by decide, ig_gb, gn_2⟩
end Rg
end Go.Proofs.Ytjmbgchoioepjaa
end
section
namespace Go.Proofs.Ytjmbgchoioepjaa
open Go.RowKit
namespace Rg
open NT
theorem bil_any (s : Int) (X Y : Nat) (Z : Bool) (X' Y' : Nat) (Z' : Bool) (X3 Y3 : Nat) (Z3 : Bool) (m : Nat) (hm : m < 4294967296) (n : Nat) (hn : n < 4294967296) (w : World) : Calls Try.prog 7 #[.int .i64 s, .agg (pt X Y Z).toArray, .agg (pt X' Y' Z').toArray, .agg (pt X3 Y3 Z3).toArray, W32 m, W32 n] w fun e w' => e = .returned (.bool true) ∧ Below w.heap.size w w' := by
  by_cases h1 : s = 1
  · subst h1; exact bil_kb kb_1 (X, Y, Z) (X', Y', Z') (X3, Y3, Z3) m n hm hn w
  · by_cases h2 : s = 2
    · subst h2; exact bil_kb kb_2 (X, Y, Z) (X', Y', Z') (X3, Y3, Z3) m n hm hn w
    · exact bil_no s h1 h2 (X, Y, Z) (X', Y', Z') (X3, Y3, Z3) m n w
end Rg
end Go.Proofs.Ytjmbgchoioepjaa
end
section
namespace Go.Proofs.Ytjmbgchoioepjaa
open Go.ChangeShapes Go.WideShapes Go.ChangeAt Go.RowKit
theorem Try.own : ownKnob Try.prog.godebug = none := by kernel_rfl
theorem Try.laidOut : laidOutB Try.prog = true := by kernel_rfl
section
variable {H : Type} {enc : TypeId × Value → H} {w : World} {base : Nat} {sp : Nat → Bool} {held : Bool}
set_option maxRecDepth 100000 in
theorem cells_U {fuel : Nat} {cs : List Value} {x : DataW H × List MemPlace} (h : DataW.trod enc Try.prog w base sp held fuel 23 cs = some x) : (∃ a : Nat, a < 18446744073709551616 ∧ cs = [Rg.U a]) ∧ x.2 = [] := by
  obtain ⟨n, e1, e2, e3⟩ := DataW.trod_int Try.underlying23 h
  have hb := bounds_u64 e3
  exact ⟨⟨n.toNat, by omega, by rw [e1, Rg.U, Int.toNat_of_nonneg hb.1]⟩, by rw [e2]⟩
set_option maxRecDepth 100000 in
theorem cells_L1 {fuel : Nat} {cs : List Value} {x : DataW H × List MemPlace} (h : DataW.trod enc Try.prog w base sp held fuel 25 cs = some x) : (∃ a b z, a < 18446744073709551616 ∧ b < 18446744073709551616 ∧ cs = Rg.pt a b z) ∧ x.2 = [] := by
  obtain ⟨xs, n, -, hx, hl, hn, hel⟩ := DataW.trod_struct Try.underlying25 h
  have hl' : cs.length = 3 := hl.trans (by kernel_rfl)
  have hn' : xs.length = 3 := hn
  obtain ⟨c0, c1, c2, rfl⟩ : ∃ c0 c1 c2, cs = [c0, c1, c2] := by
    match cs, hl' with
    | [c0, c1, c2], _ => exact ⟨c0, c1, c2, rfl⟩
  match xs, hn' with
  | [x0, x1, x2], _ =>
    have f0 : DataW.trod enc Try.prog w base sp held n 23 [c0] = some x0 := by
      have f : DataW.trod enc Try.prog w base sp held n 23 ((([c0, c1, c2] : List Value).drop 0).take (Try.prog.cellsOf 23)) = some x0 := hel 0 _ rfl
      rw [show Try.prog.cellsOf 23 = 1 by kernel_rfl] at f
      exact f
    have f1 : DataW.trod enc Try.prog w base sp held n 23 [c1] = some x1 := by
      have f : DataW.trod enc Try.prog w base sp held n 23 ((([c0, c1, c2] : List Value).drop 1).take (Try.prog.cellsOf 23)) = some x1 := hel 1 _ rfl
      rw [show Try.prog.cellsOf 23 = 1 by kernel_rfl] at f
      exact f
    have f2 : DataW.trod enc Try.prog w base sp held n 4 [c2] = some x2 := by
      have f : DataW.trod enc Try.prog w base sp held n 4 ((([c0, c1, c2] : List Value).drop 2).take (Try.prog.cellsOf 4)) = some x2 := hel 2 _ rfl
      rw [show Try.prog.cellsOf 4 = 1 by kernel_rfl] at f
      exact f
    obtain ⟨⟨a, ha, e0⟩, q0⟩ := cells_U f0
    obtain ⟨⟨b, hb, e1⟩, q1⟩ := cells_U f1
    obtain ⟨z, e2, q2⟩ := DataW.trod_bool Try.underlying4 f2
    refine ⟨⟨a, b, z, ha, hb, ?_⟩, ?_⟩
    · injection e0 with e0 _
      injection e1 with e1 _
      injection e2 with e2 _
      rw [e0, e1, e2]
    · rw [hx]
      show x0.2 ++ (x1.2 ++ (x2.2 ++ [])) = []
      rw [q0, q1, q2]
      rfl
end
section
variable {H : Type} {enc : TypeId × Value → H} {w : World} {base : Nat} {sp : Nat → Bool} {held : Bool} {r : Reach} {b0 : Nat} {v : Value} {d : DataW H} {ps : List MemPlace}
set_option maxRecDepth 100000 in
theorem open_L1 (hval : Value.okWide Try.prog w r b0 25 v) (hd : DataW.Trod enc Try.prog w base sp held 25 v d ps) : ∃ a b z, a < 18446744073709551616 ∧ b < 18446744073709551616 ∧ v = Rg.V (Rg.pt a b z) ∧ ps = [] := by
  unfold Value.okWide at hval
  rw [Try.underlying25] at hval
  obtain ⟨cs, rfl, hsz, _⟩ := hval
  obtain ⟨fuel, hf⟩ := hd
  obtain ⟨⟨a, b, z, ha, hb, e⟩, hx⟩ := cells_L1 hf
  refine ⟨a, b, z, ha, hb, ?_, hx⟩
  have e2 : cs.toList = Rg.pt a b z := e
  rw [Rg.V, ← e2, Array.toArray_toList]
end
section
variable {H : Type} {enc : TypeId × Value → H} {w : World} {base : Nat} {sp : Nat → Bool} {held : Bool} {r : Reach} {b0 : Nat} {v : Value} {d : DataW H} {ps : List MemPlace}
set_option maxRecDepth 100000 in
theorem open_W (hval : Value.okWide Try.prog w r b0 68 v) (hd : DataW.Trod enc Try.prog w base sp held 68 v d ps) : ∃ a : Nat, a < 4294967296 ∧ v = .int .u32 (a : Int) ∧ ps = [] := by
  obtain ⟨n, rfl, rfl, rfl, hn⟩ := open_int Try.underlying68 hval hd
  have hb := bounds_u32 hn
  exact ⟨n.toNat, by omega, by rw [Int.toNat_of_nonneg hb.1], rfl⟩
end
theorem l1_stays {H : Type} {enc : TypeId × Value → H} {W W' : World} {v : Value} {d : DataW H}
    (h : DataW.Trod enc Try.prog W 0 (fun _ => true) true 25 v d []) (hb : Below W.heap.size W W') :
    DataW.Trod enc Try.prog W' 0 (fun b => decide (b < W.heap.size)) true 25 v d [] :=
  Below.trod Try.laidOut (by kernel_rfl) (by decide +kernel) h hb (fun _ hx => by cases hx)
theorem w_stays {H : Type} {enc : TypeId × Value → H} {W W' : World} {v : Value} {d : DataW H}
    (h : DataW.Trod enc Try.prog W 0 (fun _ => true) true 68 v d []) (hb : Below W.heap.size W W') :
    DataW.Trod enc Try.prog W' 0 (fun b => decide (b < W.heap.size)) true 68 v d [] :=
  Below.trod Try.laidOut (by kernel_rfl) (by decide +kernel) h hb (fun _ hx => by cases hx)
section
variable {H : Type} {enc : TypeId × Value → H} {P : Program} {w : World} {base : Nat} {spare : Nat → Bool} {held : Bool}
theorem trodAll_six {t0 t1 t2 t3 t4 t5 : TypeId} {args : Array Value} {ds : List (DataW H)} {ps : List MemPlace} (h : DataW.TrodAll enc P w base spare held [t0, t1, t2, t3, t4, t5] args.toList ds ps) :
    ∃ v0 v1 v2 v3 v4 v5 d0 d1 d2 d3 d4 d5 p0 p1 p2 p3 p4 p5, args = #[v0, v1, v2, v3, v4, v5] ∧ ds = [d0, d1, d2, d3, d4, d5] ∧ ps = p0 ++ p1 ++ p2 ++ p3 ++ p4 ++ p5 ∧ DataW.Trod enc P w base spare held t0 v0 d0 p0 ∧ DataW.Trod enc P w base spare held t1 v1 d1 p1 ∧ DataW.Trod enc P w base spare held t2 v2 d2 p2 ∧ DataW.Trod enc P w base spare held t3 v3 d3 p3 ∧ DataW.Trod enc P w base spare held t4 v4 d4 p4 ∧ DataW.Trod enc P w base spare held t5 v5 d5 p5 := by
  obtain ⟨v0, vs, d0, ds', p0, q, hargs, rfl, rfl, h0, r0⟩ := trodAll_cons h
  obtain ⟨v1, vs', d1, ds'', p1, q', rfl, rfl, rfl, h1, r1⟩ := trodAll_cons r0
  obtain ⟨v2, vs'', d2, ds3, p2, q'', rfl, rfl, rfl, h2, r2⟩ := trodAll_cons r1
  obtain ⟨v3, vs3, d3, ds4, p3, q3, rfl, rfl, rfl, h3, r3⟩ := trodAll_cons r2
  obtain ⟨v4, vs4, d4, ds5, p4, q4, rfl, rfl, rfl, h4, r4⟩ := trodAll_cons r3
  obtain ⟨v5, vs5, d5, ds6, p5, q5, rfl, rfl, rfl, h5, r5⟩ := trodAll_cons r4
  obtain ⟨rfl, rfl, rfl⟩ := trodAll_nil r5
  exact ⟨v0, v1, v2, v3, v4, v5, d0, d1, d2, d3, d4, d5, p0, p1, p2, p3, p4, p5, by cases args; simp_all, rfl, by simp, h0, h1, h2, h3, h4, h5⟩
theorem trodAll_mk6 {t0 t1 t2 t3 t4 t5 : TypeId} {v0 v1 v2 v3 v4 v5 : Value} {d0 d1 d2 d3 d4 d5 : DataW H} {p0 p1 p2 p3 p4 p5 : List MemPlace} (h0 : DataW.Trod enc P w base spare held t0 v0 d0 p0) (h1 : DataW.Trod enc P w base spare held t1 v1 d1 p1) (h2 : DataW.Trod enc P w base spare held t2 v2 d2 p2) (h3 : DataW.Trod enc P w base spare held t3 v3 d3 p3) (h4 : DataW.Trod enc P w base spare held t4 v4 d4 p4) (h5 : DataW.Trod enc P w base spare held t5 v5 d5 p5) : DataW.TrodAll enc P w base spare held [t0, t1, t2, t3, t4, t5] [v0, v1, v2, v3, v4, v5] [d0, d1, d2, d3, d4, d5] (p0 ++ (p1 ++ (p2 ++ (p3 ++ (p4 ++ p5))))) :=
  ⟨p0, _, h0, ⟨p1, _, h1, trodAll_mk4 h2 h3 h4 h5, rfl⟩, rfl⟩
end
end Go.Proofs.Ytjmbgchoioepjaa
end
