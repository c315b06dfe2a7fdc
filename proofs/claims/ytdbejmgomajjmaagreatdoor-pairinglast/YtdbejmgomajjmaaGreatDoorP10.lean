/- Texts of the proof, joined. -/
import Derived.Test.YtdbejmgomajjmaaGreatDoorP9
import Derived.ProofKit
import Derived.OpenShut
import Derived.Test.YtdbejmgomajjmaaGreatDoorRows
import Derived.LaidMore
import Derived.Stop.Joined
import Derived.Test.YtdbejmgomajjmaaGreatDoorTie
section
namespace Go.Proofs.YtdbejmgomajjmaaGreatDoor
open Go.RowKit
namespace Rg
set_option maxHeartbeats 4000000 in
set_option maxRecDepth 100000 in
theorem last_1 (a b m y : Nat → Nat) (k0 k1 : Nat) (fe : Int) (ez : ∀ w, (Op.equalIn 10000 32 (V [0, 0, 0, 0, 0, 0, 0, 0, 0, 0, 0, 0]) (V [0, 0, 0, 0, 0, 0, 0, 0, 0, 0, 0, 0])).run Tryz.prog w = .ok true w)
    (c0 : ∀ w, Mm w [(0, dtab)] → Calls Tryz.prog 17 #[] w fun e w' => e = .returned (.bool true) ∧ Below w.heap.size w w')
    (c1 : ∀ w, Calls Tryz.prog 22 #[V (tl a), V (tl b)] w fun e w' => e = .returned (V (tl m)) ∧ Below w.heap.size w w')
    (c2 : ∀ w, Mm w [(0, dtab)] → Calls Tryz.prog 13 #[V (tl a)] w fun e w' => e = .returned (.tuple #[V [0, 0, 0, 0, 0, 0, 0, 0, 0, 0, 0, 0], .int .i64 6]) ∧ Below w.heap.size w w')
    (c3 : ∀ w, Mm w [(0, dtab)] → Calls Tryz.prog 13 #[V (tl b)] w fun e w' => e = .returned (.tuple #[V (tl y), .int .i64 fe]) ∧ Below w.heap.size w w')
    (c4 : ∀ w, Mm w [(0, dtab)] → Calls Tryz.prog 13 #[V (tl m)] w fun e w' => e = .returned (.tuple #[V [0, 0, 0, 0, 0, 0, 0, 0, 0, 0, 0, 0], .int .i64 6]) ∧ Below w.heap.size w w') (w : World) (hm : Mm w [(0, dtab)]) :
    Calls Tryz.prog 7 #[V (tl a), V (tl b), V [k0, k1]] w fun e w' => e = .returned (.bool true) ∧ Below w.heap.size w w' := by
  have H0 : Hid (_ ∧ _) := ⟨hm, Below.refl w.heap.size w⟩
  clear hm
  have C0 : Hid _ := c0
  have C1 : Hid _ := c1
  have C2 : Hid _ := c2
  have C3 : Hid _ := c3
  have C4 : Hid _ := c4
  clear c0 c1 c2 c3 c4
  go_enter Tryz.func7, Tryz.ntmps7
  refine wp_seq ?_
  refine walk_seqA 4 [.made (cel (tl a)) 32, .made (cel (tl b)) 32, .made (cel [k0, k1]) 28, .quiet (.bool false)] (sB H0) ?ho1 ?he1
  case ho1 => exact ak (fun γ => ⟨rfl, fun w' => ex_boxA rfl rfl⟩) (ak (fun γ => ⟨rfl, fun w' => ex_boxA rfl rfl⟩) (ak (fun γ => ⟨rfl, fun w' => ex_boxA rfl rfl⟩) (ak (fun _ => ⟨rfl, fun _ _ => rfl⟩) trivial)))
  intro γ w1 l hM hl
  have H1 : Hid (Mm w1 [(γ 0, cel (tl a)), (γ 1, cel (tl b)), (γ 2, cel [k0, k1]), (0, dtab)] ∧ _) := growB H0 hM (Nat.le_refl _) hl [0, 1, 2] rfl (by decide)
  have o1_0 := ownB H0 hM (Nat.le_refl _) hl (i := 0) rfl
  have o1_1 := ownB H0 hM (Nat.le_refl _) hl (i := 1) rfl
  have o1_2 := ownB H0 hM (Nat.le_refl _) hl (i := 2) rfl
  clear hM hl l
  generalize γ 0 = γ1_0 at H1 o1_0 ⊢
  generalize γ 1 = γ1_1 at H1 o1_1 ⊢
  generalize γ 2 = γ1_2 at H1 o1_2 ⊢
  clear γ
  refine rest0 rfl (then_normal (wp_seq ?_))
  refine walk_seqB 2 [.call (.bool true), .quiet (.bool true)] H1 ?ho2 ?he2
  case ho2 => exact ak (fun γ => ⟨rfl, fun w' h => ⟨17, #[], exec_call rfl call17 rfl (mpn rfl), C0.out w' (h.one 3 rfl)⟩⟩) (ak (fun _ => ⟨rfl, fun _ _ => rfl⟩) trivial)
  intro _ w2 H2
  clear H1
  refine rest0 rfl (then_normal (wp_seq ?_))
  refine walk_seqA 8 [.quiet (V (tl a)), .call (.tuple #[V [0, 0, 0, 0, 0, 0, 0, 0, 0, 0, 0, 0], .int .i64 6]), .quiet (.tuple #[V [0, 0, 0, 0, 0, 0, 0, 0, 0, 0, 0, 0], .int .i64 6]), .quiet (V [0, 0, 0, 0, 0, 0, 0, 0, 0, 0, 0, 0]), .quiet (.int .i64 6), .made (cel [0, 0, 0, 0, 0, 0, 0, 0, 0, 0, 0, 0]) 32, .laid 5 (cel [0, 0, 0, 0, 0, 0, 0, 0, 0, 0, 0, 0]) (cel [0, 0, 0, 0, 0, 0, 0, 0, 0, 0, 0, 0]), .quiet (.int .i64 6)] (sB H2) ?ho3 ?he3 (hL := ?hL3)
  case hL3 => exact ⟨⟨_, rfl⟩, trivial⟩
  case ho3 => exact ak (fun γ => ⟨rfl, fun w' h => ex_loadA (i := 0) (k := 12) h 0 rfl rfl rfl Tryz.isAgg32 Tryz.sizeOf32 rfl rfl⟩) (ak (fun γ => ⟨rfl, fun w' h => ⟨13, #[V (tl a)], exec_call rfl call13 rfl (mpn rfl), C2.out w' (h.one 3 rfl)⟩⟩) (ak (fun _ => ⟨rfl, fun _ _ => rfl⟩) (ak (by refine fun γ => ⟨rfl, fun w' h => ?_⟩; clear h; go_simp) (ak (by refine fun γ => ⟨rfl, fun w' h => ?_⟩; clear h; go_simp) (ak (fun γ => ⟨rfl, fun w' => ex_madeE12 rfl⟩) (ak (fun γ => ⟨rfl, rfl, rfl, fun w' h => ex_laidA h rfl Tryz.sizeOf32 rfl rfl rfl⟩) (ak (fun _ => ⟨rfl, fun _ _ => rfl⟩) trivial)))))))
  intro γ w3 l hM hl
  have H3 : Hid (Mm w3 [(γ 5, cel [0, 0, 0, 0, 0, 0, 0, 0, 0, 0, 0, 0]), (γ1_0, cel (tl a)), (γ1_1, cel (tl b)), (γ1_2, cel [k0, k1]), (0, dtab)] ∧ _) := growB H2 hM (Nat.le_refl _) hl [5] rfl (by decide)
  have o3_5 := ownB H2 hM (Nat.le_refl _) hl (i := 5) rfl
  clear hM hl l H2
  generalize γ 5 = γ3_5 at H3 o3_5 ⊢
  clear γ
  refine rest0 rfl (then_normal (wp_seq ?_))
  refine walk_seqA 8 [.quiet (V (tl b)), .call (.tuple #[V (tl y), .int .i64 fe]), .quiet (.tuple #[V (tl y), .int .i64 fe]), .quiet (V (tl y)), .quiet (.int .i64 fe), .made (cel [0, 0, 0, 0, 0, 0, 0, 0, 0, 0, 0, 0]) 32, .laid 5 (cel [0, 0, 0, 0, 0, 0, 0, 0, 0, 0, 0, 0]) (cel (tl y)), .quiet (.int .i64 fe)] (sB H3) ?ho4 ?he4 (hL := ?hL4)
  case hL4 => exact ⟨⟨_, rfl⟩, trivial⟩
  case ho4 => exact ak (fun γ => ⟨rfl, fun w' h => ex_loadA (i := 0) (k := 12) h 2 rfl rfl rfl Tryz.isAgg32 Tryz.sizeOf32 rfl rfl⟩) (ak (fun γ => ⟨rfl, fun w' h => ⟨13, #[V (tl b)], exec_call rfl call13 rfl (mpn rfl), C3.out w' (h.one 4 rfl)⟩⟩) (ak (fun _ => ⟨rfl, fun _ _ => rfl⟩) (ak (by refine fun γ => ⟨rfl, fun w' h => ?_⟩; clear h; go_simp) (ak (by refine fun γ => ⟨rfl, fun w' h => ?_⟩; clear h; go_simp) (ak (fun γ => ⟨rfl, fun w' => ex_madeE12 rfl⟩) (ak (fun γ => ⟨rfl, rfl, rfl, fun w' h => ex_laidA h rfl Tryz.sizeOf32 rfl rfl rfl⟩) (ak (fun _ => ⟨rfl, fun _ _ => rfl⟩) trivial)))))))
  intro γ w4 l hM hl
  have H4 : Hid (Mm w4 [(γ 5, cel (tl y)), (γ3_5, cel [0, 0, 0, 0, 0, 0, 0, 0, 0, 0, 0, 0]), (γ1_0, cel (tl a)), (γ1_1, cel (tl b)), (γ1_2, cel [k0, k1]), (0, dtab)] ∧ _) := growB H3 hM (Nat.le_refl _) hl [5] rfl (by decide)
  have o4_5 := ownB H3 hM (Nat.le_refl _) hl (i := 5) rfl
  clear hM hl l H3
  generalize γ 5 = γ4_5 at H4 o4_5 ⊢
  clear γ
  refine rest0 rfl (then_normal (wp_seq ?_))
  refine walk_seqA 10 [.quiet (V (tl a)), .quiet (V (tl b)), .call (V (tl m)), .call (.tuple #[V [0, 0, 0, 0, 0, 0, 0, 0, 0, 0, 0, 0], .int .i64 6]), .quiet (.tuple #[V [0, 0, 0, 0, 0, 0, 0, 0, 0, 0, 0, 0], .int .i64 6]), .quiet (V [0, 0, 0, 0, 0, 0, 0, 0, 0, 0, 0, 0]), .quiet (.int .i64 6), .made (cel [0, 0, 0, 0, 0, 0, 0, 0, 0, 0, 0, 0]) 32, .laid 7 (cel [0, 0, 0, 0, 0, 0, 0, 0, 0, 0, 0, 0]) (cel [0, 0, 0, 0, 0, 0, 0, 0, 0, 0, 0, 0]), .quiet (.int .i64 6)] (sB H4) ?ho5 ?he5 (hL := ?hL5)
  case hL5 => exact ⟨⟨_, rfl⟩, trivial⟩
  case ho5 => exact ak (fun γ => ⟨rfl, fun w' h => ex_loadA (i := 0) (k := 12) h 2 rfl rfl rfl Tryz.isAgg32 Tryz.sizeOf32 rfl rfl⟩) (ak (fun γ => ⟨rfl, fun w' h => ex_loadA (i := 0) (k := 12) h 3 rfl rfl rfl Tryz.isAgg32 Tryz.sizeOf32 rfl rfl⟩) (ak (fun γ => ⟨rfl, fun w' h => ⟨22, #[V (tl a), V (tl b)], exec_call rfl call22 rfl (mpn rfl), C1.out w'⟩⟩) (ak (fun γ => ⟨rfl, fun w' h => ⟨13, #[V (tl m)], exec_call rfl call13 rfl (mpn rfl), C4.out w' (h.one 5 rfl)⟩⟩) (ak (fun _ => ⟨rfl, fun _ _ => rfl⟩) (ak (by refine fun γ => ⟨rfl, fun w' h => ?_⟩; clear h; go_simp) (ak (by refine fun γ => ⟨rfl, fun w' h => ?_⟩; clear h; go_simp) (ak (fun γ => ⟨rfl, fun w' => ex_madeE12 rfl⟩) (ak (fun γ => ⟨rfl, rfl, rfl, fun w' h => ex_laidA h rfl Tryz.sizeOf32 rfl rfl rfl⟩) (ak (fun _ => ⟨rfl, fun _ _ => rfl⟩) trivial)))))))))
  intro γ w5 l hM hl
  have H5 : Hid (Mm w5 [(γ 7, cel [0, 0, 0, 0, 0, 0, 0, 0, 0, 0, 0, 0]), (γ4_5, cel (tl y)), (γ3_5, cel [0, 0, 0, 0, 0, 0, 0, 0, 0, 0, 0, 0]), (γ1_0, cel (tl a)), (γ1_1, cel (tl b)), (γ1_2, cel [k0, k1]), (0, dtab)] ∧ _) := growB H4 hM (Nat.le_refl _) hl [7] rfl (by decide)
  have o5_7 := ownB H4 hM (Nat.le_refl _) hl (i := 7) rfl
  clear hM hl l H4
  generalize γ 7 = γ5_7 at H5 o5_7 ⊢
  clear γ
  refine rest0 rfl (then_normal (wp_seq (wp_seq ?_)))
  refine walk_seqB 6 [.quiet (.int .i64 6), .quiet (.bool true), .quiet (.bool true), .gone, .gone, .quiet (.bool true)] H5 ?ho6 ?he6
  case ho6 => exact ak (fun _ => ⟨rfl, fun _ _ => rfl⟩) (ak (by refine fun γ => ⟨rfl, fun w' h => ?_⟩; clear h; go_simp) (ak (fun _ => ⟨rfl, fun _ _ => rfl⟩) (ak (fun γ => rfl) (ak (fun γ => rfl) (ak (by refine fun γ => ⟨rfl, fun w' h => ?_⟩; clear h; go_simp) trivial)))))
  intro _ w6 H6
  clear H5
  refine rest0 rfl (then_normal (wp_cond_true rfl (wp_seq ?_)))
  refine walk_seqB 11 [.quiet (.bool true), .quiet (.bool true), .quiet (.int .i64 6), .quiet (.bool true), .quiet (.bool true), .quiet (.bool true), .quiet (V [0, 0, 0, 0, 0, 0, 0, 0, 0, 0, 0, 0]), .quiet (V [0, 0, 0, 0, 0, 0, 0, 0, 0, 0, 0, 0]), .quiet (.bool true), .quiet (.bool true), .quiet (.bool true)] H6 ?ho7 ?he7
  case ho7 => exact ak (fun _ => ⟨rfl, fun _ _ => rfl⟩) (ak (fun _ => ⟨rfl, fun _ _ => rfl⟩) (ak (fun _ => ⟨rfl, fun _ _ => rfl⟩) (ak (by refine fun γ => ⟨rfl, fun w' h => ?_⟩; clear h; go_simp) (ak (by refine fun γ => ⟨rfl, fun w' h => ?_⟩; clear h; go_simp) (ak (fun _ => ⟨rfl, fun _ _ => rfl⟩) (ak (fun γ => ⟨rfl, fun w' h => ex_loadA (i := 0) (k := 12) h 0 rfl rfl rfl Tryz.isAgg32 Tryz.sizeOf32 rfl rfl⟩) (ak (fun γ => ⟨rfl, fun w' _ => ex_buildE12z rfl⟩) (ak (fun γ => ⟨rfl, fun w' _ => exec_eqE12 ez rfl rfl rfl⟩) (ak (by refine fun γ => ⟨rfl, fun w' h => ?_⟩; clear h; go_simp) (ak (fun _ => ⟨rfl, fun _ _ => rfl⟩) trivial))))))))))
  intro _ w7 H7
  clear H6
  refine rest0 rfl (then_normal (wp_ret ?_))
  repeat (first | refine then_ret ?_ | refine block_ret ?_)
  refine bodyPost_ret (v := .bool true) (by simp [results, Tryz.results7, go_sem, *]) rfl ?_
  exact ⟨rfl, H7.out.2⟩
set_option maxHeartbeats 4000000 in
set_option maxRecDepth 100000 in
theorem last_2 (a b m x : Nat → Nat) (k0 k1 : Nat) (ez : ∀ w, (Op.equalIn 10000 32 (V [0, 0, 0, 0, 0, 0, 0, 0, 0, 0, 0, 0]) (V [0, 0, 0, 0, 0, 0, 0, 0, 0, 0, 0, 0])).run Tryz.prog w = .ok true w)
    (c0 : ∀ w, Mm w [(0, dtab)] → Calls Tryz.prog 17 #[] w fun e w' => e = .returned (.bool true) ∧ Below w.heap.size w w')
    (c1 : ∀ w, Calls Tryz.prog 22 #[V (tl a), V (tl b)] w fun e w' => e = .returned (V (tl m)) ∧ Below w.heap.size w w')
    (c2 : ∀ w, Mm w [(0, dtab)] → Calls Tryz.prog 13 #[V (tl a)] w fun e w' => e = .returned (.tuple #[V (tl x), .int .i64 0]) ∧ Below w.heap.size w w')
    (c3 : ∀ w, Mm w [(0, dtab)] → Calls Tryz.prog 13 #[V (tl b)] w fun e w' => e = .returned (.tuple #[V [0, 0, 0, 0, 0, 0, 0, 0, 0, 0, 0, 0], .int .i64 6]) ∧ Below w.heap.size w w')
    (c4 : ∀ w, Mm w [(0, dtab)] → Calls Tryz.prog 13 #[V (tl m)] w fun e w' => e = .returned (.tuple #[V [0, 0, 0, 0, 0, 0, 0, 0, 0, 0, 0, 0], .int .i64 6]) ∧ Below w.heap.size w w') (w : World) (hm : Mm w [(0, dtab)]) :
    Calls Tryz.prog 7 #[V (tl a), V (tl b), V [k0, k1]] w fun e w' => e = .returned (.bool true) ∧ Below w.heap.size w w' := by
  have H0 : Hid (_ ∧ _) := ⟨hm, Below.refl w.heap.size w⟩
  clear hm
  have C0 : Hid _ := c0
  have C1 : Hid _ := c1
  have C2 : Hid _ := c2
  have C3 : Hid _ := c3
  have C4 : Hid _ := c4
  clear c0 c1 c2 c3 c4
  go_enter Tryz.func7, Tryz.ntmps7
  refine wp_seq ?_
  refine walk_seqA 4 [.made (cel (tl a)) 32, .made (cel (tl b)) 32, .made (cel [k0, k1]) 28, .quiet (.bool false)] (sB H0) ?ho1 ?he1
  case ho1 => exact ak (fun γ => ⟨rfl, fun w' => ex_boxA rfl rfl⟩) (ak (fun γ => ⟨rfl, fun w' => ex_boxA rfl rfl⟩) (ak (fun γ => ⟨rfl, fun w' => ex_boxA rfl rfl⟩) (ak (fun _ => ⟨rfl, fun _ _ => rfl⟩) trivial)))
  intro γ w1 l hM hl
  have H1 : Hid (Mm w1 [(γ 0, cel (tl a)), (γ 1, cel (tl b)), (γ 2, cel [k0, k1]), (0, dtab)] ∧ _) := growB H0 hM (Nat.le_refl _) hl [0, 1, 2] rfl (by decide)
  have o1_0 := ownB H0 hM (Nat.le_refl _) hl (i := 0) rfl
  have o1_1 := ownB H0 hM (Nat.le_refl _) hl (i := 1) rfl
  have o1_2 := ownB H0 hM (Nat.le_refl _) hl (i := 2) rfl
  clear hM hl l
  generalize γ 0 = γ1_0 at H1 o1_0 ⊢
  generalize γ 1 = γ1_1 at H1 o1_1 ⊢
  generalize γ 2 = γ1_2 at H1 o1_2 ⊢
  clear γ
  refine rest0 rfl (then_normal (wp_seq ?_))
  refine walk_seqB 2 [.call (.bool true), .quiet (.bool true)] H1 ?ho2 ?he2
  case ho2 => exact ak (fun γ => ⟨rfl, fun w' h => ⟨17, #[], exec_call rfl call17 rfl (mpn rfl), C0.out w' (h.one 3 rfl)⟩⟩) (ak (fun _ => ⟨rfl, fun _ _ => rfl⟩) trivial)
  intro _ w2 H2
  clear H1
  refine rest0 rfl (then_normal (wp_seq ?_))
  refine walk_seqA 8 [.quiet (V (tl a)), .call (.tuple #[V (tl x), .int .i64 0]), .quiet (.tuple #[V (tl x), .int .i64 0]), .quiet (V (tl x)), .quiet (.int .i64 0), .made (cel [0, 0, 0, 0, 0, 0, 0, 0, 0, 0, 0, 0]) 32, .laid 5 (cel [0, 0, 0, 0, 0, 0, 0, 0, 0, 0, 0, 0]) (cel (tl x)), .quiet (.int .i64 0)] (sB H2) ?ho3 ?he3 (hL := ?hL3)
  case hL3 => exact ⟨⟨_, rfl⟩, trivial⟩
  case ho3 => exact ak (fun γ => ⟨rfl, fun w' h => ex_loadA (i := 0) (k := 12) h 0 rfl rfl rfl Tryz.isAgg32 Tryz.sizeOf32 rfl rfl⟩) (ak (fun γ => ⟨rfl, fun w' h => ⟨13, #[V (tl a)], exec_call rfl call13 rfl (mpn rfl), C2.out w' (h.one 3 rfl)⟩⟩) (ak (fun _ => ⟨rfl, fun _ _ => rfl⟩) (ak (by refine fun γ => ⟨rfl, fun w' h => ?_⟩; clear h; go_simp) (ak (by refine fun γ => ⟨rfl, fun w' h => ?_⟩; clear h; go_simp) (ak (fun γ => ⟨rfl, fun w' => ex_madeE12 rfl⟩) (ak (fun γ => ⟨rfl, rfl, rfl, fun w' h => ex_laidA h rfl Tryz.sizeOf32 rfl rfl rfl⟩) (ak (fun _ => ⟨rfl, fun _ _ => rfl⟩) trivial)))))))
  intro γ w3 l hM hl
  have H3 : Hid (Mm w3 [(γ 5, cel (tl x)), (γ1_0, cel (tl a)), (γ1_1, cel (tl b)), (γ1_2, cel [k0, k1]), (0, dtab)] ∧ _) := growB H2 hM (Nat.le_refl _) hl [5] rfl (by decide)
  have o3_5 := ownB H2 hM (Nat.le_refl _) hl (i := 5) rfl
  clear hM hl l H2
  generalize γ 5 = γ3_5 at H3 o3_5 ⊢
  clear γ
  refine rest0 rfl (then_normal (wp_seq ?_))
  refine walk_seqA 8 [.quiet (V (tl b)), .call (.tuple #[V [0, 0, 0, 0, 0, 0, 0, 0, 0, 0, 0, 0], .int .i64 6]), .quiet (.tuple #[V [0, 0, 0, 0, 0, 0, 0, 0, 0, 0, 0, 0], .int .i64 6]), .quiet (V [0, 0, 0, 0, 0, 0, 0, 0, 0, 0, 0, 0]), .quiet (.int .i64 6), .made (cel [0, 0, 0, 0, 0, 0, 0, 0, 0, 0, 0, 0]) 32, .laid 5 (cel [0, 0, 0, 0, 0, 0, 0, 0, 0, 0, 0, 0]) (cel [0, 0, 0, 0, 0, 0, 0, 0, 0, 0, 0, 0]), .quiet (.int .i64 6)] (sB H3) ?ho4 ?he4 (hL := ?hL4)
  case hL4 => exact ⟨⟨_, rfl⟩, trivial⟩
  case ho4 => exact ak (fun γ => ⟨rfl, fun w' h => ex_loadA (i := 0) (k := 12) h 2 rfl rfl rfl Tryz.isAgg32 Tryz.sizeOf32 rfl rfl⟩) (ak (fun γ => ⟨rfl, fun w' h => ⟨13, #[V (tl b)], exec_call rfl call13 rfl (mpn rfl), C3.out w' (h.one 4 rfl)⟩⟩) (ak (fun _ => ⟨rfl, fun _ _ => rfl⟩) (ak (by refine fun γ => ⟨rfl, fun w' h => ?_⟩; clear h; go_simp) (ak (by refine fun γ => ⟨rfl, fun w' h => ?_⟩; clear h; go_simp) (ak (fun γ => ⟨rfl, fun w' => ex_madeE12 rfl⟩) (ak (fun γ => ⟨rfl, rfl, rfl, fun w' h => ex_laidA h rfl Tryz.sizeOf32 rfl rfl rfl⟩) (ak (fun _ => ⟨rfl, fun _ _ => rfl⟩) trivial)))))))
  intro γ w4 l hM hl
  have H4 : Hid (Mm w4 [(γ 5, cel [0, 0, 0, 0, 0, 0, 0, 0, 0, 0, 0, 0]), (γ3_5, cel (tl x)), (γ1_0, cel (tl a)), (γ1_1, cel (tl b)), (γ1_2, cel [k0, k1]), (0, dtab)] ∧ _) := growB H3 hM (Nat.le_refl _) hl [5] rfl (by decide)
  have o4_5 := ownB H3 hM (Nat.le_refl _) hl (i := 5) rfl
  clear hM hl l H3
  generalize γ 5 = γ4_5 at H4 o4_5 ⊢
  clear γ
  refine rest0 rfl (then_normal (wp_seq ?_))
  refine walk_seqA 10 [.quiet (V (tl a)), .quiet (V (tl b)), .call (V (tl m)), .call (.tuple #[V [0, 0, 0, 0, 0, 0, 0, 0, 0, 0, 0, 0], .int .i64 6]), .quiet (.tuple #[V [0, 0, 0, 0, 0, 0, 0, 0, 0, 0, 0, 0], .int .i64 6]), .quiet (V [0, 0, 0, 0, 0, 0, 0, 0, 0, 0, 0, 0]), .quiet (.int .i64 6), .made (cel [0, 0, 0, 0, 0, 0, 0, 0, 0, 0, 0, 0]) 32, .laid 7 (cel [0, 0, 0, 0, 0, 0, 0, 0, 0, 0, 0, 0]) (cel [0, 0, 0, 0, 0, 0, 0, 0, 0, 0, 0, 0]), .quiet (.int .i64 6)] (sB H4) ?ho5 ?he5 (hL := ?hL5)
  case hL5 => exact ⟨⟨_, rfl⟩, trivial⟩
  case ho5 => exact ak (fun γ => ⟨rfl, fun w' h => ex_loadA (i := 0) (k := 12) h 2 rfl rfl rfl Tryz.isAgg32 Tryz.sizeOf32 rfl rfl⟩) (ak (fun γ => ⟨rfl, fun w' h => ex_loadA (i := 0) (k := 12) h 3 rfl rfl rfl Tryz.isAgg32 Tryz.sizeOf32 rfl rfl⟩) (ak (fun γ => ⟨rfl, fun w' h => ⟨22, #[V (tl a), V (tl b)], exec_call rfl call22 rfl (mpn rfl), C1.out w'⟩⟩) (ak (fun γ => ⟨rfl, fun w' h => ⟨13, #[V (tl m)], exec_call rfl call13 rfl (mpn rfl), C4.out w' (h.one 5 rfl)⟩⟩) (ak (fun _ => ⟨rfl, fun _ _ => rfl⟩) (ak (by refine fun γ => ⟨rfl, fun w' h => ?_⟩; clear h; go_simp) (ak (by refine fun γ => ⟨rfl, fun w' h => ?_⟩; clear h; go_simp) (ak (fun γ => ⟨rfl, fun w' => ex_madeE12 rfl⟩) (ak (fun γ => ⟨rfl, rfl, rfl, fun w' h => ex_laidA h rfl Tryz.sizeOf32 rfl rfl rfl⟩) (ak (fun _ => ⟨rfl, fun _ _ => rfl⟩) trivial)))))))))
  intro γ w5 l hM hl
  have H5 : Hid (Mm w5 [(γ 7, cel [0, 0, 0, 0, 0, 0, 0, 0, 0, 0, 0, 0]), (γ4_5, cel [0, 0, 0, 0, 0, 0, 0, 0, 0, 0, 0, 0]), (γ3_5, cel (tl x)), (γ1_0, cel (tl a)), (γ1_1, cel (tl b)), (γ1_2, cel [k0, k1]), (0, dtab)] ∧ _) := growB H4 hM (Nat.le_refl _) hl [7] rfl (by decide)
  have o5_7 := ownB H4 hM (Nat.le_refl _) hl (i := 7) rfl
  clear hM hl l H4
  generalize γ 7 = γ5_7 at H5 o5_7 ⊢
  clear γ
  refine rest0 rfl (then_normal (wp_seq (wp_seq ?_)))
  refine walk_seqB 6 [.quiet (.int .i64 0), .quiet (.bool false), .quiet (.bool false), .quiet (.int .i64 6), .quiet (.bool true), .quiet (.bool true)] H5 ?ho6 ?he6
  case ho6 => exact ak (fun _ => ⟨rfl, fun _ _ => rfl⟩) (ak (by refine fun γ => ⟨rfl, fun w' h => ?_⟩; clear h; go_simp) (ak (fun _ => ⟨rfl, fun _ _ => rfl⟩) (ak (fun _ => ⟨rfl, fun _ _ => rfl⟩) (ak (by refine fun γ => ⟨rfl, fun w' h => ?_⟩; clear h; go_simp) (ak (by refine fun γ => ⟨rfl, fun w' h => ?_⟩; clear h; go_simp) trivial)))))
  intro _ w6 H6
  clear H5
  refine rest0 rfl (then_normal (wp_cond_true rfl (wp_seq ?_)))
  refine walk_seqB 11 [.quiet (.bool true), .quiet (.bool true), .quiet (.int .i64 6), .quiet (.bool true), .quiet (.bool true), .quiet (.bool true), .quiet (V [0, 0, 0, 0, 0, 0, 0, 0, 0, 0, 0, 0]), .quiet (V [0, 0, 0, 0, 0, 0, 0, 0, 0, 0, 0, 0]), .quiet (.bool true), .quiet (.bool true), .quiet (.bool true)] H6 ?ho7 ?he7
  case ho7 => exact ak (fun _ => ⟨rfl, fun _ _ => rfl⟩) (ak (fun _ => ⟨rfl, fun _ _ => rfl⟩) (ak (fun _ => ⟨rfl, fun _ _ => rfl⟩) (ak (by refine fun γ => ⟨rfl, fun w' h => ?_⟩; clear h; go_simp) (ak (by refine fun γ => ⟨rfl, fun w' h => ?_⟩; clear h; go_simp) (ak (fun _ => ⟨rfl, fun _ _ => rfl⟩) (ak (fun γ => ⟨rfl, fun w' h => ex_loadA (i := 0) (k := 12) h 0 rfl rfl rfl Tryz.isAgg32 Tryz.sizeOf32 rfl rfl⟩) (ak (fun γ => ⟨rfl, fun w' _ => ex_buildE12z rfl⟩) (ak (fun γ => ⟨rfl, fun w' _ => exec_eqE12 ez rfl rfl rfl⟩) (ak (by refine fun γ => ⟨rfl, fun w' h => ?_⟩; clear h; go_simp) (ak (fun _ => ⟨rfl, fun _ _ => rfl⟩) trivial))))))))))
  intro _ w7 H7
  clear H6
  refine rest0 rfl (then_normal (wp_ret ?_))
  repeat (first | refine then_ret ?_ | refine block_ret ?_)
  refine bodyPost_ret (v := .bool true) (by simp [results, Tryz.results7, go_sem, *]) rfl ?_
  exact ⟨rfl, H7.out.2⟩
set_option maxHeartbeats 4000000 in
set_option maxRecDepth 100000 in
theorem last_3 (a b m x y z : Nat → Nat) (k0 k1 : Nat) (ez : ∀ w, (Op.equalIn 10000 32 (V (tl z)) (V (tl z))).run Tryz.prog w = .ok true w)
    (c0 : ∀ w, Mm w [(0, dtab)] → Calls Tryz.prog 17 #[] w fun e w' => e = .returned (.bool true) ∧ Below w.heap.size w w')
    (c1 : ∀ w, Calls Tryz.prog 22 #[V (tl a), V (tl b)] w fun e w' => e = .returned (V (tl m)) ∧ Below w.heap.size w w')
    (c2 : ∀ w, Mm w [(0, dtab)] → Calls Tryz.prog 13 #[V (tl a)] w fun e w' => e = .returned (.tuple #[V (tl x), .int .i64 0]) ∧ Below w.heap.size w w')
    (c3 : ∀ w, Mm w [(0, dtab)] → Calls Tryz.prog 13 #[V (tl b)] w fun e w' => e = .returned (.tuple #[V (tl y), .int .i64 0]) ∧ Below w.heap.size w w')
    (c4 : ∀ w, Mm w [(0, dtab)] → Calls Tryz.prog 13 #[V (tl m)] w fun e w' => e = .returned (.tuple #[V (tl z), .int .i64 0]) ∧ Below w.heap.size w w')
    (c5 : ∀ w, Calls Tryz.prog 22 #[V (tl x), V (tl y)] w fun e w' => e = .returned (V (tl z)) ∧ Below w.heap.size w w')
    (c6 : ∀ w, Mm w [(0, dtab)] → Calls Tryz.prog 13 #[V [k0, k1, 0, 0, 0, 0, 0, 0, 0, 0, 0, 0]] w fun e w' => e = .returned (.tuple #[V [0, 0, 0, 0, 0, 0, 0, 0, 0, 0, 0, 0], .int .i64 6]) ∧ Below w.heap.size w w') (w : World) (hm : Mm w [(0, dtab)]) :
    Calls Tryz.prog 7 #[V (tl a), V (tl b), V [k0, k1]] w fun e w' => e = .returned (.bool true) ∧ Below w.heap.size w w' := by
  have H0 : Hid (_ ∧ _) := ⟨hm, Below.refl w.heap.size w⟩
  clear hm
  have C0 : Hid _ := c0
  have C1 : Hid _ := c1
  have C2 : Hid _ := c2
  have C3 : Hid _ := c3
  have C4 : Hid _ := c4
  have C5 : Hid _ := c5
  have C6 : Hid _ := c6
  clear c0 c1 c2 c3 c4 c5 c6
  go_enter Tryz.func7, Tryz.ntmps7
  refine wp_seq ?_
  refine walk_seqA 4 [.made (cel (tl a)) 32, .made (cel (tl b)) 32, .made (cel [k0, k1]) 28, .quiet (.bool false)] (sB H0) ?ho1 ?he1
  case ho1 => exact ak (fun γ => ⟨rfl, fun w' => ex_boxA rfl rfl⟩) (ak (fun γ => ⟨rfl, fun w' => ex_boxA rfl rfl⟩) (ak (fun γ => ⟨rfl, fun w' => ex_boxA rfl rfl⟩) (ak (fun _ => ⟨rfl, fun _ _ => rfl⟩) trivial)))
  intro γ w1 l hM hl
  have H1 : Hid (Mm w1 [(γ 0, cel (tl a)), (γ 1, cel (tl b)), (γ 2, cel [k0, k1]), (0, dtab)] ∧ _) := growB H0 hM (Nat.le_refl _) hl [0, 1, 2] rfl (by decide)
  have o1_0 := ownB H0 hM (Nat.le_refl _) hl (i := 0) rfl
  have o1_1 := ownB H0 hM (Nat.le_refl _) hl (i := 1) rfl
  have o1_2 := ownB H0 hM (Nat.le_refl _) hl (i := 2) rfl
  clear hM hl l
  generalize γ 0 = γ1_0 at H1 o1_0 ⊢
  generalize γ 1 = γ1_1 at H1 o1_1 ⊢
  generalize γ 2 = γ1_2 at H1 o1_2 ⊢
  clear γ
  refine rest0 rfl (then_normal (wp_seq ?_))
  refine walk_seqB 2 [.call (.bool true), .quiet (.bool true)] H1 ?ho2 ?he2
  case ho2 => exact ak (fun γ => ⟨rfl, fun w' h => ⟨17, #[], exec_call rfl call17 rfl (mpn rfl), C0.out w' (h.one 3 rfl)⟩⟩) (ak (fun _ => ⟨rfl, fun _ _ => rfl⟩) trivial)
  intro _ w2 H2
  clear H1
  refine rest0 rfl (then_normal (wp_seq ?_))
  refine walk_seqA 8 [.quiet (V (tl a)), .call (.tuple #[V (tl x), .int .i64 0]), .quiet (.tuple #[V (tl x), .int .i64 0]), .quiet (V (tl x)), .quiet (.int .i64 0), .made (cel [0, 0, 0, 0, 0, 0, 0, 0, 0, 0, 0, 0]) 32, .laid 5 (cel [0, 0, 0, 0, 0, 0, 0, 0, 0, 0, 0, 0]) (cel (tl x)), .quiet (.int .i64 0)] (sB H2) ?ho3 ?he3 (hL := ?hL3)
  case hL3 => exact ⟨⟨_, rfl⟩, trivial⟩
  case ho3 => exact ak (fun γ => ⟨rfl, fun w' h => ex_loadA (i := 0) (k := 12) h 0 rfl rfl rfl Tryz.isAgg32 Tryz.sizeOf32 rfl rfl⟩) (ak (fun γ => ⟨rfl, fun w' h => ⟨13, #[V (tl a)], exec_call rfl call13 rfl (mpn rfl), C2.out w' (h.one 3 rfl)⟩⟩) (ak (fun _ => ⟨rfl, fun _ _ => rfl⟩) (ak (by refine fun γ => ⟨rfl, fun w' h => ?_⟩; clear h; go_simp) (ak (by refine fun γ => ⟨rfl, fun w' h => ?_⟩; clear h; go_simp) (ak (fun γ => ⟨rfl, fun w' => ex_madeE12 rfl⟩) (ak (fun γ => ⟨rfl, rfl, rfl, fun w' h => ex_laidA h rfl Tryz.sizeOf32 rfl rfl rfl⟩) (ak (fun _ => ⟨rfl, fun _ _ => rfl⟩) trivial)))))))
  intro γ w3 l hM hl
  have H3 : Hid (Mm w3 [(γ 5, cel (tl x)), (γ1_0, cel (tl a)), (γ1_1, cel (tl b)), (γ1_2, cel [k0, k1]), (0, dtab)] ∧ _) := growB H2 hM (Nat.le_refl _) hl [5] rfl (by decide)
  have o3_5 := ownB H2 hM (Nat.le_refl _) hl (i := 5) rfl
  clear hM hl l H2
  generalize γ 5 = γ3_5 at H3 o3_5 ⊢
  clear γ
  refine rest0 rfl (then_normal (wp_seq ?_))
  refine walk_seqA 8 [.quiet (V (tl b)), .call (.tuple #[V (tl y), .int .i64 0]), .quiet (.tuple #[V (tl y), .int .i64 0]), .quiet (V (tl y)), .quiet (.int .i64 0), .made (cel [0, 0, 0, 0, 0, 0, 0, 0, 0, 0, 0, 0]) 32, .laid 5 (cel [0, 0, 0, 0, 0, 0, 0, 0, 0, 0, 0, 0]) (cel (tl y)), .quiet (.int .i64 0)] (sB H3) ?ho4 ?he4 (hL := ?hL4)
  case hL4 => exact ⟨⟨_, rfl⟩, trivial⟩
  case ho4 => exact ak (fun γ => ⟨rfl, fun w' h => ex_loadA (i := 0) (k := 12) h 2 rfl rfl rfl Tryz.isAgg32 Tryz.sizeOf32 rfl rfl⟩) (ak (fun γ => ⟨rfl, fun w' h => ⟨13, #[V (tl b)], exec_call rfl call13 rfl (mpn rfl), C3.out w' (h.one 4 rfl)⟩⟩) (ak (fun _ => ⟨rfl, fun _ _ => rfl⟩) (ak (by refine fun γ => ⟨rfl, fun w' h => ?_⟩; clear h; go_simp) (ak (by refine fun γ => ⟨rfl, fun w' h => ?_⟩; clear h; go_simp) (ak (fun γ => ⟨rfl, fun w' => ex_madeE12 rfl⟩) (ak (fun γ => ⟨rfl, rfl, rfl, fun w' h => ex_laidA h rfl Tryz.sizeOf32 rfl rfl rfl⟩) (ak (fun _ => ⟨rfl, fun _ _ => rfl⟩) trivial)))))))
  intro γ w4 l hM hl
  have H4 : Hid (Mm w4 [(γ 5, cel (tl y)), (γ3_5, cel (tl x)), (γ1_0, cel (tl a)), (γ1_1, cel (tl b)), (γ1_2, cel [k0, k1]), (0, dtab)] ∧ _) := growB H3 hM (Nat.le_refl _) hl [5] rfl (by decide)
  have o4_5 := ownB H3 hM (Nat.le_refl _) hl (i := 5) rfl
  clear hM hl l H3
  generalize γ 5 = γ4_5 at H4 o4_5 ⊢
  clear γ
  refine rest0 rfl (then_normal (wp_seq ?_))
  refine walk_seqA 10 [.quiet (V (tl a)), .quiet (V (tl b)), .call (V (tl m)), .call (.tuple #[V (tl z), .int .i64 0]), .quiet (.tuple #[V (tl z), .int .i64 0]), .quiet (V (tl z)), .quiet (.int .i64 0), .made (cel [0, 0, 0, 0, 0, 0, 0, 0, 0, 0, 0, 0]) 32, .laid 7 (cel [0, 0, 0, 0, 0, 0, 0, 0, 0, 0, 0, 0]) (cel (tl z)), .quiet (.int .i64 0)] (sB H4) ?ho5 ?he5 (hL := ?hL5)
  case hL5 => exact ⟨⟨_, rfl⟩, trivial⟩
  case ho5 => exact ak (fun γ => ⟨rfl, fun w' h => ex_loadA (i := 0) (k := 12) h 2 rfl rfl rfl Tryz.isAgg32 Tryz.sizeOf32 rfl rfl⟩) (ak (fun γ => ⟨rfl, fun w' h => ex_loadA (i := 0) (k := 12) h 3 rfl rfl rfl Tryz.isAgg32 Tryz.sizeOf32 rfl rfl⟩) (ak (fun γ => ⟨rfl, fun w' h => ⟨22, #[V (tl a), V (tl b)], exec_call rfl call22 rfl (mpn rfl), C1.out w'⟩⟩) (ak (fun γ => ⟨rfl, fun w' h => ⟨13, #[V (tl m)], exec_call rfl call13 rfl (mpn rfl), C4.out w' (h.one 5 rfl)⟩⟩) (ak (fun _ => ⟨rfl, fun _ _ => rfl⟩) (ak (by refine fun γ => ⟨rfl, fun w' h => ?_⟩; clear h; go_simp) (ak (by refine fun γ => ⟨rfl, fun w' h => ?_⟩; clear h; go_simp) (ak (fun γ => ⟨rfl, fun w' => ex_madeE12 rfl⟩) (ak (fun γ => ⟨rfl, rfl, rfl, fun w' h => ex_laidA h rfl Tryz.sizeOf32 rfl rfl rfl⟩) (ak (fun _ => ⟨rfl, fun _ _ => rfl⟩) trivial)))))))))
  intro γ w5 l hM hl
  have H5 : Hid (Mm w5 [(γ 7, cel (tl z)), (γ4_5, cel (tl y)), (γ3_5, cel (tl x)), (γ1_0, cel (tl a)), (γ1_1, cel (tl b)), (γ1_2, cel [k0, k1]), (0, dtab)] ∧ _) := growB H4 hM (Nat.le_refl _) hl [7] rfl (by decide)
  have o5_7 := ownB H4 hM (Nat.le_refl _) hl (i := 7) rfl
  clear hM hl l H4
  generalize γ 7 = γ5_7 at H5 o5_7 ⊢
  clear γ
  refine rest0 rfl (then_normal (wp_seq (wp_seq ?_)))
  refine walk_seqB 6 [.quiet (.int .i64 0), .quiet (.bool false), .quiet (.bool false), .quiet (.int .i64 0), .quiet (.bool false), .quiet (.bool false)] H5 ?ho6 ?he6
  case ho6 => exact ak (fun _ => ⟨rfl, fun _ _ => rfl⟩) (ak (by refine fun γ => ⟨rfl, fun w' h => ?_⟩; clear h; go_simp) (ak (fun _ => ⟨rfl, fun _ _ => rfl⟩) (ak (fun _ => ⟨rfl, fun _ _ => rfl⟩) (ak (by refine fun γ => ⟨rfl, fun w' h => ?_⟩; clear h; go_simp) (ak (by refine fun γ => ⟨rfl, fun w' h => ?_⟩; clear h; go_simp) trivial)))))
  intro _ w6 H6
  clear H5
  refine rest0 rfl (then_normal (wp_cond_false rfl ?_))
  refine wp_skip (then_normal ?_)
  refine wp_seq (wp_seq ?_)
  refine walk_anyB 9 [.quiet (.int .i64 0), .quiet (.bool false), .quiet (.bool false), .quiet (V (tl z)), .quiet (V (tl x)), .quiet (V (tl y)), .call (V (tl z)), .quiet (.bool false), .quiet (.bool false)] H6 ?ho7 ?he7
  case ho7 => exact ak (fun _ => ⟨rfl, fun _ _ => rfl⟩) (ak (by refine fun γ => ⟨rfl, fun w' h => ?_⟩; clear h; go_simp) (ak (fun _ => ⟨rfl, fun _ _ => rfl⟩) (ak (fun γ => ⟨rfl, fun w' h => ex_loadA (i := 0) (k := 12) h 0 rfl rfl rfl Tryz.isAgg32 Tryz.sizeOf32 rfl rfl⟩) (ak (fun γ => ⟨rfl, fun w' h => ex_loadA (i := 0) (k := 12) h 2 rfl rfl rfl Tryz.isAgg32 Tryz.sizeOf32 rfl rfl⟩) (ak (fun γ => ⟨rfl, fun w' h => ex_loadA (i := 0) (k := 12) h 1 rfl rfl rfl Tryz.isAgg32 Tryz.sizeOf32 rfl rfl⟩) (ak (fun γ => ⟨rfl, fun w' h => ⟨22, #[V (tl x), V (tl y)], exec_call rfl call22 rfl (mpn rfl), C5.out w'⟩⟩) (ak (fun γ => ⟨rfl, fun w' _ => exec_neqE12 ez rfl rfl rfl⟩) (ak (by refine fun γ => ⟨rfl, fun w' h => ?_⟩; clear h; go_simp) trivial))))))))
  intro _ w7 H7
  clear H6
  refine rest0 rfl (then_normal (wp_cond_false rfl ?_))
  refine wp_skip (then_normal (wp_seq ?_))
  refine walk_seqA 9 [.quiet (V [k0, k1]), .quiet (V [k0, k1, 0, 0, 0, 0, 0, 0, 0, 0, 0, 0]), .call (.tuple #[V [0, 0, 0, 0, 0, 0, 0, 0, 0, 0, 0, 0], .int .i64 6]), .quiet (.tuple #[V [0, 0, 0, 0, 0, 0, 0, 0, 0, 0, 0, 0], .int .i64 6]), .quiet (V [0, 0, 0, 0, 0, 0, 0, 0, 0, 0, 0, 0]), .quiet (.int .i64 6), .made (cel [0, 0, 0, 0, 0, 0, 0, 0, 0, 0, 0, 0]) 32, .laid 6 (cel [0, 0, 0, 0, 0, 0, 0, 0, 0, 0, 0, 0]) (cel [0, 0, 0, 0, 0, 0, 0, 0, 0, 0, 0, 0]), .quiet (.int .i64 6)] (sB H7) ?ho8 ?he8 (hL := ?hL8)
  case hL8 => exact ⟨⟨_, rfl⟩, trivial⟩
  case ho8 => exact ak (fun γ => ⟨rfl, fun w' h => ex_loadA (i := 0) (k := 2) h 5 rfl rfl rfl Tryz.isAgg28 Tryz.sizeOf28 rfl rfl⟩) (ak (fun γ => ⟨rfl, fun w' _ => ex_buildE12a rfl rfl⟩) (ak (fun γ => ⟨rfl, fun w' h => ⟨13, #[V [k0, k1, 0, 0, 0, 0, 0, 0, 0, 0, 0, 0]], exec_call rfl call13 rfl (mpn rfl), C6.out w' (h.one 6 rfl)⟩⟩) (ak (fun _ => ⟨rfl, fun _ _ => rfl⟩) (ak (by refine fun γ => ⟨rfl, fun w' h => ?_⟩; clear h; go_simp) (ak (by refine fun γ => ⟨rfl, fun w' h => ?_⟩; clear h; go_simp) (ak (fun γ => ⟨rfl, fun w' => ex_madeE12 rfl⟩) (ak (fun γ => ⟨rfl, rfl, rfl, fun w' h => ex_laidA h rfl Tryz.sizeOf32 rfl rfl rfl⟩) (ak (fun _ => ⟨rfl, fun _ _ => rfl⟩) trivial))))))))
  intro γ w8 l hM hl
  have H8 : Hid (Mm w8 [(γ 6, cel [0, 0, 0, 0, 0, 0, 0, 0, 0, 0, 0, 0]), (γ5_7, cel (tl z)), (γ4_5, cel (tl y)), (γ3_5, cel (tl x)), (γ1_0, cel (tl a)), (γ1_1, cel (tl b)), (γ1_2, cel [k0, k1]), (0, dtab)] ∧ _) := growB H7 hM (Nat.le_refl _) hl [6] rfl (by decide)
  have o8_6 := ownB H7 hM (Nat.le_refl _) hl (i := 6) rfl
  clear hM hl l H7
  generalize γ 6 = γ8_6 at H8 o8_6 ⊢
  clear γ
  refine rest0 rfl (then_normal (wp_seq ?_))
  refine walk_anyB 11 [.quiet (.bool true), .quiet (.bool true), .quiet (.int .i64 6), .quiet (.bool true), .quiet (.bool true), .gone, .gone, .gone, .quiet (.bool true), .quiet (.bool true), .quiet (.bool true)] H8 ?ho9 ?he9
  case ho9 => exact ak (fun _ => ⟨rfl, fun _ _ => rfl⟩) (ak (fun _ => ⟨rfl, fun _ _ => rfl⟩) (ak (fun _ => ⟨rfl, fun _ _ => rfl⟩) (ak (by refine fun γ => ⟨rfl, fun w' h => ?_⟩; clear h; go_simp) (ak (fun _ => ⟨rfl, fun _ _ => rfl⟩) (ak (fun γ => rfl) (ak (fun γ => rfl) (ak (fun γ => rfl) (ak (by refine fun γ => ⟨rfl, fun w' h => ?_⟩; clear h; go_simp) (ak (by refine fun γ => ⟨rfl, fun w' h => ?_⟩; clear h; go_simp) (ak (fun _ => ⟨rfl, fun _ _ => rfl⟩) trivial))))))))))
  intro _ w9 H9
  clear H8
  refine rest0 rfl (then_normal (wp_ret ?_))
  repeat (first | refine then_ret ?_ | refine block_ret ?_)
  refine bodyPost_ret (v := .bool true) (by simp [results, Tryz.results7, go_sem, *]) rfl ?_
  exact ⟨rfl, H9.out.2⟩
set_option maxHeartbeats 4000000 in
set_option maxRecDepth 100000 in
theorem last_4 (a b m x y z o : Nat → Nat) (k0 k1 : Nat) (ez : ∀ w, (Op.equalIn 10000 32 (V (tl z)) (V (tl z))).run Tryz.prog w = .ok true w) (eo : ∀ w, (Op.equalIn 10000 32 (V (tl o)) (V (tl o))).run Tryz.prog w = .ok true w)
    (c0 : ∀ w, Mm w [(0, dtab)] → Calls Tryz.prog 17 #[] w fun e w' => e = .returned (.bool true) ∧ Below w.heap.size w w')
    (c1 : ∀ w, Calls Tryz.prog 22 #[V (tl a), V (tl b)] w fun e w' => e = .returned (V (tl m)) ∧ Below w.heap.size w w')
    (c2 : ∀ w, Mm w [(0, dtab)] → Calls Tryz.prog 13 #[V (tl a)] w fun e w' => e = .returned (.tuple #[V (tl x), .int .i64 0]) ∧ Below w.heap.size w w')
    (c3 : ∀ w, Mm w [(0, dtab)] → Calls Tryz.prog 13 #[V (tl b)] w fun e w' => e = .returned (.tuple #[V (tl y), .int .i64 0]) ∧ Below w.heap.size w w')
    (c4 : ∀ w, Mm w [(0, dtab)] → Calls Tryz.prog 13 #[V (tl m)] w fun e w' => e = .returned (.tuple #[V (tl z), .int .i64 0]) ∧ Below w.heap.size w w')
    (c5 : ∀ w, Calls Tryz.prog 22 #[V (tl x), V (tl y)] w fun e w' => e = .returned (V (tl z)) ∧ Below w.heap.size w w')
    (c6 : ∀ w, Mm w [(0, dtab)] → Calls Tryz.prog 13 #[V [k0, k1, 0, 0, 0, 0, 0, 0, 0, 0, 0, 0]] w fun e w' => e = .returned (.tuple #[V (tl o), .int .i64 0]) ∧ Below w.heap.size w w')
    (c7 : ∀ w, Calls Tryz.prog 32 #[] w fun e w' => e = .returned (V (tl o)) ∧ Below w.heap.size w w') (w : World) (hm : Mm w [(0, dtab)]) :
    Calls Tryz.prog 7 #[V (tl a), V (tl b), V [k0, k1]] w fun e w' => e = .returned (.bool true) ∧ Below w.heap.size w w' := by
  have H0 : Hid (_ ∧ _) := ⟨hm, Below.refl w.heap.size w⟩
  clear hm
  have C0 : Hid _ := c0
  have C1 : Hid _ := c1
  have C2 : Hid _ := c2
  have C3 : Hid _ := c3
  have C4 : Hid _ := c4
  have C5 : Hid _ := c5
  have C6 : Hid _ := c6
  have C7 : Hid _ := c7
  clear c0 c1 c2 c3 c4 c5 c6 c7
  go_enter Tryz.func7, Tryz.ntmps7
  refine wp_seq ?_
  refine walk_seqA 4 [.made (cel (tl a)) 32, .made (cel (tl b)) 32, .made (cel [k0, k1]) 28, .quiet (.bool false)] (sB H0) ?ho1 ?he1
  case ho1 => exact ak (fun γ => ⟨rfl, fun w' => ex_boxA rfl rfl⟩) (ak (fun γ => ⟨rfl, fun w' => ex_boxA rfl rfl⟩) (ak (fun γ => ⟨rfl, fun w' => ex_boxA rfl rfl⟩) (ak (fun _ => ⟨rfl, fun _ _ => rfl⟩) trivial)))
  intro γ w1 l hM hl
  have H1 : Hid (Mm w1 [(γ 0, cel (tl a)), (γ 1, cel (tl b)), (γ 2, cel [k0, k1]), (0, dtab)] ∧ _) := growB H0 hM (Nat.le_refl _) hl [0, 1, 2] rfl (by decide)
  have o1_0 := ownB H0 hM (Nat.le_refl _) hl (i := 0) rfl
  have o1_1 := ownB H0 hM (Nat.le_refl _) hl (i := 1) rfl
  have o1_2 := ownB H0 hM (Nat.le_refl _) hl (i := 2) rfl
  clear hM hl l
  generalize γ 0 = γ1_0 at H1 o1_0 ⊢
  generalize γ 1 = γ1_1 at H1 o1_1 ⊢
  generalize γ 2 = γ1_2 at H1 o1_2 ⊢
  clear γ
  refine rest0 rfl (then_normal (wp_seq ?_))
  refine walk_seqB 2 [.call (.bool true), .quiet (.bool true)] H1 ?ho2 ?he2
  case ho2 => exact ak (fun γ => ⟨rfl, fun w' h => ⟨17, #[], exec_call rfl call17 rfl (mpn rfl), C0.out w' (h.one 3 rfl)⟩⟩) (ak (fun _ => ⟨rfl, fun _ _ => rfl⟩) trivial)
  intro _ w2 H2
  clear H1
  refine rest0 rfl (then_normal (wp_seq ?_))
  refine walk_seqA 8 [.quiet (V (tl a)), .call (.tuple #[V (tl x), .int .i64 0]), .quiet (.tuple #[V (tl x), .int .i64 0]), .quiet (V (tl x)), .quiet (.int .i64 0), .made (cel [0, 0, 0, 0, 0, 0, 0, 0, 0, 0, 0, 0]) 32, .laid 5 (cel [0, 0, 0, 0, 0, 0, 0, 0, 0, 0, 0, 0]) (cel (tl x)), .quiet (.int .i64 0)] (sB H2) ?ho3 ?he3 (hL := ?hL3)
  case hL3 => exact ⟨⟨_, rfl⟩, trivial⟩
  case ho3 => exact ak (fun γ => ⟨rfl, fun w' h => ex_loadA (i := 0) (k := 12) h 0 rfl rfl rfl Tryz.isAgg32 Tryz.sizeOf32 rfl rfl⟩) (ak (fun γ => ⟨rfl, fun w' h => ⟨13, #[V (tl a)], exec_call rfl call13 rfl (mpn rfl), C2.out w' (h.one 3 rfl)⟩⟩) (ak (fun _ => ⟨rfl, fun _ _ => rfl⟩) (ak (by refine fun γ => ⟨rfl, fun w' h => ?_⟩; clear h; go_simp) (ak (by refine fun γ => ⟨rfl, fun w' h => ?_⟩; clear h; go_simp) (ak (fun γ => ⟨rfl, fun w' => ex_madeE12 rfl⟩) (ak (fun γ => ⟨rfl, rfl, rfl, fun w' h => ex_laidA h rfl Tryz.sizeOf32 rfl rfl rfl⟩) (ak (fun _ => ⟨rfl, fun _ _ => rfl⟩) trivial)))))))
  intro γ w3 l hM hl
  have H3 : Hid (Mm w3 [(γ 5, cel (tl x)), (γ1_0, cel (tl a)), (γ1_1, cel (tl b)), (γ1_2, cel [k0, k1]), (0, dtab)] ∧ _) := growB H2 hM (Nat.le_refl _) hl [5] rfl (by decide)
  have o3_5 := ownB H2 hM (Nat.le_refl _) hl (i := 5) rfl
  clear hM hl l H2
  generalize γ 5 = γ3_5 at H3 o3_5 ⊢
  clear γ
  refine rest0 rfl (then_normal (wp_seq ?_))
  refine walk_seqA 8 [.quiet (V (tl b)), .call (.tuple #[V (tl y), .int .i64 0]), .quiet (.tuple #[V (tl y), .int .i64 0]), .quiet (V (tl y)), .quiet (.int .i64 0), .made (cel [0, 0, 0, 0, 0, 0, 0, 0, 0, 0, 0, 0]) 32, .laid 5 (cel [0, 0, 0, 0, 0, 0, 0, 0, 0, 0, 0, 0]) (cel (tl y)), .quiet (.int .i64 0)] (sB H3) ?ho4 ?he4 (hL := ?hL4)
  case hL4 => exact ⟨⟨_, rfl⟩, trivial⟩
  case ho4 => exact ak (fun γ => ⟨rfl, fun w' h => ex_loadA (i := 0) (k := 12) h 2 rfl rfl rfl Tryz.isAgg32 Tryz.sizeOf32 rfl rfl⟩) (ak (fun γ => ⟨rfl, fun w' h => ⟨13, #[V (tl b)], exec_call rfl call13 rfl (mpn rfl), C3.out w' (h.one 4 rfl)⟩⟩) (ak (fun _ => ⟨rfl, fun _ _ => rfl⟩) (ak (by refine fun γ => ⟨rfl, fun w' h => ?_⟩; clear h; go_simp) (ak (by refine fun γ => ⟨rfl, fun w' h => ?_⟩; clear h; go_simp) (ak (fun γ => ⟨rfl, fun w' => ex_madeE12 rfl⟩) (ak (fun γ => ⟨rfl, rfl, rfl, fun w' h => ex_laidA h rfl Tryz.sizeOf32 rfl rfl rfl⟩) (ak (fun _ => ⟨rfl, fun _ _ => rfl⟩) trivial)))))))
  intro γ w4 l hM hl
  have H4 : Hid (Mm w4 [(γ 5, cel (tl y)), (γ3_5, cel (tl x)), (γ1_0, cel (tl a)), (γ1_1, cel (tl b)), (γ1_2, cel [k0, k1]), (0, dtab)] ∧ _) := growB H3 hM (Nat.le_refl _) hl [5] rfl (by decide)
  have o4_5 := ownB H3 hM (Nat.le_refl _) hl (i := 5) rfl
  clear hM hl l H3
  generalize γ 5 = γ4_5 at H4 o4_5 ⊢
  clear γ
  refine rest0 rfl (then_normal (wp_seq ?_))
  refine walk_seqA 10 [.quiet (V (tl a)), .quiet (V (tl b)), .call (V (tl m)), .call (.tuple #[V (tl z), .int .i64 0]), .quiet (.tuple #[V (tl z), .int .i64 0]), .quiet (V (tl z)), .quiet (.int .i64 0), .made (cel [0, 0, 0, 0, 0, 0, 0, 0, 0, 0, 0, 0]) 32, .laid 7 (cel [0, 0, 0, 0, 0, 0, 0, 0, 0, 0, 0, 0]) (cel (tl z)), .quiet (.int .i64 0)] (sB H4) ?ho5 ?he5 (hL := ?hL5)
  case hL5 => exact ⟨⟨_, rfl⟩, trivial⟩
  case ho5 => exact ak (fun γ => ⟨rfl, fun w' h => ex_loadA (i := 0) (k := 12) h 2 rfl rfl rfl Tryz.isAgg32 Tryz.sizeOf32 rfl rfl⟩) (ak (fun γ => ⟨rfl, fun w' h => ex_loadA (i := 0) (k := 12) h 3 rfl rfl rfl Tryz.isAgg32 Tryz.sizeOf32 rfl rfl⟩) (ak (fun γ => ⟨rfl, fun w' h => ⟨22, #[V (tl a), V (tl b)], exec_call rfl call22 rfl (mpn rfl), C1.out w'⟩⟩) (ak (fun γ => ⟨rfl, fun w' h => ⟨13, #[V (tl m)], exec_call rfl call13 rfl (mpn rfl), C4.out w' (h.one 5 rfl)⟩⟩) (ak (fun _ => ⟨rfl, fun _ _ => rfl⟩) (ak (by refine fun γ => ⟨rfl, fun w' h => ?_⟩; clear h; go_simp) (ak (by refine fun γ => ⟨rfl, fun w' h => ?_⟩; clear h; go_simp) (ak (fun γ => ⟨rfl, fun w' => ex_madeE12 rfl⟩) (ak (fun γ => ⟨rfl, rfl, rfl, fun w' h => ex_laidA h rfl Tryz.sizeOf32 rfl rfl rfl⟩) (ak (fun _ => ⟨rfl, fun _ _ => rfl⟩) trivial)))))))))
  intro γ w5 l hM hl
  have H5 : Hid (Mm w5 [(γ 7, cel (tl z)), (γ4_5, cel (tl y)), (γ3_5, cel (tl x)), (γ1_0, cel (tl a)), (γ1_1, cel (tl b)), (γ1_2, cel [k0, k1]), (0, dtab)] ∧ _) := growB H4 hM (Nat.le_refl _) hl [7] rfl (by decide)
  have o5_7 := ownB H4 hM (Nat.le_refl _) hl (i := 7) rfl
  clear hM hl l H4
  generalize γ 7 = γ5_7 at H5 o5_7 ⊢
  clear γ
  refine rest0 rfl (then_normal (wp_seq (wp_seq ?_)))
  refine walk_seqB 6 [.quiet (.int .i64 0), .quiet (.bool false), .quiet (.bool false), .quiet (.int .i64 0), .quiet (.bool false), .quiet (.bool false)] H5 ?ho6 ?he6
  case ho6 => exact ak (fun _ => ⟨rfl, fun _ _ => rfl⟩) (ak (by refine fun γ => ⟨rfl, fun w' h => ?_⟩; clear h; go_simp) (ak (fun _ => ⟨rfl, fun _ _ => rfl⟩) (ak (fun _ => ⟨rfl, fun _ _ => rfl⟩) (ak (by refine fun γ => ⟨rfl, fun w' h => ?_⟩; clear h; go_simp) (ak (by refine fun γ => ⟨rfl, fun w' h => ?_⟩; clear h; go_simp) trivial)))))
  intro _ w6 H6
  clear H5
  refine rest0 rfl (then_normal (wp_cond_false rfl ?_))
  refine wp_skip (then_normal ?_)
  refine wp_seq (wp_seq ?_)
  refine walk_anyB 9 [.quiet (.int .i64 0), .quiet (.bool false), .quiet (.bool false), .quiet (V (tl z)), .quiet (V (tl x)), .quiet (V (tl y)), .call (V (tl z)), .quiet (.bool false), .quiet (.bool false)] H6 ?ho7 ?he7
  case ho7 => exact ak (fun _ => ⟨rfl, fun _ _ => rfl⟩) (ak (by refine fun γ => ⟨rfl, fun w' h => ?_⟩; clear h; go_simp) (ak (fun _ => ⟨rfl, fun _ _ => rfl⟩) (ak (fun γ => ⟨rfl, fun w' h => ex_loadA (i := 0) (k := 12) h 0 rfl rfl rfl Tryz.isAgg32 Tryz.sizeOf32 rfl rfl⟩) (ak (fun γ => ⟨rfl, fun w' h => ex_loadA (i := 0) (k := 12) h 2 rfl rfl rfl Tryz.isAgg32 Tryz.sizeOf32 rfl rfl⟩) (ak (fun γ => ⟨rfl, fun w' h => ex_loadA (i := 0) (k := 12) h 1 rfl rfl rfl Tryz.isAgg32 Tryz.sizeOf32 rfl rfl⟩) (ak (fun γ => ⟨rfl, fun w' h => ⟨22, #[V (tl x), V (tl y)], exec_call rfl call22 rfl (mpn rfl), C5.out w'⟩⟩) (ak (fun γ => ⟨rfl, fun w' _ => exec_neqE12 ez rfl rfl rfl⟩) (ak (by refine fun γ => ⟨rfl, fun w' h => ?_⟩; clear h; go_simp) trivial))))))))
  intro _ w7 H7
  clear H6
  refine rest0 rfl (then_normal (wp_cond_false rfl ?_))
  refine wp_skip (then_normal (wp_seq ?_))
  refine walk_seqA 9 [.quiet (V [k0, k1]), .quiet (V [k0, k1, 0, 0, 0, 0, 0, 0, 0, 0, 0, 0]), .call (.tuple #[V (tl o), .int .i64 0]), .quiet (.tuple #[V (tl o), .int .i64 0]), .quiet (V (tl o)), .quiet (.int .i64 0), .made (cel [0, 0, 0, 0, 0, 0, 0, 0, 0, 0, 0, 0]) 32, .laid 6 (cel [0, 0, 0, 0, 0, 0, 0, 0, 0, 0, 0, 0]) (cel (tl o)), .quiet (.int .i64 0)] (sB H7) ?ho8 ?he8 (hL := ?hL8)
  case hL8 => exact ⟨⟨_, rfl⟩, trivial⟩
  case ho8 => exact ak (fun γ => ⟨rfl, fun w' h => ex_loadA (i := 0) (k := 2) h 5 rfl rfl rfl Tryz.isAgg28 Tryz.sizeOf28 rfl rfl⟩) (ak (fun γ => ⟨rfl, fun w' _ => ex_buildE12a rfl rfl⟩) (ak (fun γ => ⟨rfl, fun w' h => ⟨13, #[V [k0, k1, 0, 0, 0, 0, 0, 0, 0, 0, 0, 0]], exec_call rfl call13 rfl (mpn rfl), C6.out w' (h.one 6 rfl)⟩⟩) (ak (fun _ => ⟨rfl, fun _ _ => rfl⟩) (ak (by refine fun γ => ⟨rfl, fun w' h => ?_⟩; clear h; go_simp) (ak (by refine fun γ => ⟨rfl, fun w' h => ?_⟩; clear h; go_simp) (ak (fun γ => ⟨rfl, fun w' => ex_madeE12 rfl⟩) (ak (fun γ => ⟨rfl, rfl, rfl, fun w' h => ex_laidA h rfl Tryz.sizeOf32 rfl rfl rfl⟩) (ak (fun _ => ⟨rfl, fun _ _ => rfl⟩) trivial))))))))
  intro γ w8 l hM hl
  have H8 : Hid (Mm w8 [(γ 6, cel (tl o)), (γ5_7, cel (tl z)), (γ4_5, cel (tl y)), (γ3_5, cel (tl x)), (γ1_0, cel (tl a)), (γ1_1, cel (tl b)), (γ1_2, cel [k0, k1]), (0, dtab)] ∧ _) := growB H7 hM (Nat.le_refl _) hl [6] rfl (by decide)
  have o8_6 := ownB H7 hM (Nat.le_refl _) hl (i := 6) rfl
  clear hM hl l H7
  generalize γ 6 = γ8_6 at H8 o8_6 ⊢
  clear γ
  refine rest0 rfl (then_normal (wp_seq ?_))
  refine walk_anyB 11 [.quiet (.bool true), .quiet (.bool true), .quiet (.int .i64 0), .quiet (.bool false), .quiet (.bool false), .quiet (V (tl o)), .call (V (tl o)), .quiet (.bool true), .quiet (.bool true), .quiet (.bool true), .quiet (.bool true)] H8 ?ho9 ?he9
  case ho9 => exact ak (fun _ => ⟨rfl, fun _ _ => rfl⟩) (ak (fun _ => ⟨rfl, fun _ _ => rfl⟩) (ak (fun _ => ⟨rfl, fun _ _ => rfl⟩) (ak (by refine fun γ => ⟨rfl, fun w' h => ?_⟩; clear h; go_simp) (ak (fun _ => ⟨rfl, fun _ _ => rfl⟩) (ak (fun γ => ⟨rfl, fun w' h => ex_loadA (i := 0) (k := 12) h 0 rfl rfl rfl Tryz.isAgg32 Tryz.sizeOf32 rfl rfl⟩) (ak (fun γ => ⟨rfl, fun w' h => ⟨32, #[], exec_call rfl call32 rfl (mpn rfl), C7.out w'⟩⟩) (ak (fun γ => ⟨rfl, fun w' _ => exec_eqE12 eo rfl rfl rfl⟩) (ak (by refine fun γ => ⟨rfl, fun w' h => ?_⟩; clear h; go_simp) (ak (by refine fun γ => ⟨rfl, fun w' h => ?_⟩; clear h; go_simp) (ak (fun _ => ⟨rfl, fun _ _ => rfl⟩) trivial))))))))))
  intro _ w9 H9
  clear H8
  refine rest0 rfl (then_normal (wp_ret ?_))
  repeat (first | refine then_ret ?_ | refine block_ret ?_)
  refine bodyPost_ret (v := .bool true) (by simp [results, Tryz.results7, go_sem, *]) rfl ?_
  exact ⟨rfl, H9.out.2⟩
end Rg
end Go.Proofs.YtdbejmgomajjmaaGreatDoor
end
section
namespace Go.Proofs.YtdbejmgomajjmaaGreatDoor
open Go.RowKit
namespace Rg
def emb (c0 c1 : Nat) : Nat → Nat
  | 0 => c0
  | 1 => c1
  | _ => 0
theorem emb_big {c0 c1 : Nat} (h0 : c0 < big) (h1 : c1 < big) : ∀ j, j < 12 → emb c0 c1 j < big := fun j _ => by
  unfold emb
  split
  · exact h0
  · exact h1
  · exact big_pos
theorem emb_cj (c0 c1 : Nat) : Eq12 (cj12 (zn (emb c0 c1))) (zn (emb c0 c1)) := fun j hj => by
  match j, hj with
  | 0, _ => exact dv_zero.of (by show 0 = (zn (emb c0 c1) 0) - zn (emb c0 c1) 0; omega)
  | 1, _ => exact dv_zero.of (by show 0 = (zn (emb c0 c1) 1) - zn (emb c0 c1) 1; omega)
  | 2, _ => exact dv_zero.of (by show 0 = (-(0 : Int)) - 0; omega)
  | 3, _ => exact dv_zero.of (by show 0 = (-(0 : Int)) - 0; omega)
  | 4, _ => exact dv_zero.of (by show 0 = (zn (emb c0 c1) 4) - zn (emb c0 c1) 4; omega)
  | 5, _ => exact dv_zero.of (by show 0 = (zn (emb c0 c1) 5) - zn (emb c0 c1) 5; omega)
  | 6, _ => exact dv_zero.of (by show 0 = (-(0 : Int)) - 0; omega)
  | 7, _ => exact dv_zero.of (by show 0 = (-(0 : Int)) - 0; omega)
  | 8, _ => exact dv_zero.of (by show 0 = (zn (emb c0 c1) 8) - zn (emb c0 c1) 8; omega)
  | 9, _ => exact dv_zero.of (by show 0 = (zn (emb c0 c1) 9) - zn (emb c0 c1) 9; omega)
  | 10, _ => exact dv_zero.of (by show 0 = (-(0 : Int)) - 0; omega)
  | 11, _ => exact dv_zero.of (by show 0 = (-(0 : Int)) - 0; omega)
theorem eq_zero12 (w : World) : (Op.equalIn 10000 32 (V [0, 0, 0, 0, 0, 0, 0, 0, 0, 0, 0, 0]) (V [0, 0, 0, 0, 0, 0, 0, 0, 0, 0, 0, 0])).run Tryz.prog w = .ok true w := by
  refine eq_listE12 (a := fun _ => 0) ?_ w
  simp only [lz, pz_zero]
theorem last_any (a b : Nat → Nat) (c0 c1 : Nat) (ha : ∀ j, j < 12 → a j < big) (hb : ∀ j, j < 12 → b j < big) (hc0 : c0 < big) (hc1 : c1 < big) (w : World) (hm : Mm w [(0, dtab)]) : Calls Tryz.prog 7 #[V (tl a), V (tl b), V [c0, c1]] w fun e w' => e = .returned (.bool true) ∧ Below w.heap.size w w' := by
  have cm := fun w => mulT12_any a b ha hb w
  by_cases za : Zr (zn a)
  · have zm : Zr (mul12 (zn a) (zn b)) := za.mul _
    by_cases zb : Zr (zn b)
    · exact last_1 a b (fun j => pz (mul12 (zn a) (zn b) j)) zf c0 c1 6 eq_zero12 awakeP_any cm (last_bad a ha za) (last_bad b hb zb) (lastP_bad _ zm) w hm
    · exact last_1 a b (fun j => pz (mul12 (zn a) (zn b) j)) (fun j => pz (lastF (zn b) j)) c0 c1 0 eq_zero12 awakeP_any cm (last_bad a ha za) (last_good b hb zb) (lastP_bad _ zm) w hm
  · by_cases zb : Zr (zn b)
    · have zm : Zr (mul12 (zn a) (zn b)) := by rw [comm12]; exact zb.mul _
      exact last_2 a b (fun j => pz (mul12 (zn a) (zn b) j)) (fun j => pz (lastF (zn a) j)) c0 c1 eq_zero12 awakeP_any cm (last_good a ha za) (last_bad b hb zb) (lastP_bad _ zm) w hm
    · have zm : ¬ Zr (mul12 (zn a) (zn b)) := fun k => zb (zr_mul za k)
      have cl := lastP_good _ zm
      rw [(last_mu za zb).lz] at cl
      have cz := mulP12_any (lastF (zn a)) (lastF (zn b)) _ rfl
      by_cases zc : Zr (zn (emb c0 c1))
      · exact last_3 a b (fun j => pz (mul12 (zn a) (zn b) j)) (fun j => pz (lastF (zn a) j)) (fun j => pz (lastF (zn b) j)) (fun j => pz (mul12 (lastF (zn a)) (lastF (zn b)) j)) c0 c1 (eq_reflE12 _) awakeP_any cm (last_good a ha za) (last_good b hb zb) cl cz (last_bad (emb c0 c1) (emb_big hc0 hc1) zc) w hm
      · have ce := last_good (emb c0 c1) (emb_big hc0 hc1) zc
        rw [(last_cj zc (emb_cj c0 c1)).lz, one_lzN] at ce
        exact last_4 a b (fun j => pz (mul12 (zn a) (zn b) j)) (fun j => pz (lastF (zn a) j)) (fun j => pz (lastF (zn b) j)) (fun j => pz (mul12 (lastF (zn a)) (lastF (zn b)) j)) oneN c0 c1 (eq_reflE12 _) eq_oneN awakeP_any cm (last_good a ha za) (last_good b hb zb) cl cz ce one_anyN w hm
end Rg
end Go.Proofs.YtdbejmgomajjmaaGreatDoor
end
section
namespace Go.Proofs.YtdbejmgomajjmaaGreatDoor
open Go.ChangeShapes Go.WideShapes Go.ChangeAt Go.RowKit
set_option maxRecDepth 100000
theorem Tryz.own : ownKnob Tryz.prog.godebug = none := by kernel_rfl
theorem Tryz.laidOut : laidOutB Tryz.prog = true := by kernel_rfl
theorem wd_cons_zero (x r : Nat) (hx : x < 18446744073709551616) : wd (x + 18446744073709551616 * r) 0 = x := by
  unfold wd; rw [Nat.mul_zero, Nat.pow_zero, Nat.div_one]; omega
theorem wd_cons_succ (x r i : Nat) (hx : x < 18446744073709551616) : wd (x + 18446744073709551616 * r) (i + 1) = wd r i := by
  unfold wd
  rw [pow_step, Nat.mul_comm (2 ^ (64 * i)), ← Nat.div_div_eq_div_mul, show (x + 18446744073709551616 * r) / 18446744073709551616 = r by omega]
theorem lt_cons (x r k : Nat) (hx : x < 18446744073709551616) (hr : r < 2 ^ (64 * k)) : x + 18446744073709551616 * r < 2 ^ (64 * (k + 1)) := by
  rw [pow_step]; omega
theorem num_of_words (x : Nat → Nat) (hx : ∀ i, x i < 18446744073709551616) (n : Nat) : ∃ a, a < 2 ^ (64 * n) ∧ ∀ i, i < n → wd a i = x i := by
  induction n generalizing x with
  | zero => exact ⟨0, Nat.two_pow_pos _, fun i h => absurd h (Nat.not_lt_zero _)⟩
  | succ n ih =>
    obtain ⟨r, hr, hw⟩ := ih (fun i => x (i + 1)) (fun i => hx _)
    refine ⟨x 0 + 18446744073709551616 * r, lt_cons _ _ _ (hx 0) hr, fun i hi => ?_⟩
    cases i with
    | zero => exact wd_cons_zero _ _ (hx 0)
    | succ i => rw [wd_cons_succ _ _ _ (hx 0)]; exact hw i (by omega)
end Go.Proofs.YtdbejmgomajjmaaGreatDoor
end
section
namespace Go.Proofs.YtdbejmgomajjmaaGreatDoor
open Go.ChangeShapes Go.WideShapes Go.ChangeAt Go.RowKit
set_option maxRecDepth 100000
section
variable {H : Type} {enc : TypeId × Value → H} {w : World} {base : Nat} {sp : Nat → Bool} {held : Bool}
theorem cells_num {fuel : Nat} {cs : List Value} {x : DataW H × List MemPlace} (h : DataW.trod enc Tryz.prog w base sp held fuel 24 cs = some x) : ∃ a, a < big ∧ cs = cells6 a ∧ x.2 = [] := by
  obtain ⟨xs, m, -, hx, hl, hn, hel⟩ := DataW.trod_array Tryz.underlying24 h
  have hc : Tryz.prog.cellsOf 22 = 1 := by kernel_rfl
  have hc6 : Tryz.prog.cellsOf 24 = 6 := by kernel_rfl
  rw [hc6] at hl
  have key : ∀ i, i < 6 → ∃ n : Nat, n < 18446744073709551616 ∧ cs[i]? = some (.int .u64 n) ∧ ∃ z, xs[i]? = some z ∧ z.2 = [] := by
    intro i hi
    have h := hel i hi
    rw [hc] at h
    have hlt : i < xs.length := by rw [hn]; exact hi
    obtain ⟨z, hz⟩ : ∃ z, xs[i]? = some z := ⟨xs[i], List.getElem?_eq_getElem hlt⟩
    rw [hz] at h
    obtain ⟨n, e1, e2, e3⟩ := DataW.trod_int Tryz.underlying22 h
    have hb := bounds_u64 e3
    have e6 : ((cs.drop (i * 1)).take 1)[0]? = some (.int .u64 n) := by rw [e1]; rfl
    rw [Nat.mul_one, List.getElem?_take] at e6
    have e5 : (cs.drop i)[0]? = some (.int .u64 n) := by simpa using e6
    rw [List.getElem?_drop] at e5
    refine ⟨n.toNat, by omega, ?_, z, hz, by rw [e2]⟩
    rw [Int.toNat_of_nonneg hb.1]
    simpa using e5
  obtain ⟨n0, l0, c0, z0, y0, q0⟩ := key 0 (by omega)
  obtain ⟨n1, l1, c1, z1, y1, q1⟩ := key 1 (by omega)
  obtain ⟨n2, l2, c2, z2, y2, q2⟩ := key 2 (by omega)
  obtain ⟨n3, l3, c3, z3, y3, q3⟩ := key 3 (by omega)
  obtain ⟨n4, l4, c4, z4, y4, q4⟩ := key 4 (by omega)
  obtain ⟨n5, l5, c5, z5, y5, q5⟩ := key 5 (by omega)
  have hps : x.2 = [] := by
    have hx2 : x.2 = xs.flatMap (·.2) := congrArg Prod.snd hx
    rw [hx2, List.flatMap_eq_nil_iff]
    intro z hz
    obtain ⟨i, hi⟩ := List.mem_iff_getElem?.1 hz
    have hi6 : i < 6 := by
      have := (List.getElem?_eq_some_iff.1 hi).1
      omega
    obtain ⟨n, _, _, z', y, q⟩ := key i hi6
    rw [hi] at y; injection y with y; rw [y]; exact q
  obtain ⟨a, ha, hw⟩ := num_of_words (fun i => [n0, n1, n2, n3, n4, n5].getD i 0) (by
    intro i
    match i with
    | 0 => exact l0
    | 1 => exact l1
    | 2 => exact l2
    | 3 => exact l3
    | 4 => exact l4
    | 5 => exact l5
    | (i + 6) => simp) 6
  refine ⟨a, by rw [big]; exact ha, ?_, hps⟩
  have w0 : wd a 0 = n0 := hw 0 (by omega)
  have w1 : wd a 1 = n1 := hw 1 (by omega)
  have w2 : wd a 2 = n2 := hw 2 (by omega)
  have w3 : wd a 3 = n3 := hw 3 (by omega)
  have w4 : wd a 4 = n4 := hw 4 (by omega)
  have w5 : wd a 5 = n5 := hw 5 (by omega)
  unfold cells6
  rw [w0, w1, w2, w3, w4, w5]
  apply List.ext_getElem?
  intro i
  match i with
  | 0 => exact c0
  | 1 => exact c1
  | 2 => exact c2
  | 3 => exact c3
  | 4 => exact c4
  | 5 => exact c5
  | i + 6 => rw [List.getElem?_eq_none (by omega)]; rfl
/-- An array of n parts of c cells each, whose parts open. -/
theorem cells_parts {t e : TypeId} {n c : Nat} {P : List Value → Prop} {fuel : Nat} {cs : List Value} {x : DataW H × List MemPlace} (ht : Tryz.prog.underlying t = some (.array n e)) (hce : Tryz.prog.cellsOf e = c) (hct : Tryz.prog.cellsOf t = n * c)
    (hop : ∀ {fuel : Nat} {cs : List Value} {x : DataW H × List MemPlace}, DataW.trod enc Tryz.prog w base sp held fuel e cs = some x → P cs ∧ x.2 = []) (h : DataW.trod enc Tryz.prog w base sp held fuel t cs = some x) :
    cs.length = n * c ∧ (∀ i, i < n → P ((cs.drop (i * c)).take c)) ∧ x.2 = [] := by
  obtain ⟨xs, m, -, hx, hl, hn, hel⟩ := DataW.trod_array ht h
  rw [hct] at hl
  rw [hce] at hel
  have key : ∀ i, i < n → P ((cs.drop (i * c)).take c) ∧ ∃ z, xs[i]? = some z ∧ z.2 = [] := fun i hi => by
    have h := hel i hi
    have hlt : i < xs.length := by rw [hn]; exact hi
    obtain ⟨z, hz⟩ : ∃ z, xs[i]? = some z := ⟨xs[i], List.getElem?_eq_getElem hlt⟩
    rw [hz] at h
    exact ⟨(hop h).1, z, hz, (hop h).2⟩
  refine ⟨hl, fun i hi => (key i hi).1, ?_⟩
  have hx2 : x.2 = xs.flatMap (·.2) := congrArg Prod.snd hx
  rw [hx2, List.flatMap_eq_nil_iff]
  intro z hz
  obtain ⟨i, hi⟩ := List.mem_iff_getElem?.1 hz
  have hin : i < n := by
    have := (List.getElem?_eq_some_iff.1 hi).1
    omega
  obtain ⟨_, z', y, q⟩ := key i hin
  rw [hi] at y; injection y with y; rw [y]; exact q
theorem cells_E2 {fuel : Nat} {cs : List Value} {x : DataW H × List MemPlace} (h : DataW.trod enc Tryz.prog w base sp held fuel 28 cs = some x) : (∃ a b, a < big ∧ b < big ∧ cs = Rg.cel [a, b]) ∧ x.2 = [] := by
  obtain ⟨hl, hp, hx⟩ := cells_parts (P := fun l => ∃ a, a < big ∧ l = cells6 a) (n := 2) (c := 6) Tryz.underlying28 (by kernel_rfl) (by kernel_rfl) (fun h => by obtain ⟨a, h1, h2, h3⟩ := cells_num h; exact ⟨⟨a, h1, h2⟩, h3⟩) h
  obtain ⟨a, ha, ea⟩ := hp 0 (by decide)
  obtain ⟨b, hb, eb⟩ := hp 1 (by decide)
  refine ⟨⟨a, b, ha, hb, ?_⟩, hx⟩
  rw [Nat.zero_mul, List.drop_zero] at ea
  rw [List.take_of_length_le (by rw [List.length_drop]; omega)] at eb
  have e := List.take_append_drop 6 cs
  rw [ea, show (6 : Nat) = 1 * 6 from rfl, eb] at e
  rw [← e]
  rfl
theorem cells_E12 {fuel : Nat} {cs : List Value} {x : DataW H × List MemPlace} (h : DataW.trod enc Tryz.prog w base sp held fuel 32 cs = some x) : (∃ a : Nat → Nat, (∀ j, j < 12 → a j < big) ∧ cs = Rg.cel [a 0, a 1, a 2, a 3, a 4, a 5, a 6, a 7, a 8, a 9, a 10, a 11]) ∧ x.2 = [] := by
  obtain ⟨hl, hp, hx⟩ := cells_parts (P := fun l => ∃ a b, a < big ∧ b < big ∧ l = Rg.cel [a, b]) (n := 6) (c := 12) Tryz.underlying32 (by kernel_rfl) (by kernel_rfl) (fun h => cells_E2 h) h
  obtain ⟨a0, a1, h0, h1, e0⟩ := hp 0 (by decide)
  obtain ⟨a2, a3, h2, h3, e1⟩ := hp 1 (by decide)
  obtain ⟨a4, a5, h4, h5, e2⟩ := hp 2 (by decide)
  obtain ⟨a6, a7, h6, h7, e3⟩ := hp 3 (by decide)
  obtain ⟨a8, a9, h8, h9, e4⟩ := hp 4 (by decide)
  obtain ⟨a10, a11, h10, h11, e5⟩ := hp 5 (by decide)
  refine ⟨⟨fun j => [a0, a1, a2, a3, a4, a5, a6, a7, a8, a9, a10, a11].getD j 0, fun j hj => ?_, ?_⟩, hx⟩
  · match j, hj with
    | 0, _ => exact h0
    | 1, _ => exact h1
    | 2, _ => exact h2
    | 3, _ => exact h3
    | 4, _ => exact h4
    | 5, _ => exact h5
    | 6, _ => exact h6
    | 7, _ => exact h7
    | 8, _ => exact h8
    | 9, _ => exact h9
    | 10, _ => exact h10
    | 11, _ => exact h11
  · show cs = Rg.cel [a0, a1, a2, a3, a4, a5, a6, a7, a8, a9, a10, a11]
    rw [show [a0, a1, a2, a3, a4, a5, a6, a7, a8, a9, a10, a11] = [a0, a1] ++ ([a2, a3] ++ ([a4, a5] ++ ([a6, a7] ++ ([a8, a9] ++ [a10, a11])))) from rfl]
    simp only [Rg.cel_app]
    rw [← e0, ← e1, ← e2, ← e3, ← e4, ← e5]
    have step : ∀ i, cs.drop (i * 12) = (cs.drop (i * 12)).take 12 ++ cs.drop ((i + 1) * 12) := fun i => by
      have h1 := List.take_append_drop 12 (cs.drop (i * 12))
      rw [List.drop_drop] at h1
      rw [show (i + 1) * 12 = i * 12 + 12 by omega]
      exact h1.symm
    have last : (cs.drop (5 * 12)).take 12 = cs.drop (5 * 12) := List.take_of_length_le (by rw [List.length_drop]; omega)
    rw [last, ← step 4, ← step 3, ← step 2, ← step 1, ← step 0, Nat.zero_mul, List.drop_zero]
end
section
variable {H : Type} {enc : TypeId × Value → H} {w : World} {base : Nat} {sp : Nat → Bool} {held : Bool} {r : Reach} {b0 : Nat} {v : Value} {d : DataW H} {ps : List MemPlace}
theorem open_E2 (hval : Value.okWide Tryz.prog w r b0 28 v) (hd : DataW.Trod enc Tryz.prog w base sp held 28 v d ps) : ∃ a b, a < big ∧ b < big ∧ v = Rg.V [a, b] ∧ ps = [] := by
  unfold Value.okWide at hval
  rw [Tryz.underlying28] at hval
  obtain ⟨cs, rfl, hsz, _⟩ := hval
  obtain ⟨fuel, hf⟩ := hd
  obtain ⟨⟨a, b, ha, hb, e⟩, hx⟩ := cells_E2 hf
  refine ⟨a, b, ha, hb, ?_, hx⟩
  have e2 : cs.toList = Rg.cel [a, b] := e
  show Value.agg cs = Value.agg (Rg.cel [a, b]).toArray
  rw [← e2, Array.toArray_toList]
theorem open_E12 (hval : Value.okWide Tryz.prog w r b0 32 v) (hd : DataW.Trod enc Tryz.prog w base sp held 32 v d ps) : ∃ a : Nat → Nat, (∀ j, j < 12 → a j < big) ∧ v = Rg.V [a 0, a 1, a 2, a 3, a 4, a 5, a 6, a 7, a 8, a 9, a 10, a 11] ∧ ps = [] := by
  unfold Value.okWide at hval
  rw [Tryz.underlying32] at hval
  obtain ⟨cs, rfl, hsz, _⟩ := hval
  obtain ⟨fuel, hf⟩ := hd
  obtain ⟨⟨a, ha, e⟩, hx⟩ := cells_E12 hf
  refine ⟨a, ha, ?_, hx⟩
  have e2 : cs.toList = Rg.cel [a 0, a 1, a 2, a 3, a 4, a 5, a 6, a 7, a 8, a 9, a 10, a 11] := e
  show Value.agg cs = Value.agg (Rg.cel [a 0, a 1, a 2, a 3, a 4, a 5, a 6, a 7, a 8, a 9, a 10, a 11]).toArray
  rw [← e2, Array.toArray_toList]
end
theorem e2_stays {H : Type} {enc : TypeId × Value → H} {W W' : World} {v : Value} {d : DataW H}
    (h : DataW.Trod enc Tryz.prog W 0 (fun _ => true) true 28 v d []) (hb : Below W.heap.size W W') :
    DataW.Trod enc Tryz.prog W' 0 (fun b => decide (b < W.heap.size)) true 28 v d [] :=
  Below.trod Tryz.laidOut (by kernel_rfl) (by decide +kernel) h hb (fun _ hx => by cases hx)
theorem e12_stays {H : Type} {enc : TypeId × Value → H} {W W' : World} {v : Value} {d : DataW H}
    (h : DataW.Trod enc Tryz.prog W 0 (fun _ => true) true 32 v d []) (hb : Below W.heap.size W W') :
    DataW.Trod enc Tryz.prog W' 0 (fun b => decide (b < W.heap.size)) true 32 v d [] :=
  Below.trod Tryz.laidOut (by kernel_rfl) (by decide +kernel) h hb (fun _ hx => by cases hx)
end Go.Proofs.YtdbejmgomajjmaaGreatDoor
end
section
namespace Go.Proofs.YtdbejmgomajjmaaGreatDoor
open Go.ChangeShapes Go.WideShapes Go.ChangeAt Go.RowKit
namespace Rg
set_option maxRecDepth 100000
abbrev laidL : List (String × DataW Unit) := Rows.pairingLastRow.laid
abbrev tabName : String := match laidL with
  | (n, _) :: _ => n
  | [] => Tryz.f3.name
theorem gTab : Tryz.prog.globalNamed tabName = some 0 := by kernel_rfl
theorem tTab : (Tryz.prog.globals[0]?).map (·.type) = some 236 := by kernel_rfl
theorem datTab : (Rows.laid_math_bits_deBruijn64tab : DataW Unit) = .agg (Lib.deBruijn64tab.map fun k => .lit (.int .u8 ((k : Nat) : Int))) := by kernel_rfl
theorem tab_of_laid {W : World} (h : laidMetH Tryz.prog laidL W) : Mm W [(0, dtab)] := by
  rw [MakeChecks.laidMetH_plain _ _ _ (by kernel_rfl)] at h
  obtain ⟨ps, ⟨g, t, cs, fuel, p, q, hg, ht, hv, hd, hq, hps⟩, hnd, hc⟩ := h
  obtain rfl := Option.some.inj (gTab.symm.trans hg)
  obtain rfl := Option.some.inj (tTab.symm.trans ht)
  obtain ⟨xs, m, -, hx, hlen, hn, hel⟩ := DataW.trod_array Tryz.underlying236 hd
  rw [datTab] at hx
  simp only [Prod.mk.injEq, DataW.agg.injEq] at hx
  have hc5 : Tryz.prog.cellsOf 5 = 1 := by kernel_rfl
  have hc81 : Tryz.prog.cellsOf 236 = 64 := by kernel_rfl
  rw [hc81] at hlen
  have hsz : cs.size = 64 := by simpa using hlen
  have hpl : ∀ i, i < 64 → MemPlace.cell 0 i ∈ ps := fun i hi => by
    rw [hps]
    refine List.mem_append_left _ (List.mem_append_left _ ?_)
    unfold MemPlace.row
    simp [hsz]
    omega
  obtain ⟨⟨c0, t0, hheap⟩, _⟩ := hc 0 0 (hpl 0 (by decide))
  have h0 : 0 < W.heap.size := by
    rcases Nat.lt_or_ge 0 W.heap.size with h' | h'
    · exact h'
    · rw [Array.getElem?_eq_none (by omega)] at hheap; cases hheap
  refine ⟨fun pq hpq => ?_, List.pairwise_singleton _ _⟩
  rw [List.mem_singleton.1 hpq]
  refine ⟨h0, fun j v hj => ?_⟩
  have hj64 : j < 64 := by
    have := (List.getElem?_eq_some_iff.1 hj).1
    exact this
  refine ⟨?_, ?_⟩
  · rw [World.var?_cell hg hv j]
    have h1 := hel j hj64
    rw [hc5, Nat.mul_one] at h1
    have hlt : j < xs.length := by omega
    rw [List.getElem?_eq_getElem hlt] at h1
    obtain ⟨n, e1, e2, _⟩ := DataW.trod_int Tryz.underlying5 h1
    have e3 : cs[j]? = some (.int .u8 n) := by
      have e4 : ((cs.toList.drop j).take 1)[0]? = some (.int .u8 n) := by rw [e1]; rfl
      rw [List.getElem?_take, if_pos (by decide), List.getElem?_drop] at e4
      simpa using e4
    have e5 : (xs.map (·.1))[j]? = (Lib.deBruijn64tab.map fun k => DataW.lit (.int .u8 ((k : Nat) : Int)))[j]? := by rw [hx.1]
    rw [List.getElem?_map, List.getElem?_eq_getElem hlt, e2, List.getElem?_map] at e5
    unfold dtab at hj
    rw [List.getElem?_map] at hj
    cases hk : Lib.deBruijn64tab[j]? with
    | none => rw [hk] at hj; cases hj
    | some k =>
      rw [hk] at hj e5
      simp only [Option.map_some, Option.some.injEq, DataW.lit.injEq] at hj e5
      rw [e3, ← hj]
      simp only [Option.some.injEq]
      injection e5 with _ e6
      rw [e6]
  · unfold World.frozen?
    rw [hheap]
    simp
theorem door_met (os : Os) (args : Array Value) : laidMetH Tryz.prog laidL ((World.doorLaid Tryz.prog 400 os).forCall (fun _ _ => 0) ⟨#[], args, []⟩).memory :=
  laidMetH_of_parts3 (fuel := 8) (laidMet_of_run' 8 (by kernel_rfl) (by kernel_rfl)) (by kernel_rfl) (by kernel_rfl)
end Rg
end Go.Proofs.YtdbejmgomajjmaaGreatDoor
end
