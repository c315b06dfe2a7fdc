/- Texts of the proof, joined. -/
import Derived.Test.YtfnmahjdkmgdkaaDoorP5
import Derived.BigQuiet
import Derived.Deep.DeepCutAuto
import Derived.Deep.CutBlock
import Derived.WalkSmall
section
namespace Go.Proofs.YtfnmahjdkmgdkaaDoor
open Go.RowKit
namespace Rg
set_option maxRecDepth 100000
set_option maxHeartbeats 1000000 in
set_option maxRecDepth 100000 in
theorem ari1_ok {s : Int} {r : Nat} (hS : Su s r) (g a : Nat) (ha : a < r) (w : World) (hm : Mm w [(g, cel [a])]) :
    Calls Tryd.prog 51 #[.int .i64 s, .slice (some ⟨g, 0, none⟩) 1 1] w fun e w' => Below w.heap.size w w' ∧ ∃ g, e = .returned (.tuple #[PT g 0, .int .i64 0]) ∧ w.heap.size ≤ g ∧ g < w'.heap.size ∧ Blk w' g (modc r) := by
  have H0 : Hid (_ ∧ _) := ⟨hm, Below.refl w.heap.size w⟩
  clear hm
  go_enter Tryd.func51, Tryd.ntmps51
  refine wp_seq ?_
  refine walk_seqB 2 [.quiet (.pointer none), .quiet (.int .i64 0)] H0 ?ho1 ?he1
  case ho1 => exact ak (fun _ => ⟨rfl, fun _ _ => rfl⟩) (ak (fun _ => ⟨rfl, fun _ _ => rfl⟩) trivial)
  intro _ w1 H1
  refine rest0 rfl (then_normal (wp_seq ?_))
  refine walk_seqA 9 [.quiet (.int .i64 s), .quiet (.slice (some ⟨g, 0, none⟩) 1 1), .call (.tuple #[N r, .int .i64 0]), .quiet (.tuple #[N r, .int .i64 0]), .quiet (N r), .quiet (.int .i64 0), .made zero6 24, .laid 6 zero6 (cells6 r), .quiet (.int .i64 0)] (sB H1) ?ho2 ?he2 (hL := ?hL2)
  case hL2 => exact ⟨⟨_, rfl⟩, trivial⟩
  case ho2 => exact ak (fun _ => ⟨rfl, fun _ _ => rfl⟩) (ak (fun _ => ⟨rfl, fun _ _ => rfl⟩) (ak (fun γ => ⟨rfl, fun w' h => ⟨81, #[.int .i64 s, .slice (some ⟨g, 0, none⟩) 1 1], exec_call rfl call81 rfl (mpn rfl), above1_ok hS g a ha w' (h.one 0 rfl)⟩⟩) (ak (fun _ => ⟨rfl, fun _ _ => rfl⟩) (ak (by refine fun γ => ⟨rfl, fun w' h => ?_⟩; clear h; go_simp) (ak (by refine fun γ => ⟨rfl, fun w' h => ?_⟩; clear h; go_simp) (ak (fun γ => ⟨rfl, fun w' => exec_made6 rfl⟩) (ak (fun γ => ⟨rfl, rfl, rfl, fun w' h => exec_laid6 h rfl rfl rfl⟩) (ak (fun _ => ⟨rfl, fun _ _ => rfl⟩) trivial))))))))
  intro γ w2 l hM hl
  have H2 : Hid (Mm w2 [(γ 6, cells6 r), (g, cel [a])] ∧ _) := growB H1 hM (Nat.le_refl _) hl [6] rfl (by decide)
  have o2_6 := ownB H1 hM (Nat.le_refl _) hl (i := 6) rfl
  clear hM hl l H1
  generalize γ 6 = γ2_6 at H2 o2_6 ⊢
  clear γ
  refine rest0 rfl (then_normal (wp_seq (wp_seq ?_)))
  refine walk_seqB 2 [.quiet (.int .i64 0), .quiet (.bool false)] H2 ?ho3 ?he3
  case ho3 => exact ak (fun _ => ⟨rfl, fun _ _ => rfl⟩) (ak (by refine fun γ => ⟨rfl, fun w' h => ?_⟩; clear h; go_simp) trivial)
  intro _ w3 H3
  clear H2
  refine rest0 rfl (then_normal (wp_cond_false rfl ?_))
  refine wp_skip (then_normal (wp_seq ?_))
  refine walk_seqA 2 [.quiet (N r), .born (fun g => .tuple #[PT g 0, .int .i64 0]) (modc r)] (sB H3) ?ho4 ?he4
  case ho4 => exact ak (fun γ => ⟨rfl, fun w' h => ex_load6 h 0 rfl rfl rfl rfl⟩) (ak (fun γ => ⟨rfl, fun w' h => ⟨72, #[N r], exec_call rfl call72 rfl (mpn rfl), new_ok hS.ok w'⟩⟩) trivial)
  intro γ w4 l hM hl
  have H4 : Hid (Mm w4 [(γ 1, modc r), (γ2_6, cells6 r), (g, cel [a])] ∧ _) := growB H3 hM (Nat.le_refl _) hl [1] rfl (by decide)
  have o4_1 := ownB H3 hM (Nat.le_refl _) hl (i := 1) rfl
  clear hM hl l H3
  generalize γ 1 = γ4_1 at H4 o4_1 ⊢
  clear γ
  refine rest_at (l := [2, 3, 4, 5]) rfl ?_
  refine rest_set (d := 19) (v := PT γ4_1 0) (w' := w4) rfl rfl rfl (by go_simp) ?_
  simp only [Act.put, sa, sz, ss]
  refine rest_set (d := 20) (v := .int .i64 0) (w' := w4) rfl rfl rfl (by go_simp) ?_
  simp only [Act.put, sa, sz, ss]
  refine rest_set (d := 4) rfl rfl rfl rfl ?_
  simp only [Act.put, sa, sz, ss]
  refine rest_set (d := 5) rfl rfl rfl rfl ?_
  simp only [Act.put, sa, sz, ss]
  refine rest_nil (then_normal (wp_ret ?_))
  repeat (first | refine then_ret ?_ | refine block_ret ?_)
  refine bodyPost_ret (v := .tuple #[PT γ4_1 0, .int .i64 0]) (by simp [results, Tryd.results51, go_sem, *]) rfl ?_
  exact ⟨H4.out.2, γ4_1, rfl, o4_1.out, (H4.out.1.blk _ (List.mem_of_getElem? (i := 0) rfl)).1, (H4.out.1.blk _ (List.mem_of_getElem? (i := 0) rfl)).2⟩
set_option maxHeartbeats 1000000 in
set_option maxRecDepth 100000 in
theorem ari2_ok {s : Int} {r : Nat} (hS : Su s r) (g a b : Nat) (ha : a < r) (hb : b < r) (w : World) (hm : Mm w [(g, cel [a, b])]) :
    Calls Tryd.prog 51 #[.int .i64 s, .slice (some ⟨g, 0, none⟩) 2 2] w fun e w' => Below w.heap.size w w' ∧ ∃ g, e = .returned (.tuple #[PT g 0, .int .i64 0]) ∧ w.heap.size ≤ g ∧ g < w'.heap.size ∧ Blk w' g (modc r) := by
  have H0 : Hid (_ ∧ _) := ⟨hm, Below.refl w.heap.size w⟩
  clear hm
  go_enter Tryd.func51, Tryd.ntmps51
  refine wp_seq ?_
  refine walk_seqB 2 [.quiet (.pointer none), .quiet (.int .i64 0)] H0 ?ho1 ?he1
  case ho1 => exact ak (fun _ => ⟨rfl, fun _ _ => rfl⟩) (ak (fun _ => ⟨rfl, fun _ _ => rfl⟩) trivial)
  intro _ w1 H1
  refine rest0 rfl (then_normal (wp_seq ?_))
  refine walk_seqA 9 [.quiet (.int .i64 s), .quiet (.slice (some ⟨g, 0, none⟩) 2 2), .call (.tuple #[N r, .int .i64 0]), .quiet (.tuple #[N r, .int .i64 0]), .quiet (N r), .quiet (.int .i64 0), .made zero6 24, .laid 6 zero6 (cells6 r), .quiet (.int .i64 0)] (sB H1) ?ho2 ?he2 (hL := ?hL2)
  case hL2 => exact ⟨⟨_, rfl⟩, trivial⟩
  case ho2 => exact ak (fun _ => ⟨rfl, fun _ _ => rfl⟩) (ak (fun _ => ⟨rfl, fun _ _ => rfl⟩) (ak (fun γ => ⟨rfl, fun w' h => ⟨81, #[.int .i64 s, .slice (some ⟨g, 0, none⟩) 2 2], exec_call rfl call81 rfl (mpn rfl), above2_ok hS g a b ha hb w' (h.one 0 rfl)⟩⟩) (ak (fun _ => ⟨rfl, fun _ _ => rfl⟩) (ak (by refine fun γ => ⟨rfl, fun w' h => ?_⟩; clear h; go_simp) (ak (by refine fun γ => ⟨rfl, fun w' h => ?_⟩; clear h; go_simp) (ak (fun γ => ⟨rfl, fun w' => exec_made6 rfl⟩) (ak (fun γ => ⟨rfl, rfl, rfl, fun w' h => exec_laid6 h rfl rfl rfl⟩) (ak (fun _ => ⟨rfl, fun _ _ => rfl⟩) trivial))))))))
  intro γ w2 l hM hl
  have H2 : Hid (Mm w2 [(γ 6, cells6 r), (g, cel [a, b])] ∧ _) := growB H1 hM (Nat.le_refl _) hl [6] rfl (by decide)
  have o2_6 := ownB H1 hM (Nat.le_refl _) hl (i := 6) rfl
  clear hM hl l H1
  generalize γ 6 = γ2_6 at H2 o2_6 ⊢
  clear γ
  refine rest0 rfl (then_normal (wp_seq (wp_seq ?_)))
  refine walk_seqB 2 [.quiet (.int .i64 0), .quiet (.bool false)] H2 ?ho3 ?he3
  case ho3 => exact ak (fun _ => ⟨rfl, fun _ _ => rfl⟩) (ak (by refine fun γ => ⟨rfl, fun w' h => ?_⟩; clear h; go_simp) trivial)
  intro _ w3 H3
  clear H2
  refine rest0 rfl (then_normal (wp_cond_false rfl ?_))
  refine wp_skip (then_normal (wp_seq ?_))
  refine walk_seqA 2 [.quiet (N r), .born (fun g => .tuple #[PT g 0, .int .i64 0]) (modc r)] (sB H3) ?ho4 ?he4
  case ho4 => exact ak (fun γ => ⟨rfl, fun w' h => ex_load6 h 0 rfl rfl rfl rfl⟩) (ak (fun γ => ⟨rfl, fun w' h => ⟨72, #[N r], exec_call rfl call72 rfl (mpn rfl), new_ok hS.ok w'⟩⟩) trivial)
  intro γ w4 l hM hl
  have H4 : Hid (Mm w4 [(γ 1, modc r), (γ2_6, cells6 r), (g, cel [a, b])] ∧ _) := growB H3 hM (Nat.le_refl _) hl [1] rfl (by decide)
  have o4_1 := ownB H3 hM (Nat.le_refl _) hl (i := 1) rfl
  clear hM hl l H3
  generalize γ 1 = γ4_1 at H4 o4_1 ⊢
  clear γ
  refine rest_at (l := [2, 3, 4, 5]) rfl ?_
  refine rest_set (d := 19) (v := PT γ4_1 0) (w' := w4) rfl rfl rfl (by go_simp) ?_
  simp only [Act.put, sa, sz, ss]
  refine rest_set (d := 20) (v := .int .i64 0) (w' := w4) rfl rfl rfl (by go_simp) ?_
  simp only [Act.put, sa, sz, ss]
  refine rest_set (d := 4) rfl rfl rfl rfl ?_
  simp only [Act.put, sa, sz, ss]
  refine rest_set (d := 5) rfl rfl rfl rfl ?_
  simp only [Act.put, sa, sz, ss]
  refine rest_nil (then_normal (wp_ret ?_))
  repeat (first | refine then_ret ?_ | refine block_ret ?_)
  refine bodyPost_ret (v := .tuple #[PT γ4_1 0, .int .i64 0]) (by simp [results, Tryd.results51, go_sem, *]) rfl ?_
  exact ⟨H4.out.2, γ4_1, rfl, o4_1.out, (H4.out.1.blk _ (List.mem_of_getElem? (i := 0) rfl)).1, (H4.out.1.blk _ (List.mem_of_getElem? (i := 0) rfl)).2⟩
set_option maxHeartbeats 1000000 in
set_option maxRecDepth 100000 in
theorem ari1_no {s : Int} {r : Nat} (hS : Su s r) (g a : Nat) (hba : a < big) (ha : ¬ a < r) (w : World) (hm : Mm w [(g, cel [a])]) :
    Calls Tryd.prog 51 #[.int .i64 s, .slice (some ⟨g, 0, none⟩) 1 1] w fun e w' => e = .returned (.tuple #[.pointer none, .int .i64 2]) ∧ Below w.heap.size w w' := by
  have H0 : Hid (_ ∧ _) := ⟨hm, Below.refl w.heap.size w⟩
  clear hm
  go_enter Tryd.func51, Tryd.ntmps51
  refine wp_seq ?_
  refine walk_seqB 2 [.quiet (.pointer none), .quiet (.int .i64 0)] H0 ?ho1 ?he1
  case ho1 => exact ak (fun _ => ⟨rfl, fun _ _ => rfl⟩) (ak (fun _ => ⟨rfl, fun _ _ => rfl⟩) trivial)
  intro _ w1 H1
  refine rest0 rfl (then_normal (wp_seq ?_))
  refine walk_seqA 9 [.quiet (.int .i64 s), .quiet (.slice (some ⟨g, 0, none⟩) 1 1), .call (.tuple #[N 0, .int .i64 2]), .quiet (.tuple #[N 0, .int .i64 2]), .quiet (N 0), .quiet (.int .i64 2), .made zero6 24, .laid 6 zero6 (cells6 0), .quiet (.int .i64 2)] (sB H1) ?ho2 ?he2 (hL := ?hL2)
  case hL2 => exact ⟨⟨_, rfl⟩, trivial⟩
  case ho2 => exact ak (fun _ => ⟨rfl, fun _ _ => rfl⟩) (ak (fun _ => ⟨rfl, fun _ _ => rfl⟩) (ak (fun γ => ⟨rfl, fun w' h => ⟨81, #[.int .i64 s, .slice (some ⟨g, 0, none⟩) 1 1], exec_call rfl call81 rfl (mpn rfl), above1_no hS g a hba ha w' (h.one 0 rfl)⟩⟩) (ak (fun _ => ⟨rfl, fun _ _ => rfl⟩) (ak (by refine fun γ => ⟨rfl, fun w' h => ?_⟩; clear h; go_simp) (ak (by refine fun γ => ⟨rfl, fun w' h => ?_⟩; clear h; go_simp) (ak (fun γ => ⟨rfl, fun w' => exec_made6 rfl⟩) (ak (fun γ => ⟨rfl, rfl, len_zero, fun w' h => exec_laid6 (v := 0) h rfl rfl rfl⟩) (ak (fun _ => ⟨rfl, fun _ _ => rfl⟩) trivial))))))))
  intro γ w2 l hM hl
  have H2 : Hid (Mm w2 [(γ 6, cells6 0), (g, cel [a])] ∧ _) := growB H1 hM (Nat.le_refl _) hl [6] rfl (by decide)
  have o2_6 := ownB H1 hM (Nat.le_refl _) hl (i := 6) rfl
  clear hM hl l H1
  generalize γ 6 = γ2_6 at H2 o2_6 ⊢
  clear γ
  refine rest0 rfl (then_normal (wp_seq (wp_seq ?_)))
  refine walk_seqB 2 [.quiet (.int .i64 2), .quiet (.bool true)] H2 ?ho3 ?he3
  case ho3 => exact ak (fun _ => ⟨rfl, fun _ _ => rfl⟩) (ak (by refine fun γ => ⟨rfl, fun w' h => ?_⟩; clear h; go_simp) trivial)
  intro _ w3 H3
  clear H2
  refine rest0 rfl (then_normal (wp_cond_true rfl (wp_seq ?_)))
  refine walk_seqB 3 [.quiet (.int .i64 2), .quiet (.pointer none), .quiet (.int .i64 2)] H3 ?ho4 ?he4
  case ho4 => exact ak (fun _ => ⟨rfl, fun _ _ => rfl⟩) (ak (fun _ => ⟨rfl, fun _ _ => rfl⟩) (ak (fun _ => ⟨rfl, fun _ _ => rfl⟩) trivial))
  intro _ w4 H4
  clear H3
  refine rest0 rfl (then_normal (wp_ret ?_))
  repeat (first | refine then_ret ?_ | refine block_ret ?_)
  refine bodyPost_ret (v := .tuple #[.pointer none, .int .i64 2]) (by simp [results, Tryd.results51, go_sem, *]) rfl ?_
  exact ⟨rfl, H4.out.2⟩
set_option maxHeartbeats 1000000 in
set_option maxRecDepth 100000 in
theorem ari2_no1 {s : Int} {r : Nat} (hS : Su s r) (g a b : Nat) (hba : a < big) (ha : ¬ a < r) (w : World) (hm : Mm w [(g, cel [a, b])]) :
    Calls Tryd.prog 51 #[.int .i64 s, .slice (some ⟨g, 0, none⟩) 2 2] w fun e w' => e = .returned (.tuple #[.pointer none, .int .i64 2]) ∧ Below w.heap.size w w' := by
  have H0 : Hid (_ ∧ _) := ⟨hm, Below.refl w.heap.size w⟩
  clear hm
  go_enter Tryd.func51, Tryd.ntmps51
  refine wp_seq ?_
  refine walk_seqB 2 [.quiet (.pointer none), .quiet (.int .i64 0)] H0 ?ho1 ?he1
  case ho1 => exact ak (fun _ => ⟨rfl, fun _ _ => rfl⟩) (ak (fun _ => ⟨rfl, fun _ _ => rfl⟩) trivial)
  intro _ w1 H1
  refine rest0 rfl (then_normal (wp_seq ?_))
  refine walk_seqA 9 [.quiet (.int .i64 s), .quiet (.slice (some ⟨g, 0, none⟩) 2 2), .call (.tuple #[N 0, .int .i64 2]), .quiet (.tuple #[N 0, .int .i64 2]), .quiet (N 0), .quiet (.int .i64 2), .made zero6 24, .laid 6 zero6 (cells6 0), .quiet (.int .i64 2)] (sB H1) ?ho2 ?he2 (hL := ?hL2)
  case hL2 => exact ⟨⟨_, rfl⟩, trivial⟩
  case ho2 => exact ak (fun _ => ⟨rfl, fun _ _ => rfl⟩) (ak (fun _ => ⟨rfl, fun _ _ => rfl⟩) (ak (fun γ => ⟨rfl, fun w' h => ⟨81, #[.int .i64 s, .slice (some ⟨g, 0, none⟩) 2 2], exec_call rfl call81 rfl (mpn rfl), above2_no1 hS g a b hba ha w' (h.one 0 rfl)⟩⟩) (ak (fun _ => ⟨rfl, fun _ _ => rfl⟩) (ak (by refine fun γ => ⟨rfl, fun w' h => ?_⟩; clear h; go_simp) (ak (by refine fun γ => ⟨rfl, fun w' h => ?_⟩; clear h; go_simp) (ak (fun γ => ⟨rfl, fun w' => exec_made6 rfl⟩) (ak (fun γ => ⟨rfl, rfl, len_zero, fun w' h => exec_laid6 (v := 0) h rfl rfl rfl⟩) (ak (fun _ => ⟨rfl, fun _ _ => rfl⟩) trivial))))))))
  intro γ w2 l hM hl
  have H2 : Hid (Mm w2 [(γ 6, cells6 0), (g, cel [a, b])] ∧ _) := growB H1 hM (Nat.le_refl _) hl [6] rfl (by decide)
  have o2_6 := ownB H1 hM (Nat.le_refl _) hl (i := 6) rfl
  clear hM hl l H1
  generalize γ 6 = γ2_6 at H2 o2_6 ⊢
  clear γ
  refine rest0 rfl (then_normal (wp_seq (wp_seq ?_)))
  refine walk_seqB 2 [.quiet (.int .i64 2), .quiet (.bool true)] H2 ?ho3 ?he3
  case ho3 => exact ak (fun _ => ⟨rfl, fun _ _ => rfl⟩) (ak (by refine fun γ => ⟨rfl, fun w' h => ?_⟩; clear h; go_simp) trivial)
  intro _ w3 H3
  clear H2
  refine rest0 rfl (then_normal (wp_cond_true rfl (wp_seq ?_)))
  refine walk_seqB 3 [.quiet (.int .i64 2), .quiet (.pointer none), .quiet (.int .i64 2)] H3 ?ho4 ?he4
  case ho4 => exact ak (fun _ => ⟨rfl, fun _ _ => rfl⟩) (ak (fun _ => ⟨rfl, fun _ _ => rfl⟩) (ak (fun _ => ⟨rfl, fun _ _ => rfl⟩) trivial))
  intro _ w4 H4
  clear H3
  refine rest0 rfl (then_normal (wp_ret ?_))
  repeat (first | refine then_ret ?_ | refine block_ret ?_)
  refine bodyPost_ret (v := .tuple #[.pointer none, .int .i64 2]) (by simp [results, Tryd.results51, go_sem, *]) rfl ?_
  exact ⟨rfl, H4.out.2⟩
set_option maxHeartbeats 1000000 in
set_option maxRecDepth 100000 in
theorem ari2_no2 {s : Int} {r : Nat} (hS : Su s r) (g a b : Nat) (ha : a < r) (hbb : b < big) (hb : ¬ b < r) (w : World) (hm : Mm w [(g, cel [a, b])]) :
    Calls Tryd.prog 51 #[.int .i64 s, .slice (some ⟨g, 0, none⟩) 2 2] w fun e w' => e = .returned (.tuple #[.pointer none, .int .i64 2]) ∧ Below w.heap.size w w' := by
  have H0 : Hid (_ ∧ _) := ⟨hm, Below.refl w.heap.size w⟩
  clear hm
  go_enter Tryd.func51, Tryd.ntmps51
  refine wp_seq ?_
  refine walk_seqB 2 [.quiet (.pointer none), .quiet (.int .i64 0)] H0 ?ho1 ?he1
  case ho1 => exact ak (fun _ => ⟨rfl, fun _ _ => rfl⟩) (ak (fun _ => ⟨rfl, fun _ _ => rfl⟩) trivial)
  intro _ w1 H1
  refine rest0 rfl (then_normal (wp_seq ?_))
  refine walk_seqA 9 [.quiet (.int .i64 s), .quiet (.slice (some ⟨g, 0, none⟩) 2 2), .call (.tuple #[N 0, .int .i64 2]), .quiet (.tuple #[N 0, .int .i64 2]), .quiet (N 0), .quiet (.int .i64 2), .made zero6 24, .laid 6 zero6 (cells6 0), .quiet (.int .i64 2)] (sB H1) ?ho2 ?he2 (hL := ?hL2)
  case hL2 => exact ⟨⟨_, rfl⟩, trivial⟩
  case ho2 => exact ak (fun _ => ⟨rfl, fun _ _ => rfl⟩) (ak (fun _ => ⟨rfl, fun _ _ => rfl⟩) (ak (fun γ => ⟨rfl, fun w' h => ⟨81, #[.int .i64 s, .slice (some ⟨g, 0, none⟩) 2 2], exec_call rfl call81 rfl (mpn rfl), above2_no2 hS g a b ha hbb hb w' (h.one 0 rfl)⟩⟩) (ak (fun _ => ⟨rfl, fun _ _ => rfl⟩) (ak (by refine fun γ => ⟨rfl, fun w' h => ?_⟩; clear h; go_simp) (ak (by refine fun γ => ⟨rfl, fun w' h => ?_⟩; clear h; go_simp) (ak (fun γ => ⟨rfl, fun w' => exec_made6 rfl⟩) (ak (fun γ => ⟨rfl, rfl, len_zero, fun w' h => exec_laid6 (v := 0) h rfl rfl rfl⟩) (ak (fun _ => ⟨rfl, fun _ _ => rfl⟩) trivial))))))))
  intro γ w2 l hM hl
  have H2 : Hid (Mm w2 [(γ 6, cells6 0), (g, cel [a, b])] ∧ _) := growB H1 hM (Nat.le_refl _) hl [6] rfl (by decide)
  have o2_6 := ownB H1 hM (Nat.le_refl _) hl (i := 6) rfl
  clear hM hl l H1
  generalize γ 6 = γ2_6 at H2 o2_6 ⊢
  clear γ
  refine rest0 rfl (then_normal (wp_seq (wp_seq ?_)))
  refine walk_seqB 2 [.quiet (.int .i64 2), .quiet (.bool true)] H2 ?ho3 ?he3
  case ho3 => exact ak (fun _ => ⟨rfl, fun _ _ => rfl⟩) (ak (by refine fun γ => ⟨rfl, fun w' h => ?_⟩; clear h; go_simp) trivial)
  intro _ w3 H3
  clear H2
  refine rest0 rfl (then_normal (wp_cond_true rfl (wp_seq ?_)))
  refine walk_seqB 3 [.quiet (.int .i64 2), .quiet (.pointer none), .quiet (.int .i64 2)] H3 ?ho4 ?he4
  case ho4 => exact ak (fun _ => ⟨rfl, fun _ _ => rfl⟩) (ak (fun _ => ⟨rfl, fun _ _ => rfl⟩) (ak (fun _ => ⟨rfl, fun _ _ => rfl⟩) trivial))
  intro _ w4 H4
  clear H3
  refine rest0 rfl (then_normal (wp_ret ?_))
  repeat (first | refine then_ret ?_ | refine block_ret ?_)
  refine bodyPost_ret (v := .tuple #[.pointer none, .int .i64 2]) (by simp [results, Tryd.results51, go_sem, *]) rfl ?_
  exact ⟨rfl, H4.out.2⟩
set_option maxRecDepth 100000 in
theorem ari_none {s : Int} (hS : Sn s) (v : Value) (w : World) :
    Calls Tryd.prog 51 #[.int .i64 s, v] w fun e w' => e = .returned (.tuple #[.pointer none, .int .i64 2]) ∧ Below w.heap.size w w' := by
  have H0 : Hid (_ ∧ _) := ⟨Mm.nil w, Below.refl w.heap.size w⟩
  go_enter Tryd.func51, Tryd.ntmps51
  refine wp_seq ?_
  refine walk_seqB 2 [.quiet (.pointer none), .quiet (.int .i64 0)] H0 ?ho1 ?he1
  case ho1 => exact ak (fun _ => ⟨rfl, fun _ _ => rfl⟩) (ak (fun _ => ⟨rfl, fun _ _ => rfl⟩) trivial)
  intro _ w1 H1
  refine rest0 rfl (then_normal (wp_seq ?_))
  refine walk_seqA 9 [.quiet (.int .i64 s), .quiet (v), .call (.tuple #[N 0, .int .i64 2]), .quiet (.tuple #[N 0, .int .i64 2]), .quiet (N 0), .quiet (.int .i64 2), .made zero6 24, .laid 6 zero6 (cells6 0), .quiet (.int .i64 2)] (sB H1) ?ho2 ?he2 (hL := ?hL2)
  case hL2 => exact ⟨⟨_, rfl⟩, trivial⟩
  case ho2 => exact ak (fun _ => ⟨rfl, fun _ _ => rfl⟩) (ak (fun _ => ⟨rfl, fun _ _ => rfl⟩) (ak (fun γ => ⟨rfl, fun w' h => ⟨81, #[.int .i64 s, v], exec_call rfl call81 rfl (mpn rfl), above_none hS v w'⟩⟩) (ak (fun _ => ⟨rfl, fun _ _ => rfl⟩) (ak (by refine fun γ => ⟨rfl, fun w' h => ?_⟩; clear h; go_simp) (ak (by refine fun γ => ⟨rfl, fun w' h => ?_⟩; clear h; go_simp) (ak (fun γ => ⟨rfl, fun w' => exec_made6 rfl⟩) (ak (fun γ => ⟨rfl, rfl, len_zero, fun w' h => exec_laid6 (v := 0) h rfl rfl rfl⟩) (ak (fun _ => ⟨rfl, fun _ _ => rfl⟩) trivial))))))))
  intro γ w2 l hM hl
  have H2 : Hid (Mm w2 [(γ 6, cells6 0)] ∧ _) := growB H1 hM (Nat.le_refl _) hl [6] rfl (by decide)
  have o2_6 := ownB H1 hM (Nat.le_refl _) hl (i := 6) rfl
  clear hM hl l H1
  generalize γ 6 = γ2_6 at H2 o2_6 ⊢
  clear γ
  refine rest0 rfl (then_normal (wp_seq (wp_seq ?_)))
  refine walk_seqB 2 [.quiet (.int .i64 2), .quiet (.bool true)] H2 ?ho3 ?he3
  case ho3 => exact ak (fun _ => ⟨rfl, fun _ _ => rfl⟩) (ak (by refine fun γ => ⟨rfl, fun w' h => ?_⟩; clear h; go_simp) trivial)
  intro _ w3 H3
  clear H2
  refine rest0 rfl (then_normal (wp_cond_true rfl (wp_seq ?_)))
  refine walk_seqB 3 [.quiet (.int .i64 2), .quiet (.pointer none), .quiet (.int .i64 2)] H3 ?ho4 ?he4
  case ho4 => exact ak (fun _ => ⟨rfl, fun _ _ => rfl⟩) (ak (fun _ => ⟨rfl, fun _ _ => rfl⟩) (ak (fun _ => ⟨rfl, fun _ _ => rfl⟩) trivial))
  intro _ w4 H4
  clear H3
  refine rest0 rfl (then_normal (wp_ret ?_))
  repeat (first | refine then_ret ?_ | refine block_ret ?_)
  refine bodyPost_ret (v := .tuple #[.pointer none, .int .i64 2]) (by simp [results, Tryd.results51, go_sem, *]) rfl ?_
  exact ⟨rfl, H4.out.2⟩
set_option maxHeartbeats 1000000 in
set_option maxRecDepth 100000 in
theorem sAdd_ok {s : Int} {r : Nat} (hS : Su s r) (a b : Nat) (ha : a < r) (hb : b < r) (w : World) :
    Calls Tryd.prog 20 #[.int .i64 s, N a, N b] w fun e w' => e = .returned (.tuple #[N ((a + b) % r), .int .i64 0]) ∧ Below w.heap.size w w' := by
  have H0 : Hid (_ ∧ _) := ⟨Mm.nil w, Below.refl w.heap.size w⟩
  go_enter Tryd.func20, Tryd.ntmps20
  refine wp_seq ?_
  refine walk_seqA 4 [.made (cells6 a) 24, .made (cells6 b) 24, .made zero6 24, .quiet (.int .i64 0)] (sB H0) ?ho1 ?he1
  case ho1 => exact ak (fun γ => ⟨rfl, fun w' => ex_box6 rfl rfl⟩) (ak (fun γ => ⟨rfl, fun w' => ex_box6 rfl rfl⟩) (ak (fun γ => ⟨rfl, fun w' => exec_made6 rfl⟩) (ak (fun _ => ⟨rfl, fun _ _ => rfl⟩) trivial)))
  intro γ w1 l hM hl
  have H1 : Hid (Mm w1 [(γ 0, cells6 a), (γ 1, cells6 b), (γ 2, zero6)] ∧ _) := growB H0 hM (Nat.le_refl _) hl [0, 1, 2] rfl (by decide)
  have o1_0 := ownB H0 hM (Nat.le_refl _) hl (i := 0) rfl
  have o1_1 := ownB H0 hM (Nat.le_refl _) hl (i := 1) rfl
  have o1_2 := ownB H0 hM (Nat.le_refl _) hl (i := 2) rfl
  clear hM hl l
  generalize γ 0 = γ1_0 at H1 o1_0 ⊢
  generalize γ 1 = γ1_1 at H1 o1_1 ⊢
  generalize γ 2 = γ1_2 at H1 o1_2 ⊢
  clear γ
  refine rest0 rfl (then_normal (wp_seq ?_))
  refine walk_seqB 3 [.quiet (.int .i64 s), .quiet (N a), .quiet (N b)] H1 ?ho2 ?he2
  case ho2 => exact ak (fun _ => ⟨rfl, fun _ _ => rfl⟩) (ak (fun γ => ⟨rfl, fun w' h => ex_load6 h 0 rfl rfl rfl rfl⟩) (ak (fun γ => ⟨rfl, fun w' h => ex_load6 h 1 rfl rfl rfl rfl⟩) trivial))
  intro _ w2 H2
  clear H1
  refine rest_at (l := [3, 4, 5, 6, 7, 8, 9]) rfl ?_
  refine rest_set (d := 14) (v := .slice (some ⟨w2.heap.size, 0, none⟩) 2 2) (w' := w2.alloc (.cells (cel [a, b] : List Value).toArray 24)) rfl rfl rfl (ex_bsN2 rfl rfl rfl) ?_
  simp only [Act.put, sa, sz, ss]
  have o_γs3 : Hid (w.heap.size ≤ w2.heap.size) := H2.out.2.size
  have H3 : Hid (Mm (w2.alloc (.cells (cel [a, b] : List Value).toArray 24)) ((w2.heap.size, cel [a, b]) :: [(γ1_0, cells6 a), (γ1_1, cells6 b), (γ1_2, zero6)]) ∧ Below w.heap.size w (w2.alloc (.cells (cel [a, b] : List Value).toArray 24))) := ⟨H2.out.1.alloc _ 24 rfl, H2.out.2.alloc H2.out.2.size _⟩
  clear H2
  generalize hgw : w2.alloc (.cells (cel [a, b] : List Value).toArray 24) = w3 at H3 ⊢
  clear hgw
  generalize w2.heap.size = γs3 at o_γs3 H3 ⊢
  refine rest_enter (d := 15) (R := fun vv w' => Below w3.heap.size w3 w' ∧ ∃ g, vv = .tuple #[PT g 0, .int .i64 0] ∧ w3.heap.size ≤ g ∧ g < w'.heap.size ∧ Blk w' g (modc r)) rfl rfl rfl (exec_call (args := #[.int .i64 s, .slice (some ⟨γs3, 0, none⟩) 2 2]) rfl call51 rfl (mpn rfl)) (Calls.mono (ari2_ok hS _ a b ha hb w3 (H3.out.1.one 0 rfl)) (fun e w2 hh => by obtain ⟨hb, g, he, h1, h2, h3⟩ := hh; exact ⟨_, he, hb, g, rfl, h1, h2, h3⟩)) ?_
  rintro _ w4 ⟨hb, γs4, rfl, hg1, hg2, hg3⟩
  have o_γs4 : Hid (w.heap.size ≤ γs4) := Nat.le_trans H3.out.2.size hg1
  have H4 : Hid (Mm w4 [(γs4, modc r), (γs3, cel [a, b]), (γ1_0, cells6 a), (γ1_1, cells6 b), (γ1_2, zero6)] ∧ Below w.heap.size w w4) := ⟨Mm.cons (H3.out.1.below hb) hg3 hg2 (fun p hp => Nat.ne_of_lt (Nat.lt_of_lt_of_le (H3.out.1.blk p hp).1 hg1)), H3.out.2.trans (hb.mono H3.out.2.size)⟩
  clear hb hg1 hg2 hg3 H3
  simp only [Act.put, sa, sz, ss]
  refine rest_set (d := 10) rfl rfl rfl rfl ?_
  simp only [Act.put, sa, sz, ss]
  refine rest_set (d := 16) (v := PT γs4 0) (w' := w4) rfl rfl rfl (by go_simp) ?_
  simp only [Act.put, sa, sz, ss]
  refine rest_set (d := 17) (v := .int .i64 0) (w' := w4) rfl rfl rfl (by go_simp) ?_
  simp only [Act.put, sa, sz, ss]
  refine rest_set (d := 8) rfl rfl rfl rfl ?_
  simp only [Act.put, sa, sz, ss]
  refine rest_set (d := 9) rfl rfl rfl rfl ?_
  simp only [Act.put, sa, sz, ss]
  refine rest_nil (then_normal (wp_seq ?_))
  refine walk_seqB 5 [.quiet (PT γs4 0), .quiet (N a), .quiet (N b), .call (N ((a + b) % r)), .quiet (.int .i64 0)] H4 ?ho3 ?he3
  case ho3 => exact ak (fun _ => ⟨rfl, fun _ _ => rfl⟩) (ak (fun γ => ⟨rfl, fun w' h => ex_load6 h 2 rfl rfl rfl rfl⟩) (ak (fun γ => ⟨rfl, fun w' h => ex_load6 h 3 rfl rfl rfl rfl⟩) (ak (fun γ => ⟨rfl, fun w' h => ⟨11, #[PT γs4 0, N a, N b], exec_call rfl call11 rfl (mpn rfl), addm_any hS.ok (Nat.lt_trans ha hS.ok.big) (Nat.lt_trans hb hS.ok.big) w' (h.one 0 rfl)⟩⟩) (ak (fun _ => ⟨rfl, fun _ _ => rfl⟩) trivial))))
  intro _ w5 H5
  clear H4
  refine rest_at (l := [5, 6]) rfl ?_
  refine rest_store rfl rfl rfl (ex_store6 H5.out.1 4 rfl rfl rfl rfl (Nat.le_of_ble_eq_true rfl)) ?_
  have H6 : Hid (Mm (w5.setCells γ1_2 0 (cells6 ((a + b) % r))) [(γs4, modc r), (γs3, cel [a, b]), (γ1_0, cells6 a), (γ1_1, cells6 b), (γ1_2, cells6 ((a + b) % r))] ∧ Below w.heap.size w (w5.setCells γ1_2 0 (cells6 ((a + b) % r)))) := ⟨H5.out.1.put 4 (off := 0) (vs := cells6 ((a + b) % r)) rfl (Nat.le_of_ble_eq_true rfl), below_setCells _ o1_2.out _ _ _ H5.out.2⟩
  clear H5
  generalize hgw : World.setCells _ _ _ _ = w6 at H6 ⊢
  clear hgw
  refine rest_set (d := 7) rfl rfl rfl rfl ?_
  simp only [Act.put, sa, sz, ss]
  refine rest_nil (then_normal (wp_ret ?_))
  repeat (first | refine then_ret ?_ | refine block_ret ?_)
  have c0 := H6.out.1.get 4 rfl 0 rfl
  have c1 := H6.out.1.get 4 rfl 1 rfl
  have c2 := H6.out.1.get 4 rfl 2 rfl
  have c3 := H6.out.1.get 4 rfl 3 rfl
  have c4 := H6.out.1.get 4 rfl 4 rfl
  have c5 := H6.out.1.get 4 rfl 5 rfl
  refine bodyPost_ret (v := .tuple #[N ((a + b) % r), .int .i64 0]) (by simp [results, Tryd.results20, go_sem, *]) rfl ?_
  exact ⟨rfl, H6.out.2⟩
set_option maxHeartbeats 1000000 in
set_option maxRecDepth 100000 in
theorem sAdd_no1 {s : Int} {r : Nat} (hS : Su s r) (a b : Nat) (hba : a < big) (ha : ¬ a < r) (w : World) :
    Calls Tryd.prog 20 #[.int .i64 s, N a, N b] w fun e w' => e = .returned (.tuple #[N 0, .int .i64 2]) ∧ Below w.heap.size w w' := by
  have H0 : Hid (_ ∧ _) := ⟨Mm.nil w, Below.refl w.heap.size w⟩
  go_enter Tryd.func20, Tryd.ntmps20
  refine wp_seq ?_
  refine walk_seqA 4 [.made (cells6 a) 24, .made (cells6 b) 24, .made zero6 24, .quiet (.int .i64 0)] (sB H0) ?ho1 ?he1
  case ho1 => exact ak (fun γ => ⟨rfl, fun w' => ex_box6 rfl rfl⟩) (ak (fun γ => ⟨rfl, fun w' => ex_box6 rfl rfl⟩) (ak (fun γ => ⟨rfl, fun w' => exec_made6 rfl⟩) (ak (fun _ => ⟨rfl, fun _ _ => rfl⟩) trivial)))
  intro γ w1 l hM hl
  have H1 : Hid (Mm w1 [(γ 0, cells6 a), (γ 1, cells6 b), (γ 2, zero6)] ∧ _) := growB H0 hM (Nat.le_refl _) hl [0, 1, 2] rfl (by decide)
  have o1_0 := ownB H0 hM (Nat.le_refl _) hl (i := 0) rfl
  have o1_1 := ownB H0 hM (Nat.le_refl _) hl (i := 1) rfl
  have o1_2 := ownB H0 hM (Nat.le_refl _) hl (i := 2) rfl
  clear hM hl l
  generalize γ 0 = γ1_0 at H1 o1_0 ⊢
  generalize γ 1 = γ1_1 at H1 o1_1 ⊢
  generalize γ 2 = γ1_2 at H1 o1_2 ⊢
  clear γ
  refine rest0 rfl (then_normal (wp_seq ?_))
  refine walk_seqB 3 [.quiet (.int .i64 s), .quiet (N a), .quiet (N b)] H1 ?ho2 ?he2
  case ho2 => exact ak (fun _ => ⟨rfl, fun _ _ => rfl⟩) (ak (fun γ => ⟨rfl, fun w' h => ex_load6 h 0 rfl rfl rfl rfl⟩) (ak (fun γ => ⟨rfl, fun w' h => ex_load6 h 1 rfl rfl rfl rfl⟩) trivial))
  intro _ w2 H2
  clear H1
  refine rest_at (l := [3, 4, 5, 6, 7, 8, 9]) rfl ?_
  refine rest_set (d := 14) (v := .slice (some ⟨w2.heap.size, 0, none⟩) 2 2) (w' := w2.alloc (.cells (cel [a, b] : List Value).toArray 24)) rfl rfl rfl (ex_bsN2 rfl rfl rfl) ?_
  simp only [Act.put, sa, sz, ss]
  have o_γs3 : Hid (w.heap.size ≤ w2.heap.size) := H2.out.2.size
  have H3 : Hid (Mm (w2.alloc (.cells (cel [a, b] : List Value).toArray 24)) ((w2.heap.size, cel [a, b]) :: [(γ1_0, cells6 a), (γ1_1, cells6 b), (γ1_2, zero6)]) ∧ Below w.heap.size w (w2.alloc (.cells (cel [a, b] : List Value).toArray 24))) := ⟨H2.out.1.alloc _ 24 rfl, H2.out.2.alloc H2.out.2.size _⟩
  clear H2
  generalize hgw : w2.alloc (.cells (cel [a, b] : List Value).toArray 24) = w3 at H3 ⊢
  clear hgw
  generalize w2.heap.size = γs3 at o_γs3 H3 ⊢
  refine rest_enter (d := 15) (R := fun vv w' => vv = .tuple #[.pointer none, .int .i64 2] ∧ Below w3.heap.size w3 w') rfl rfl rfl (exec_call (args := #[.int .i64 s, .slice (some ⟨γs3, 0, none⟩) 2 2]) rfl call51 rfl (mpn rfl)) (Calls.mono (ari2_no1 hS _ a b hba ha w3 (H3.out.1.one 0 rfl)) (fun e w2 hh => ⟨_, hh.1, rfl, hh.2⟩)) ?_
  rintro _ w4 ⟨rfl, hb⟩
  have H4 : Hid (_ ∧ _) := ⟨H3.out.1.below hb, H3.out.2.trans (hb.mono H3.out.2.size)⟩
  clear hb H3
  simp only [Act.put, sa, sz, ss]
  refine rest_set (d := 10) rfl rfl rfl rfl ?_
  simp only [Act.put, sa, sz, ss]
  refine rest_set (d := 16) (v := .pointer none) (w' := w4) rfl rfl rfl (by go_simp) ?_
  simp only [Act.put, sa, sz, ss]
  refine rest_set (d := 17) (v := .int .i64 2) (w' := w4) rfl rfl rfl (by go_simp) ?_
  simp only [Act.put, sa, sz, ss]
  refine rest_set (d := 8) rfl rfl rfl rfl ?_
  simp only [Act.put, sa, sz, ss]
  refine rest_set (d := 9) rfl rfl rfl rfl ?_
  simp only [Act.put, sa, sz, ss]
  refine rest_nil (then_normal (wp_seq ?_))
  refine walk_seqB 5 [.quiet (.pointer none), .quiet (N a), .quiet (N b), .call (N 0), .quiet (.int .i64 2)] H4 ?ho3 ?he3
  case ho3 => exact ak (fun _ => ⟨rfl, fun _ _ => rfl⟩) (ak (fun γ => ⟨rfl, fun w' h => ex_load6 h 1 rfl rfl rfl rfl⟩) (ak (fun γ => ⟨rfl, fun w' h => ex_load6 h 2 rfl rfl rfl rfl⟩) (ak (fun γ => ⟨rfl, fun w' h => ⟨11, #[.pointer none, N a, N b], exec_call rfl call11 rfl (mpn rfl), add_nil a b w'⟩⟩) (ak (fun _ => ⟨rfl, fun _ _ => rfl⟩) trivial))))
  intro _ w5 H5
  clear H4
  refine rest_at (l := [5, 6]) rfl ?_
  refine rest_store rfl rfl rfl (ex_store6 H5.out.1 3 rfl rfl rfl rfl (Nat.le_of_ble_eq_true rfl)) ?_
  have H6 : Hid (Mm (w5.setCells γ1_2 0 (cells6 0)) [(γs3, cel [a, b]), (γ1_0, cells6 a), (γ1_1, cells6 b), (γ1_2, cells6 0)] ∧ Below w.heap.size w (w5.setCells γ1_2 0 (cells6 0))) := ⟨H5.out.1.put 3 (off := 0) (vs := cells6 0) rfl (Nat.le_of_ble_eq_true rfl), below_setCells _ o1_2.out _ _ _ H5.out.2⟩
  clear H5
  generalize hgw : World.setCells _ _ _ _ = w6 at H6 ⊢
  clear hgw
  refine rest_set (d := 7) rfl rfl rfl rfl ?_
  simp only [Act.put, sa, sz, ss]
  refine rest_nil (then_normal (wp_ret ?_))
  repeat (first | refine then_ret ?_ | refine block_ret ?_)
  have c0 := H6.out.1.get 3 rfl 0 rfl
  have c1 := H6.out.1.get 3 rfl 1 rfl
  have c2 := H6.out.1.get 3 rfl 2 rfl
  have c3 := H6.out.1.get 3 rfl 3 rfl
  have c4 := H6.out.1.get 3 rfl 4 rfl
  have c5 := H6.out.1.get 3 rfl 5 rfl
  refine bodyPost_ret (v := .tuple #[N 0, .int .i64 2]) (by simp [results, Tryd.results20, go_sem, *]) rfl ?_
  exact ⟨rfl, H6.out.2⟩
set_option maxHeartbeats 1000000 in
set_option maxRecDepth 100000 in
theorem sAdd_no2 {s : Int} {r : Nat} (hS : Su s r) (a b : Nat) (ha : a < r) (hbb : b < big) (hb : ¬ b < r) (w : World) :
    Calls Tryd.prog 20 #[.int .i64 s, N a, N b] w fun e w' => e = .returned (.tuple #[N 0, .int .i64 2]) ∧ Below w.heap.size w w' := by
  have H0 : Hid (_ ∧ _) := ⟨Mm.nil w, Below.refl w.heap.size w⟩
  go_enter Tryd.func20, Tryd.ntmps20
  refine wp_seq ?_
  refine walk_seqA 4 [.made (cells6 a) 24, .made (cells6 b) 24, .made zero6 24, .quiet (.int .i64 0)] (sB H0) ?ho1 ?he1
  case ho1 => exact ak (fun γ => ⟨rfl, fun w' => ex_box6 rfl rfl⟩) (ak (fun γ => ⟨rfl, fun w' => ex_box6 rfl rfl⟩) (ak (fun γ => ⟨rfl, fun w' => exec_made6 rfl⟩) (ak (fun _ => ⟨rfl, fun _ _ => rfl⟩) trivial)))
  intro γ w1 l hM hl
  have H1 : Hid (Mm w1 [(γ 0, cells6 a), (γ 1, cells6 b), (γ 2, zero6)] ∧ _) := growB H0 hM (Nat.le_refl _) hl [0, 1, 2] rfl (by decide)
  have o1_0 := ownB H0 hM (Nat.le_refl _) hl (i := 0) rfl
  have o1_1 := ownB H0 hM (Nat.le_refl _) hl (i := 1) rfl
  have o1_2 := ownB H0 hM (Nat.le_refl _) hl (i := 2) rfl
  clear hM hl l
  generalize γ 0 = γ1_0 at H1 o1_0 ⊢
  generalize γ 1 = γ1_1 at H1 o1_1 ⊢
  generalize γ 2 = γ1_2 at H1 o1_2 ⊢
  clear γ
  refine rest0 rfl (then_normal (wp_seq ?_))
  refine walk_seqB 3 [.quiet (.int .i64 s), .quiet (N a), .quiet (N b)] H1 ?ho2 ?he2
  case ho2 => exact ak (fun _ => ⟨rfl, fun _ _ => rfl⟩) (ak (fun γ => ⟨rfl, fun w' h => ex_load6 h 0 rfl rfl rfl rfl⟩) (ak (fun γ => ⟨rfl, fun w' h => ex_load6 h 1 rfl rfl rfl rfl⟩) trivial))
  intro _ w2 H2
  clear H1
  refine rest_at (l := [3, 4, 5, 6, 7, 8, 9]) rfl ?_
  refine rest_set (d := 14) (v := .slice (some ⟨w2.heap.size, 0, none⟩) 2 2) (w' := w2.alloc (.cells (cel [a, b] : List Value).toArray 24)) rfl rfl rfl (ex_bsN2 rfl rfl rfl) ?_
  simp only [Act.put, sa, sz, ss]
  have o_γs3 : Hid (w.heap.size ≤ w2.heap.size) := H2.out.2.size
  have H3 : Hid (Mm (w2.alloc (.cells (cel [a, b] : List Value).toArray 24)) ((w2.heap.size, cel [a, b]) :: [(γ1_0, cells6 a), (γ1_1, cells6 b), (γ1_2, zero6)]) ∧ Below w.heap.size w (w2.alloc (.cells (cel [a, b] : List Value).toArray 24))) := ⟨H2.out.1.alloc _ 24 rfl, H2.out.2.alloc H2.out.2.size _⟩
  clear H2
  generalize hgw : w2.alloc (.cells (cel [a, b] : List Value).toArray 24) = w3 at H3 ⊢
  clear hgw
  generalize w2.heap.size = γs3 at o_γs3 H3 ⊢
  refine rest_enter (d := 15) (R := fun vv w' => vv = .tuple #[.pointer none, .int .i64 2] ∧ Below w3.heap.size w3 w') rfl rfl rfl (exec_call (args := #[.int .i64 s, .slice (some ⟨γs3, 0, none⟩) 2 2]) rfl call51 rfl (mpn rfl)) (Calls.mono (ari2_no2 hS _ a b ha hbb hb w3 (H3.out.1.one 0 rfl)) (fun e w2 hh => ⟨_, hh.1, rfl, hh.2⟩)) ?_
  rintro _ w4 ⟨rfl, hb⟩
  have H4 : Hid (_ ∧ _) := ⟨H3.out.1.below hb, H3.out.2.trans (hb.mono H3.out.2.size)⟩
  clear hb H3
  simp only [Act.put, sa, sz, ss]
  refine rest_set (d := 10) rfl rfl rfl rfl ?_
  simp only [Act.put, sa, sz, ss]
  refine rest_set (d := 16) (v := .pointer none) (w' := w4) rfl rfl rfl (by go_simp) ?_
  simp only [Act.put, sa, sz, ss]
  refine rest_set (d := 17) (v := .int .i64 2) (w' := w4) rfl rfl rfl (by go_simp) ?_
  simp only [Act.put, sa, sz, ss]
  refine rest_set (d := 8) rfl rfl rfl rfl ?_
  simp only [Act.put, sa, sz, ss]
  refine rest_set (d := 9) rfl rfl rfl rfl ?_
  simp only [Act.put, sa, sz, ss]
  refine rest_nil (then_normal (wp_seq ?_))
  refine walk_seqB 5 [.quiet (.pointer none), .quiet (N a), .quiet (N b), .call (N 0), .quiet (.int .i64 2)] H4 ?ho3 ?he3
  case ho3 => exact ak (fun _ => ⟨rfl, fun _ _ => rfl⟩) (ak (fun γ => ⟨rfl, fun w' h => ex_load6 h 1 rfl rfl rfl rfl⟩) (ak (fun γ => ⟨rfl, fun w' h => ex_load6 h 2 rfl rfl rfl rfl⟩) (ak (fun γ => ⟨rfl, fun w' h => ⟨11, #[.pointer none, N a, N b], exec_call rfl call11 rfl (mpn rfl), add_nil a b w'⟩⟩) (ak (fun _ => ⟨rfl, fun _ _ => rfl⟩) trivial))))
  intro _ w5 H5
  clear H4
  refine rest_at (l := [5, 6]) rfl ?_
  refine rest_store rfl rfl rfl (ex_store6 H5.out.1 3 rfl rfl rfl rfl (Nat.le_of_ble_eq_true rfl)) ?_
  have H6 : Hid (Mm (w5.setCells γ1_2 0 (cells6 0)) [(γs3, cel [a, b]), (γ1_0, cells6 a), (γ1_1, cells6 b), (γ1_2, cells6 0)] ∧ Below w.heap.size w (w5.setCells γ1_2 0 (cells6 0))) := ⟨H5.out.1.put 3 (off := 0) (vs := cells6 0) rfl (Nat.le_of_ble_eq_true rfl), below_setCells _ o1_2.out _ _ _ H5.out.2⟩
  clear H5
  generalize hgw : World.setCells _ _ _ _ = w6 at H6 ⊢
  clear hgw
  refine rest_set (d := 7) rfl rfl rfl rfl ?_
  simp only [Act.put, sa, sz, ss]
  refine rest_nil (then_normal (wp_ret ?_))
  repeat (first | refine then_ret ?_ | refine block_ret ?_)
  have c0 := H6.out.1.get 3 rfl 0 rfl
  have c1 := H6.out.1.get 3 rfl 1 rfl
  have c2 := H6.out.1.get 3 rfl 2 rfl
  have c3 := H6.out.1.get 3 rfl 3 rfl
  have c4 := H6.out.1.get 3 rfl 4 rfl
  have c5 := H6.out.1.get 3 rfl 5 rfl
  refine bodyPost_ret (v := .tuple #[N 0, .int .i64 2]) (by simp [results, Tryd.results20, go_sem, *]) rfl ?_
  exact ⟨rfl, H6.out.2⟩
set_option maxHeartbeats 1000000 in
set_option maxRecDepth 100000 in
theorem sAdd_none {s : Int} (hS : Sn s) (a b : Nat) (w : World) :
    Calls Tryd.prog 20 #[.int .i64 s, N a, N b] w fun e w' => e = .returned (.tuple #[N 0, .int .i64 2]) ∧ Below w.heap.size w w' := by
  have H0 : Hid (_ ∧ _) := ⟨Mm.nil w, Below.refl w.heap.size w⟩
  go_enter Tryd.func20, Tryd.ntmps20
  refine wp_seq ?_
  refine walk_seqA 4 [.made (cells6 a) 24, .made (cells6 b) 24, .made zero6 24, .quiet (.int .i64 0)] (sB H0) ?ho1 ?he1
  case ho1 => exact ak (fun γ => ⟨rfl, fun w' => ex_box6 rfl rfl⟩) (ak (fun γ => ⟨rfl, fun w' => ex_box6 rfl rfl⟩) (ak (fun γ => ⟨rfl, fun w' => exec_made6 rfl⟩) (ak (fun _ => ⟨rfl, fun _ _ => rfl⟩) trivial)))
  intro γ w1 l hM hl
  have H1 : Hid (Mm w1 [(γ 0, cells6 a), (γ 1, cells6 b), (γ 2, zero6)] ∧ _) := growB H0 hM (Nat.le_refl _) hl [0, 1, 2] rfl (by decide)
  have o1_0 := ownB H0 hM (Nat.le_refl _) hl (i := 0) rfl
  have o1_1 := ownB H0 hM (Nat.le_refl _) hl (i := 1) rfl
  have o1_2 := ownB H0 hM (Nat.le_refl _) hl (i := 2) rfl
  clear hM hl l
  generalize γ 0 = γ1_0 at H1 o1_0 ⊢
  generalize γ 1 = γ1_1 at H1 o1_1 ⊢
  generalize γ 2 = γ1_2 at H1 o1_2 ⊢
  clear γ
  refine rest0 rfl (then_normal (wp_seq ?_))
  refine walk_seqB 3 [.quiet (.int .i64 s), .quiet (N a), .quiet (N b)] H1 ?ho2 ?he2
  case ho2 => exact ak (fun _ => ⟨rfl, fun _ _ => rfl⟩) (ak (fun γ => ⟨rfl, fun w' h => ex_load6 h 0 rfl rfl rfl rfl⟩) (ak (fun γ => ⟨rfl, fun w' h => ex_load6 h 1 rfl rfl rfl rfl⟩) trivial))
  intro _ w2 H2
  clear H1
  refine rest_at (l := [3, 4, 5, 6, 7, 8, 9]) rfl ?_
  refine rest_set (d := 14) (v := .slice (some ⟨w2.heap.size, 0, none⟩) 2 2) (w' := w2.alloc (.cells (cel [a, b] : List Value).toArray 24)) rfl rfl rfl (ex_bsN2 rfl rfl rfl) ?_
  simp only [Act.put, sa, sz, ss]
  have o_γs3 : Hid (w.heap.size ≤ w2.heap.size) := H2.out.2.size
  have H3 : Hid (Mm (w2.alloc (.cells (cel [a, b] : List Value).toArray 24)) ((w2.heap.size, cel [a, b]) :: [(γ1_0, cells6 a), (γ1_1, cells6 b), (γ1_2, zero6)]) ∧ Below w.heap.size w (w2.alloc (.cells (cel [a, b] : List Value).toArray 24))) := ⟨H2.out.1.alloc _ 24 rfl, H2.out.2.alloc H2.out.2.size _⟩
  clear H2
  generalize hgw : w2.alloc (.cells (cel [a, b] : List Value).toArray 24) = w3 at H3 ⊢
  clear hgw
  generalize w2.heap.size = γs3 at o_γs3 H3 ⊢
  refine rest_enter (d := 15) (R := fun vv w' => vv = .tuple #[.pointer none, .int .i64 2] ∧ Below w3.heap.size w3 w') rfl rfl rfl (exec_call (args := #[.int .i64 s, .slice (some ⟨γs3, 0, none⟩) 2 2]) rfl call51 rfl (mpn rfl)) (Calls.mono (ari_none hS _ w3) (fun e w2 hh => ⟨_, hh.1, rfl, hh.2⟩)) ?_
  rintro _ w4 ⟨rfl, hb⟩
  have H4 : Hid (_ ∧ _) := ⟨H3.out.1.below hb, H3.out.2.trans (hb.mono H3.out.2.size)⟩
  clear hb H3
  simp only [Act.put, sa, sz, ss]
  refine rest_set (d := 10) rfl rfl rfl rfl ?_
  simp only [Act.put, sa, sz, ss]
  refine rest_set (d := 16) (v := .pointer none) (w' := w4) rfl rfl rfl (by go_simp) ?_
  simp only [Act.put, sa, sz, ss]
  refine rest_set (d := 17) (v := .int .i64 2) (w' := w4) rfl rfl rfl (by go_simp) ?_
  simp only [Act.put, sa, sz, ss]
  refine rest_set (d := 8) rfl rfl rfl rfl ?_
  simp only [Act.put, sa, sz, ss]
  refine rest_set (d := 9) rfl rfl rfl rfl ?_
  simp only [Act.put, sa, sz, ss]
  refine rest_nil (then_normal (wp_seq ?_))
  refine walk_seqB 5 [.quiet (.pointer none), .quiet (N a), .quiet (N b), .call (N 0), .quiet (.int .i64 2)] H4 ?ho3 ?he3
  case ho3 => exact ak (fun _ => ⟨rfl, fun _ _ => rfl⟩) (ak (fun γ => ⟨rfl, fun w' h => ex_load6 h 1 rfl rfl rfl rfl⟩) (ak (fun γ => ⟨rfl, fun w' h => ex_load6 h 2 rfl rfl rfl rfl⟩) (ak (fun γ => ⟨rfl, fun w' h => ⟨11, #[.pointer none, N a, N b], exec_call rfl call11 rfl (mpn rfl), add_nil a b w'⟩⟩) (ak (fun _ => ⟨rfl, fun _ _ => rfl⟩) trivial))))
  intro _ w5 H5
  clear H4
  refine rest_at (l := [5, 6]) rfl ?_
  refine rest_store rfl rfl rfl (ex_store6 H5.out.1 3 rfl rfl rfl rfl (Nat.le_of_ble_eq_true rfl)) ?_
  have H6 : Hid (Mm (w5.setCells γ1_2 0 (cells6 0)) [(γs3, cel [a, b]), (γ1_0, cells6 a), (γ1_1, cells6 b), (γ1_2, cells6 0)] ∧ Below w.heap.size w (w5.setCells γ1_2 0 (cells6 0))) := ⟨H5.out.1.put 3 (off := 0) (vs := cells6 0) rfl (Nat.le_of_ble_eq_true rfl), below_setCells _ o1_2.out _ _ _ H5.out.2⟩
  clear H5
  generalize hgw : World.setCells _ _ _ _ = w6 at H6 ⊢
  clear hgw
  refine rest_set (d := 7) rfl rfl rfl rfl ?_
  simp only [Act.put, sa, sz, ss]
  refine rest_nil (then_normal (wp_ret ?_))
  repeat (first | refine then_ret ?_ | refine block_ret ?_)
  have c0 := H6.out.1.get 3 rfl 0 rfl
  have c1 := H6.out.1.get 3 rfl 1 rfl
  have c2 := H6.out.1.get 3 rfl 2 rfl
  have c3 := H6.out.1.get 3 rfl 3 rfl
  have c4 := H6.out.1.get 3 rfl 4 rfl
  have c5 := H6.out.1.get 3 rfl 5 rfl
  refine bodyPost_ret (v := .tuple #[N 0, .int .i64 2]) (by simp [results, Tryd.results20, go_sem, *]) rfl ?_
  exact ⟨rfl, H6.out.2⟩
set_option maxHeartbeats 1000000 in
set_option maxRecDepth 100000 in
theorem sSub_ok {s : Int} {r : Nat} (hS : Su s r) (a b : Nat) (ha : a < r) (hb : b < r) (w : World) :
    Calls Tryd.prog 21 #[.int .i64 s, N a, N b] w fun e w' => e = .returned (.tuple #[N (subm r a b), .int .i64 0]) ∧ Below w.heap.size w w' := by
  have H0 : Hid (_ ∧ _) := ⟨Mm.nil w, Below.refl w.heap.size w⟩
  go_enter Tryd.func21, Tryd.ntmps21
  refine wp_seq ?_
  refine walk_seqA 4 [.made (cells6 a) 24, .made (cells6 b) 24, .made zero6 24, .quiet (.int .i64 0)] (sB H0) ?ho1 ?he1
  case ho1 => exact ak (fun γ => ⟨rfl, fun w' => ex_box6 rfl rfl⟩) (ak (fun γ => ⟨rfl, fun w' => ex_box6 rfl rfl⟩) (ak (fun γ => ⟨rfl, fun w' => exec_made6 rfl⟩) (ak (fun _ => ⟨rfl, fun _ _ => rfl⟩) trivial)))
  intro γ w1 l hM hl
  have H1 : Hid (Mm w1 [(γ 0, cells6 a), (γ 1, cells6 b), (γ 2, zero6)] ∧ _) := growB H0 hM (Nat.le_refl _) hl [0, 1, 2] rfl (by decide)
  have o1_0 := ownB H0 hM (Nat.le_refl _) hl (i := 0) rfl
  have o1_1 := ownB H0 hM (Nat.le_refl _) hl (i := 1) rfl
  have o1_2 := ownB H0 hM (Nat.le_refl _) hl (i := 2) rfl
  clear hM hl l
  generalize γ 0 = γ1_0 at H1 o1_0 ⊢
  generalize γ 1 = γ1_1 at H1 o1_1 ⊢
  generalize γ 2 = γ1_2 at H1 o1_2 ⊢
  clear γ
  refine rest0 rfl (then_normal (wp_seq ?_))
  refine walk_seqB 3 [.quiet (.int .i64 s), .quiet (N a), .quiet (N b)] H1 ?ho2 ?he2
  case ho2 => exact ak (fun _ => ⟨rfl, fun _ _ => rfl⟩) (ak (fun γ => ⟨rfl, fun w' h => ex_load6 h 0 rfl rfl rfl rfl⟩) (ak (fun γ => ⟨rfl, fun w' h => ex_load6 h 1 rfl rfl rfl rfl⟩) trivial))
  intro _ w2 H2
  clear H1
  refine rest_at (l := [3, 4, 5, 6, 7, 8, 9]) rfl ?_
  refine rest_set (d := 14) (v := .slice (some ⟨w2.heap.size, 0, none⟩) 2 2) (w' := w2.alloc (.cells (cel [a, b] : List Value).toArray 24)) rfl rfl rfl (ex_bsN2 rfl rfl rfl) ?_
  simp only [Act.put, sa, sz, ss]
  have o_γs3 : Hid (w.heap.size ≤ w2.heap.size) := H2.out.2.size
  have H3 : Hid (Mm (w2.alloc (.cells (cel [a, b] : List Value).toArray 24)) ((w2.heap.size, cel [a, b]) :: [(γ1_0, cells6 a), (γ1_1, cells6 b), (γ1_2, zero6)]) ∧ Below w.heap.size w (w2.alloc (.cells (cel [a, b] : List Value).toArray 24))) := ⟨H2.out.1.alloc _ 24 rfl, H2.out.2.alloc H2.out.2.size _⟩
  clear H2
  generalize hgw : w2.alloc (.cells (cel [a, b] : List Value).toArray 24) = w3 at H3 ⊢
  clear hgw
  generalize w2.heap.size = γs3 at o_γs3 H3 ⊢
  refine rest_enter (d := 15) (R := fun vv w' => Below w3.heap.size w3 w' ∧ ∃ g, vv = .tuple #[PT g 0, .int .i64 0] ∧ w3.heap.size ≤ g ∧ g < w'.heap.size ∧ Blk w' g (modc r)) rfl rfl rfl (exec_call (args := #[.int .i64 s, .slice (some ⟨γs3, 0, none⟩) 2 2]) rfl call51 rfl (mpn rfl)) (Calls.mono (ari2_ok hS _ a b ha hb w3 (H3.out.1.one 0 rfl)) (fun e w2 hh => by obtain ⟨hb, g, he, h1, h2, h3⟩ := hh; exact ⟨_, he, hb, g, rfl, h1, h2, h3⟩)) ?_
  rintro _ w4 ⟨hb, γs4, rfl, hg1, hg2, hg3⟩
  have o_γs4 : Hid (w.heap.size ≤ γs4) := Nat.le_trans H3.out.2.size hg1
  have H4 : Hid (Mm w4 [(γs4, modc r), (γs3, cel [a, b]), (γ1_0, cells6 a), (γ1_1, cells6 b), (γ1_2, zero6)] ∧ Below w.heap.size w w4) := ⟨Mm.cons (H3.out.1.below hb) hg3 hg2 (fun p hp => Nat.ne_of_lt (Nat.lt_of_lt_of_le (H3.out.1.blk p hp).1 hg1)), H3.out.2.trans (hb.mono H3.out.2.size)⟩
  clear hb hg1 hg2 hg3 H3
  simp only [Act.put, sa, sz, ss]
  refine rest_set (d := 10) rfl rfl rfl rfl ?_
  simp only [Act.put, sa, sz, ss]
  refine rest_set (d := 16) (v := PT γs4 0) (w' := w4) rfl rfl rfl (by go_simp) ?_
  simp only [Act.put, sa, sz, ss]
  refine rest_set (d := 17) (v := .int .i64 0) (w' := w4) rfl rfl rfl (by go_simp) ?_
  simp only [Act.put, sa, sz, ss]
  refine rest_set (d := 8) rfl rfl rfl rfl ?_
  simp only [Act.put, sa, sz, ss]
  refine rest_set (d := 9) rfl rfl rfl rfl ?_
  simp only [Act.put, sa, sz, ss]
  refine rest_nil (then_normal (wp_seq ?_))
  refine walk_seqB 5 [.quiet (PT γs4 0), .quiet (N a), .quiet (N b), .call (N (subm r a b)), .quiet (.int .i64 0)] H4 ?ho3 ?he3
  case ho3 => exact ak (fun _ => ⟨rfl, fun _ _ => rfl⟩) (ak (fun γ => ⟨rfl, fun w' h => ex_load6 h 2 rfl rfl rfl rfl⟩) (ak (fun γ => ⟨rfl, fun w' h => ex_load6 h 3 rfl rfl rfl rfl⟩) (ak (fun γ => ⟨rfl, fun w' h => ⟨12, #[PT γs4 0, N a, N b], exec_call rfl call12 rfl (mpn rfl), subm_any hS.ok (Nat.lt_trans ha hS.ok.big) (Nat.lt_trans hb hS.ok.big) w' (h.one 0 rfl)⟩⟩) (ak (fun _ => ⟨rfl, fun _ _ => rfl⟩) trivial))))
  intro _ w5 H5
  clear H4
  refine rest_at (l := [5, 6]) rfl ?_
  refine rest_store rfl rfl rfl (ex_store6 H5.out.1 4 rfl rfl rfl rfl (Nat.le_of_ble_eq_true rfl)) ?_
  have H6 : Hid (Mm (w5.setCells γ1_2 0 (cells6 (subm r a b))) [(γs4, modc r), (γs3, cel [a, b]), (γ1_0, cells6 a), (γ1_1, cells6 b), (γ1_2, cells6 (subm r a b))] ∧ Below w.heap.size w (w5.setCells γ1_2 0 (cells6 (subm r a b)))) := ⟨H5.out.1.put 4 (off := 0) (vs := cells6 (subm r a b)) rfl (Nat.le_of_ble_eq_true rfl), below_setCells _ o1_2.out _ _ _ H5.out.2⟩
  clear H5
  generalize hgw : World.setCells _ _ _ _ = w6 at H6 ⊢
  clear hgw
  refine rest_set (d := 7) rfl rfl rfl rfl ?_
  simp only [Act.put, sa, sz, ss]
  refine rest_nil (then_normal (wp_ret ?_))
  repeat (first | refine then_ret ?_ | refine block_ret ?_)
  have c0 := H6.out.1.get 4 rfl 0 rfl
  have c1 := H6.out.1.get 4 rfl 1 rfl
  have c2 := H6.out.1.get 4 rfl 2 rfl
  have c3 := H6.out.1.get 4 rfl 3 rfl
  have c4 := H6.out.1.get 4 rfl 4 rfl
  have c5 := H6.out.1.get 4 rfl 5 rfl
  refine bodyPost_ret (v := .tuple #[N (subm r a b), .int .i64 0]) (by simp [results, Tryd.results21, go_sem, *]) rfl ?_
  exact ⟨rfl, H6.out.2⟩
set_option maxHeartbeats 1000000 in
set_option maxRecDepth 100000 in
theorem sSub_no1 {s : Int} {r : Nat} (hS : Su s r) (a b : Nat) (hba : a < big) (ha : ¬ a < r) (w : World) :
    Calls Tryd.prog 21 #[.int .i64 s, N a, N b] w fun e w' => e = .returned (.tuple #[N 0, .int .i64 2]) ∧ Below w.heap.size w w' := by
  have H0 : Hid (_ ∧ _) := ⟨Mm.nil w, Below.refl w.heap.size w⟩
  go_enter Tryd.func21, Tryd.ntmps21
  refine wp_seq ?_
  refine walk_seqA 4 [.made (cells6 a) 24, .made (cells6 b) 24, .made zero6 24, .quiet (.int .i64 0)] (sB H0) ?ho1 ?he1
  case ho1 => exact ak (fun γ => ⟨rfl, fun w' => ex_box6 rfl rfl⟩) (ak (fun γ => ⟨rfl, fun w' => ex_box6 rfl rfl⟩) (ak (fun γ => ⟨rfl, fun w' => exec_made6 rfl⟩) (ak (fun _ => ⟨rfl, fun _ _ => rfl⟩) trivial)))
  intro γ w1 l hM hl
  have H1 : Hid (Mm w1 [(γ 0, cells6 a), (γ 1, cells6 b), (γ 2, zero6)] ∧ _) := growB H0 hM (Nat.le_refl _) hl [0, 1, 2] rfl (by decide)
  have o1_0 := ownB H0 hM (Nat.le_refl _) hl (i := 0) rfl
  have o1_1 := ownB H0 hM (Nat.le_refl _) hl (i := 1) rfl
  have o1_2 := ownB H0 hM (Nat.le_refl _) hl (i := 2) rfl
  clear hM hl l
  generalize γ 0 = γ1_0 at H1 o1_0 ⊢
  generalize γ 1 = γ1_1 at H1 o1_1 ⊢
  generalize γ 2 = γ1_2 at H1 o1_2 ⊢
  clear γ
  refine rest0 rfl (then_normal (wp_seq ?_))
  refine walk_seqB 3 [.quiet (.int .i64 s), .quiet (N a), .quiet (N b)] H1 ?ho2 ?he2
  case ho2 => exact ak (fun _ => ⟨rfl, fun _ _ => rfl⟩) (ak (fun γ => ⟨rfl, fun w' h => ex_load6 h 0 rfl rfl rfl rfl⟩) (ak (fun γ => ⟨rfl, fun w' h => ex_load6 h 1 rfl rfl rfl rfl⟩) trivial))
  intro _ w2 H2
  clear H1
  refine rest_at (l := [3, 4, 5, 6, 7, 8, 9]) rfl ?_
  refine rest_set (d := 14) (v := .slice (some ⟨w2.heap.size, 0, none⟩) 2 2) (w' := w2.alloc (.cells (cel [a, b] : List Value).toArray 24)) rfl rfl rfl (ex_bsN2 rfl rfl rfl) ?_
  simp only [Act.put, sa, sz, ss]
  have o_γs3 : Hid (w.heap.size ≤ w2.heap.size) := H2.out.2.size
  have H3 : Hid (Mm (w2.alloc (.cells (cel [a, b] : List Value).toArray 24)) ((w2.heap.size, cel [a, b]) :: [(γ1_0, cells6 a), (γ1_1, cells6 b), (γ1_2, zero6)]) ∧ Below w.heap.size w (w2.alloc (.cells (cel [a, b] : List Value).toArray 24))) := ⟨H2.out.1.alloc _ 24 rfl, H2.out.2.alloc H2.out.2.size _⟩
  clear H2
  generalize hgw : w2.alloc (.cells (cel [a, b] : List Value).toArray 24) = w3 at H3 ⊢
  clear hgw
  generalize w2.heap.size = γs3 at o_γs3 H3 ⊢
  refine rest_enter (d := 15) (R := fun vv w' => vv = .tuple #[.pointer none, .int .i64 2] ∧ Below w3.heap.size w3 w') rfl rfl rfl (exec_call (args := #[.int .i64 s, .slice (some ⟨γs3, 0, none⟩) 2 2]) rfl call51 rfl (mpn rfl)) (Calls.mono (ari2_no1 hS _ a b hba ha w3 (H3.out.1.one 0 rfl)) (fun e w2 hh => ⟨_, hh.1, rfl, hh.2⟩)) ?_
  rintro _ w4 ⟨rfl, hb⟩
  have H4 : Hid (_ ∧ _) := ⟨H3.out.1.below hb, H3.out.2.trans (hb.mono H3.out.2.size)⟩
  clear hb H3
  simp only [Act.put, sa, sz, ss]
  refine rest_set (d := 10) rfl rfl rfl rfl ?_
  simp only [Act.put, sa, sz, ss]
  refine rest_set (d := 16) (v := .pointer none) (w' := w4) rfl rfl rfl (by go_simp) ?_
  simp only [Act.put, sa, sz, ss]
  refine rest_set (d := 17) (v := .int .i64 2) (w' := w4) rfl rfl rfl (by go_simp) ?_
  simp only [Act.put, sa, sz, ss]
  refine rest_set (d := 8) rfl rfl rfl rfl ?_
  simp only [Act.put, sa, sz, ss]
  refine rest_set (d := 9) rfl rfl rfl rfl ?_
  simp only [Act.put, sa, sz, ss]
  refine rest_nil (then_normal (wp_seq ?_))
  refine walk_seqB 5 [.quiet (.pointer none), .quiet (N a), .quiet (N b), .call (N 0), .quiet (.int .i64 2)] H4 ?ho3 ?he3
  case ho3 => exact ak (fun _ => ⟨rfl, fun _ _ => rfl⟩) (ak (fun γ => ⟨rfl, fun w' h => ex_load6 h 1 rfl rfl rfl rfl⟩) (ak (fun γ => ⟨rfl, fun w' h => ex_load6 h 2 rfl rfl rfl rfl⟩) (ak (fun γ => ⟨rfl, fun w' h => ⟨12, #[.pointer none, N a, N b], exec_call rfl call12 rfl (mpn rfl), sub_nil a b w'⟩⟩) (ak (fun _ => ⟨rfl, fun _ _ => rfl⟩) trivial))))
  intro _ w5 H5
  clear H4
  refine rest_at (l := [5, 6]) rfl ?_
  refine rest_store rfl rfl rfl (ex_store6 H5.out.1 3 rfl rfl rfl rfl (Nat.le_of_ble_eq_true rfl)) ?_
  have H6 : Hid (Mm (w5.setCells γ1_2 0 (cells6 0)) [(γs3, cel [a, b]), (γ1_0, cells6 a), (γ1_1, cells6 b), (γ1_2, cells6 0)] ∧ Below w.heap.size w (w5.setCells γ1_2 0 (cells6 0))) := ⟨H5.out.1.put 3 (off := 0) (vs := cells6 0) rfl (Nat.le_of_ble_eq_true rfl), below_setCells _ o1_2.out _ _ _ H5.out.2⟩
  clear H5
  generalize hgw : World.setCells _ _ _ _ = w6 at H6 ⊢
  clear hgw
  refine rest_set (d := 7) rfl rfl rfl rfl ?_
  simp only [Act.put, sa, sz, ss]
  refine rest_nil (then_normal (wp_ret ?_))
  repeat (first | refine then_ret ?_ | refine block_ret ?_)
  have c0 := H6.out.1.get 3 rfl 0 rfl
  have c1 := H6.out.1.get 3 rfl 1 rfl
  have c2 := H6.out.1.get 3 rfl 2 rfl
  have c3 := H6.out.1.get 3 rfl 3 rfl
  have c4 := H6.out.1.get 3 rfl 4 rfl
  have c5 := H6.out.1.get 3 rfl 5 rfl
  refine bodyPost_ret (v := .tuple #[N 0, .int .i64 2]) (by simp [results, Tryd.results21, go_sem, *]) rfl ?_
  exact ⟨rfl, H6.out.2⟩
set_option maxHeartbeats 1000000 in
set_option maxRecDepth 100000 in
theorem sSub_no2 {s : Int} {r : Nat} (hS : Su s r) (a b : Nat) (ha : a < r) (hbb : b < big) (hb : ¬ b < r) (w : World) :
    Calls Tryd.prog 21 #[.int .i64 s, N a, N b] w fun e w' => e = .returned (.tuple #[N 0, .int .i64 2]) ∧ Below w.heap.size w w' := by
  have H0 : Hid (_ ∧ _) := ⟨Mm.nil w, Below.refl w.heap.size w⟩
  go_enter Tryd.func21, Tryd.ntmps21
  refine wp_seq ?_
  refine walk_seqA 4 [.made (cells6 a) 24, .made (cells6 b) 24, .made zero6 24, .quiet (.int .i64 0)] (sB H0) ?ho1 ?he1
  case ho1 => exact ak (fun γ => ⟨rfl, fun w' => ex_box6 rfl rfl⟩) (ak (fun γ => ⟨rfl, fun w' => ex_box6 rfl rfl⟩) (ak (fun γ => ⟨rfl, fun w' => exec_made6 rfl⟩) (ak (fun _ => ⟨rfl, fun _ _ => rfl⟩) trivial)))
  intro γ w1 l hM hl
  have H1 : Hid (Mm w1 [(γ 0, cells6 a), (γ 1, cells6 b), (γ 2, zero6)] ∧ _) := growB H0 hM (Nat.le_refl _) hl [0, 1, 2] rfl (by decide)
  have o1_0 := ownB H0 hM (Nat.le_refl _) hl (i := 0) rfl
  have o1_1 := ownB H0 hM (Nat.le_refl _) hl (i := 1) rfl
  have o1_2 := ownB H0 hM (Nat.le_refl _) hl (i := 2) rfl
  clear hM hl l
  generalize γ 0 = γ1_0 at H1 o1_0 ⊢
  generalize γ 1 = γ1_1 at H1 o1_1 ⊢
  generalize γ 2 = γ1_2 at H1 o1_2 ⊢
  clear γ
  refine rest0 rfl (then_normal (wp_seq ?_))
  refine walk_seqB 3 [.quiet (.int .i64 s), .quiet (N a), .quiet (N b)] H1 ?ho2 ?he2
  case ho2 => exact ak (fun _ => ⟨rfl, fun _ _ => rfl⟩) (ak (fun γ => ⟨rfl, fun w' h => ex_load6 h 0 rfl rfl rfl rfl⟩) (ak (fun γ => ⟨rfl, fun w' h => ex_load6 h 1 rfl rfl rfl rfl⟩) trivial))
  intro _ w2 H2
  clear H1
  refine rest_at (l := [3, 4, 5, 6, 7, 8, 9]) rfl ?_
  refine rest_set (d := 14) (v := .slice (some ⟨w2.heap.size, 0, none⟩) 2 2) (w' := w2.alloc (.cells (cel [a, b] : List Value).toArray 24)) rfl rfl rfl (ex_bsN2 rfl rfl rfl) ?_
  simp only [Act.put, sa, sz, ss]
  have o_γs3 : Hid (w.heap.size ≤ w2.heap.size) := H2.out.2.size
  have H3 : Hid (Mm (w2.alloc (.cells (cel [a, b] : List Value).toArray 24)) ((w2.heap.size, cel [a, b]) :: [(γ1_0, cells6 a), (γ1_1, cells6 b), (γ1_2, zero6)]) ∧ Below w.heap.size w (w2.alloc (.cells (cel [a, b] : List Value).toArray 24))) := ⟨H2.out.1.alloc _ 24 rfl, H2.out.2.alloc H2.out.2.size _⟩
  clear H2
  generalize hgw : w2.alloc (.cells (cel [a, b] : List Value).toArray 24) = w3 at H3 ⊢
  clear hgw
  generalize w2.heap.size = γs3 at o_γs3 H3 ⊢
  refine rest_enter (d := 15) (R := fun vv w' => vv = .tuple #[.pointer none, .int .i64 2] ∧ Below w3.heap.size w3 w') rfl rfl rfl (exec_call (args := #[.int .i64 s, .slice (some ⟨γs3, 0, none⟩) 2 2]) rfl call51 rfl (mpn rfl)) (Calls.mono (ari2_no2 hS _ a b ha hbb hb w3 (H3.out.1.one 0 rfl)) (fun e w2 hh => ⟨_, hh.1, rfl, hh.2⟩)) ?_
  rintro _ w4 ⟨rfl, hb⟩
  have H4 : Hid (_ ∧ _) := ⟨H3.out.1.below hb, H3.out.2.trans (hb.mono H3.out.2.size)⟩
  clear hb H3
  simp only [Act.put, sa, sz, ss]
  refine rest_set (d := 10) rfl rfl rfl rfl ?_
  simp only [Act.put, sa, sz, ss]
  refine rest_set (d := 16) (v := .pointer none) (w' := w4) rfl rfl rfl (by go_simp) ?_
  simp only [Act.put, sa, sz, ss]
  refine rest_set (d := 17) (v := .int .i64 2) (w' := w4) rfl rfl rfl (by go_simp) ?_
  simp only [Act.put, sa, sz, ss]
  refine rest_set (d := 8) rfl rfl rfl rfl ?_
  simp only [Act.put, sa, sz, ss]
  refine rest_set (d := 9) rfl rfl rfl rfl ?_
  simp only [Act.put, sa, sz, ss]
  refine rest_nil (then_normal (wp_seq ?_))
  refine walk_seqB 5 [.quiet (.pointer none), .quiet (N a), .quiet (N b), .call (N 0), .quiet (.int .i64 2)] H4 ?ho3 ?he3
  case ho3 => exact ak (fun _ => ⟨rfl, fun _ _ => rfl⟩) (ak (fun γ => ⟨rfl, fun w' h => ex_load6 h 1 rfl rfl rfl rfl⟩) (ak (fun γ => ⟨rfl, fun w' h => ex_load6 h 2 rfl rfl rfl rfl⟩) (ak (fun γ => ⟨rfl, fun w' h => ⟨12, #[.pointer none, N a, N b], exec_call rfl call12 rfl (mpn rfl), sub_nil a b w'⟩⟩) (ak (fun _ => ⟨rfl, fun _ _ => rfl⟩) trivial))))
  intro _ w5 H5
  clear H4
  refine rest_at (l := [5, 6]) rfl ?_
  refine rest_store rfl rfl rfl (ex_store6 H5.out.1 3 rfl rfl rfl rfl (Nat.le_of_ble_eq_true rfl)) ?_
  have H6 : Hid (Mm (w5.setCells γ1_2 0 (cells6 0)) [(γs3, cel [a, b]), (γ1_0, cells6 a), (γ1_1, cells6 b), (γ1_2, cells6 0)] ∧ Below w.heap.size w (w5.setCells γ1_2 0 (cells6 0))) := ⟨H5.out.1.put 3 (off := 0) (vs := cells6 0) rfl (Nat.le_of_ble_eq_true rfl), below_setCells _ o1_2.out _ _ _ H5.out.2⟩
  clear H5
  generalize hgw : World.setCells _ _ _ _ = w6 at H6 ⊢
  clear hgw
  refine rest_set (d := 7) rfl rfl rfl rfl ?_
  simp only [Act.put, sa, sz, ss]
  refine rest_nil (then_normal (wp_ret ?_))
  repeat (first | refine then_ret ?_ | refine block_ret ?_)
  have c0 := H6.out.1.get 3 rfl 0 rfl
  have c1 := H6.out.1.get 3 rfl 1 rfl
  have c2 := H6.out.1.get 3 rfl 2 rfl
  have c3 := H6.out.1.get 3 rfl 3 rfl
  have c4 := H6.out.1.get 3 rfl 4 rfl
  have c5 := H6.out.1.get 3 rfl 5 rfl
  refine bodyPost_ret (v := .tuple #[N 0, .int .i64 2]) (by simp [results, Tryd.results21, go_sem, *]) rfl ?_
  exact ⟨rfl, H6.out.2⟩
set_option maxHeartbeats 1000000 in
set_option maxRecDepth 100000 in
theorem sSub_none {s : Int} (hS : Sn s) (a b : Nat) (w : World) :
    Calls Tryd.prog 21 #[.int .i64 s, N a, N b] w fun e w' => e = .returned (.tuple #[N 0, .int .i64 2]) ∧ Below w.heap.size w w' := by
  have H0 : Hid (_ ∧ _) := ⟨Mm.nil w, Below.refl w.heap.size w⟩
  go_enter Tryd.func21, Tryd.ntmps21
  refine wp_seq ?_
  refine walk_seqA 4 [.made (cells6 a) 24, .made (cells6 b) 24, .made zero6 24, .quiet (.int .i64 0)] (sB H0) ?ho1 ?he1
  case ho1 => exact ak (fun γ => ⟨rfl, fun w' => ex_box6 rfl rfl⟩) (ak (fun γ => ⟨rfl, fun w' => ex_box6 rfl rfl⟩) (ak (fun γ => ⟨rfl, fun w' => exec_made6 rfl⟩) (ak (fun _ => ⟨rfl, fun _ _ => rfl⟩) trivial)))
  intro γ w1 l hM hl
  have H1 : Hid (Mm w1 [(γ 0, cells6 a), (γ 1, cells6 b), (γ 2, zero6)] ∧ _) := growB H0 hM (Nat.le_refl _) hl [0, 1, 2] rfl (by decide)
  have o1_0 := ownB H0 hM (Nat.le_refl _) hl (i := 0) rfl
  have o1_1 := ownB H0 hM (Nat.le_refl _) hl (i := 1) rfl
  have o1_2 := ownB H0 hM (Nat.le_refl _) hl (i := 2) rfl
  clear hM hl l
  generalize γ 0 = γ1_0 at H1 o1_0 ⊢
  generalize γ 1 = γ1_1 at H1 o1_1 ⊢
  generalize γ 2 = γ1_2 at H1 o1_2 ⊢
  clear γ
  refine rest0 rfl (then_normal (wp_seq ?_))
  refine walk_seqB 3 [.quiet (.int .i64 s), .quiet (N a), .quiet (N b)] H1 ?ho2 ?he2
  case ho2 => exact ak (fun _ => ⟨rfl, fun _ _ => rfl⟩) (ak (fun γ => ⟨rfl, fun w' h => ex_load6 h 0 rfl rfl rfl rfl⟩) (ak (fun γ => ⟨rfl, fun w' h => ex_load6 h 1 rfl rfl rfl rfl⟩) trivial))
  intro _ w2 H2
  clear H1
  refine rest_at (l := [3, 4, 5, 6, 7, 8, 9]) rfl ?_
  refine rest_set (d := 14) (v := .slice (some ⟨w2.heap.size, 0, none⟩) 2 2) (w' := w2.alloc (.cells (cel [a, b] : List Value).toArray 24)) rfl rfl rfl (ex_bsN2 rfl rfl rfl) ?_
  simp only [Act.put, sa, sz, ss]
  have o_γs3 : Hid (w.heap.size ≤ w2.heap.size) := H2.out.2.size
  have H3 : Hid (Mm (w2.alloc (.cells (cel [a, b] : List Value).toArray 24)) ((w2.heap.size, cel [a, b]) :: [(γ1_0, cells6 a), (γ1_1, cells6 b), (γ1_2, zero6)]) ∧ Below w.heap.size w (w2.alloc (.cells (cel [a, b] : List Value).toArray 24))) := ⟨H2.out.1.alloc _ 24 rfl, H2.out.2.alloc H2.out.2.size _⟩
  clear H2
  generalize hgw : w2.alloc (.cells (cel [a, b] : List Value).toArray 24) = w3 at H3 ⊢
  clear hgw
  generalize w2.heap.size = γs3 at o_γs3 H3 ⊢
  refine rest_enter (d := 15) (R := fun vv w' => vv = .tuple #[.pointer none, .int .i64 2] ∧ Below w3.heap.size w3 w') rfl rfl rfl (exec_call (args := #[.int .i64 s, .slice (some ⟨γs3, 0, none⟩) 2 2]) rfl call51 rfl (mpn rfl)) (Calls.mono (ari_none hS _ w3) (fun e w2 hh => ⟨_, hh.1, rfl, hh.2⟩)) ?_
  rintro _ w4 ⟨rfl, hb⟩
  have H4 : Hid (_ ∧ _) := ⟨H3.out.1.below hb, H3.out.2.trans (hb.mono H3.out.2.size)⟩
  clear hb H3
  simp only [Act.put, sa, sz, ss]
  refine rest_set (d := 10) rfl rfl rfl rfl ?_
  simp only [Act.put, sa, sz, ss]
  refine rest_set (d := 16) (v := .pointer none) (w' := w4) rfl rfl rfl (by go_simp) ?_
  simp only [Act.put, sa, sz, ss]
  refine rest_set (d := 17) (v := .int .i64 2) (w' := w4) rfl rfl rfl (by go_simp) ?_
  simp only [Act.put, sa, sz, ss]
  refine rest_set (d := 8) rfl rfl rfl rfl ?_
  simp only [Act.put, sa, sz, ss]
  refine rest_set (d := 9) rfl rfl rfl rfl ?_
  simp only [Act.put, sa, sz, ss]
  refine rest_nil (then_normal (wp_seq ?_))
  refine walk_seqB 5 [.quiet (.pointer none), .quiet (N a), .quiet (N b), .call (N 0), .quiet (.int .i64 2)] H4 ?ho3 ?he3
  case ho3 => exact ak (fun _ => ⟨rfl, fun _ _ => rfl⟩) (ak (fun γ => ⟨rfl, fun w' h => ex_load6 h 1 rfl rfl rfl rfl⟩) (ak (fun γ => ⟨rfl, fun w' h => ex_load6 h 2 rfl rfl rfl rfl⟩) (ak (fun γ => ⟨rfl, fun w' h => ⟨12, #[.pointer none, N a, N b], exec_call rfl call12 rfl (mpn rfl), sub_nil a b w'⟩⟩) (ak (fun _ => ⟨rfl, fun _ _ => rfl⟩) trivial))))
  intro _ w5 H5
  clear H4
  refine rest_at (l := [5, 6]) rfl ?_
  refine rest_store rfl rfl rfl (ex_store6 H5.out.1 3 rfl rfl rfl rfl (Nat.le_of_ble_eq_true rfl)) ?_
  have H6 : Hid (Mm (w5.setCells γ1_2 0 (cells6 0)) [(γs3, cel [a, b]), (γ1_0, cells6 a), (γ1_1, cells6 b), (γ1_2, cells6 0)] ∧ Below w.heap.size w (w5.setCells γ1_2 0 (cells6 0))) := ⟨H5.out.1.put 3 (off := 0) (vs := cells6 0) rfl (Nat.le_of_ble_eq_true rfl), below_setCells _ o1_2.out _ _ _ H5.out.2⟩
  clear H5
  generalize hgw : World.setCells _ _ _ _ = w6 at H6 ⊢
  clear hgw
  refine rest_set (d := 7) rfl rfl rfl rfl ?_
  simp only [Act.put, sa, sz, ss]
  refine rest_nil (then_normal (wp_ret ?_))
  repeat (first | refine then_ret ?_ | refine block_ret ?_)
  have c0 := H6.out.1.get 3 rfl 0 rfl
  have c1 := H6.out.1.get 3 rfl 1 rfl
  have c2 := H6.out.1.get 3 rfl 2 rfl
  have c3 := H6.out.1.get 3 rfl 3 rfl
  have c4 := H6.out.1.get 3 rfl 4 rfl
  have c5 := H6.out.1.get 3 rfl 5 rfl
  refine bodyPost_ret (v := .tuple #[N 0, .int .i64 2]) (by simp [results, Tryd.results21, go_sem, *]) rfl ?_
  exact ⟨rfl, H6.out.2⟩
set_option maxHeartbeats 1000000 in
set_option maxRecDepth 100000 in
theorem sMul_ok {s : Int} {r : Nat} (hS : Su s r) (a b : Nat) (ha : a < r) (hb : b < r) (w : World) :
    Calls Tryd.prog 19 #[.int .i64 s, N a, N b] w fun e w' => e = .returned (.tuple #[N (a * b % r), .int .i64 0]) ∧ Below w.heap.size w w' := by
  have H0 : Hid (_ ∧ _) := ⟨Mm.nil w, Below.refl w.heap.size w⟩
  go_enter Tryd.func19, Tryd.ntmps19
  refine wp_seq ?_
  refine walk_seqA 4 [.made (cells6 a) 24, .made (cells6 b) 24, .made zero6 24, .quiet (.int .i64 0)] (sB H0) ?ho1 ?he1
  case ho1 => exact ak (fun γ => ⟨rfl, fun w' => ex_box6 rfl rfl⟩) (ak (fun γ => ⟨rfl, fun w' => ex_box6 rfl rfl⟩) (ak (fun γ => ⟨rfl, fun w' => exec_made6 rfl⟩) (ak (fun _ => ⟨rfl, fun _ _ => rfl⟩) trivial)))
  intro γ w1 l hM hl
  have H1 : Hid (Mm w1 [(γ 0, cells6 a), (γ 1, cells6 b), (γ 2, zero6)] ∧ _) := growB H0 hM (Nat.le_refl _) hl [0, 1, 2] rfl (by decide)
  have o1_0 := ownB H0 hM (Nat.le_refl _) hl (i := 0) rfl
  have o1_1 := ownB H0 hM (Nat.le_refl _) hl (i := 1) rfl
  have o1_2 := ownB H0 hM (Nat.le_refl _) hl (i := 2) rfl
  clear hM hl l
  generalize γ 0 = γ1_0 at H1 o1_0 ⊢
  generalize γ 1 = γ1_1 at H1 o1_1 ⊢
  generalize γ 2 = γ1_2 at H1 o1_2 ⊢
  clear γ
  refine rest0 rfl (then_normal (wp_seq ?_))
  refine walk_seqB 3 [.quiet (.int .i64 s), .quiet (N a), .quiet (N b)] H1 ?ho2 ?he2
  case ho2 => exact ak (fun _ => ⟨rfl, fun _ _ => rfl⟩) (ak (fun γ => ⟨rfl, fun w' h => ex_load6 h 0 rfl rfl rfl rfl⟩) (ak (fun γ => ⟨rfl, fun w' h => ex_load6 h 1 rfl rfl rfl rfl⟩) trivial))
  intro _ w2 H2
  clear H1
  refine rest_at (l := [3, 4, 5, 6, 7, 8, 9]) rfl ?_
  refine rest_set (d := 14) (v := .slice (some ⟨w2.heap.size, 0, none⟩) 2 2) (w' := w2.alloc (.cells (cel [a, b] : List Value).toArray 24)) rfl rfl rfl (ex_bsN2 rfl rfl rfl) ?_
  simp only [Act.put, sa, sz, ss]
  have o_γs3 : Hid (w.heap.size ≤ w2.heap.size) := H2.out.2.size
  have H3 : Hid (Mm (w2.alloc (.cells (cel [a, b] : List Value).toArray 24)) ((w2.heap.size, cel [a, b]) :: [(γ1_0, cells6 a), (γ1_1, cells6 b), (γ1_2, zero6)]) ∧ Below w.heap.size w (w2.alloc (.cells (cel [a, b] : List Value).toArray 24))) := ⟨H2.out.1.alloc _ 24 rfl, H2.out.2.alloc H2.out.2.size _⟩
  clear H2
  generalize hgw : w2.alloc (.cells (cel [a, b] : List Value).toArray 24) = w3 at H3 ⊢
  clear hgw
  generalize w2.heap.size = γs3 at o_γs3 H3 ⊢
  refine rest_enter (d := 15) (R := fun vv w' => Below w3.heap.size w3 w' ∧ ∃ g, vv = .tuple #[PT g 0, .int .i64 0] ∧ w3.heap.size ≤ g ∧ g < w'.heap.size ∧ Blk w' g (modc r)) rfl rfl rfl (exec_call (args := #[.int .i64 s, .slice (some ⟨γs3, 0, none⟩) 2 2]) rfl call51 rfl (mpn rfl)) (Calls.mono (ari2_ok hS _ a b ha hb w3 (H3.out.1.one 0 rfl)) (fun e w2 hh => by obtain ⟨hb, g, he, h1, h2, h3⟩ := hh; exact ⟨_, he, hb, g, rfl, h1, h2, h3⟩)) ?_
  rintro _ w4 ⟨hb, γs4, rfl, hg1, hg2, hg3⟩
  have o_γs4 : Hid (w.heap.size ≤ γs4) := Nat.le_trans H3.out.2.size hg1
  have H4 : Hid (Mm w4 [(γs4, modc r), (γs3, cel [a, b]), (γ1_0, cells6 a), (γ1_1, cells6 b), (γ1_2, zero6)] ∧ Below w.heap.size w w4) := ⟨Mm.cons (H3.out.1.below hb) hg3 hg2 (fun p hp => Nat.ne_of_lt (Nat.lt_of_lt_of_le (H3.out.1.blk p hp).1 hg1)), H3.out.2.trans (hb.mono H3.out.2.size)⟩
  clear hb hg1 hg2 hg3 H3
  simp only [Act.put, sa, sz, ss]
  refine rest_set (d := 10) rfl rfl rfl rfl ?_
  simp only [Act.put, sa, sz, ss]
  refine rest_set (d := 16) (v := PT γs4 0) (w' := w4) rfl rfl rfl (by go_simp) ?_
  simp only [Act.put, sa, sz, ss]
  refine rest_set (d := 17) (v := .int .i64 0) (w' := w4) rfl rfl rfl (by go_simp) ?_
  simp only [Act.put, sa, sz, ss]
  refine rest_set (d := 8) rfl rfl rfl rfl ?_
  simp only [Act.put, sa, sz, ss]
  refine rest_set (d := 9) rfl rfl rfl rfl ?_
  simp only [Act.put, sa, sz, ss]
  refine rest_nil (then_normal (wp_seq ?_))
  refine walk_seqB 5 [.quiet (PT γs4 0), .quiet (N a), .quiet (N b), .call (N (a * b % r)), .quiet (.int .i64 0)] H4 ?ho3 ?he3
  case ho3 => exact ak (fun _ => ⟨rfl, fun _ _ => rfl⟩) (ak (fun γ => ⟨rfl, fun w' h => ex_load6 h 2 rfl rfl rfl rfl⟩) (ak (fun γ => ⟨rfl, fun w' h => ex_load6 h 3 rfl rfl rfl rfl⟩) (ak (fun γ => ⟨rfl, fun w' h => ⟨14, #[PT γs4 0, N a, N b], exec_call rfl call14 rfl (mpn rfl), mulm_any hS.ok (Nat.lt_trans ha hS.ok.big) (Nat.lt_trans hb hS.ok.big) w' (h.one 0 rfl)⟩⟩) (ak (fun _ => ⟨rfl, fun _ _ => rfl⟩) trivial))))
  intro _ w5 H5
  clear H4
  refine rest_at (l := [5, 6]) rfl ?_
  refine rest_store rfl rfl rfl (ex_store6 H5.out.1 4 rfl rfl rfl rfl (Nat.le_of_ble_eq_true rfl)) ?_
  have H6 : Hid (Mm (w5.setCells γ1_2 0 (cells6 (a * b % r))) [(γs4, modc r), (γs3, cel [a, b]), (γ1_0, cells6 a), (γ1_1, cells6 b), (γ1_2, cells6 (a * b % r))] ∧ Below w.heap.size w (w5.setCells γ1_2 0 (cells6 (a * b % r)))) := ⟨H5.out.1.put 4 (off := 0) (vs := cells6 (a * b % r)) rfl (Nat.le_of_ble_eq_true rfl), below_setCells _ o1_2.out _ _ _ H5.out.2⟩
  clear H5
  generalize hgw : World.setCells _ _ _ _ = w6 at H6 ⊢
  clear hgw
  refine rest_set (d := 7) rfl rfl rfl rfl ?_
  simp only [Act.put, sa, sz, ss]
  refine rest_nil (then_normal (wp_ret ?_))
  repeat (first | refine then_ret ?_ | refine block_ret ?_)
  have c0 := H6.out.1.get 4 rfl 0 rfl
  have c1 := H6.out.1.get 4 rfl 1 rfl
  have c2 := H6.out.1.get 4 rfl 2 rfl
  have c3 := H6.out.1.get 4 rfl 3 rfl
  have c4 := H6.out.1.get 4 rfl 4 rfl
  have c5 := H6.out.1.get 4 rfl 5 rfl
  refine bodyPost_ret (v := .tuple #[N (a * b % r), .int .i64 0]) (by simp [results, Tryd.results19, go_sem, *]) rfl ?_
  exact ⟨rfl, H6.out.2⟩
set_option maxHeartbeats 1000000 in
set_option maxRecDepth 100000 in
theorem sMul_no1 {s : Int} {r : Nat} (hS : Su s r) (a b : Nat) (hba : a < big) (ha : ¬ a < r) (w : World) :
    Calls Tryd.prog 19 #[.int .i64 s, N a, N b] w fun e w' => e = .returned (.tuple #[N 0, .int .i64 2]) ∧ Below w.heap.size w w' := by
  have H0 : Hid (_ ∧ _) := ⟨Mm.nil w, Below.refl w.heap.size w⟩
  go_enter Tryd.func19, Tryd.ntmps19
  refine wp_seq ?_
  refine walk_seqA 4 [.made (cells6 a) 24, .made (cells6 b) 24, .made zero6 24, .quiet (.int .i64 0)] (sB H0) ?ho1 ?he1
  case ho1 => exact ak (fun γ => ⟨rfl, fun w' => ex_box6 rfl rfl⟩) (ak (fun γ => ⟨rfl, fun w' => ex_box6 rfl rfl⟩) (ak (fun γ => ⟨rfl, fun w' => exec_made6 rfl⟩) (ak (fun _ => ⟨rfl, fun _ _ => rfl⟩) trivial)))
  intro γ w1 l hM hl
  have H1 : Hid (Mm w1 [(γ 0, cells6 a), (γ 1, cells6 b), (γ 2, zero6)] ∧ _) := growB H0 hM (Nat.le_refl _) hl [0, 1, 2] rfl (by decide)
  have o1_0 := ownB H0 hM (Nat.le_refl _) hl (i := 0) rfl
  have o1_1 := ownB H0 hM (Nat.le_refl _) hl (i := 1) rfl
  have o1_2 := ownB H0 hM (Nat.le_refl _) hl (i := 2) rfl
  clear hM hl l
  generalize γ 0 = γ1_0 at H1 o1_0 ⊢
  generalize γ 1 = γ1_1 at H1 o1_1 ⊢
  generalize γ 2 = γ1_2 at H1 o1_2 ⊢
  clear γ
  refine rest0 rfl (then_normal (wp_seq ?_))
  refine walk_seqB 3 [.quiet (.int .i64 s), .quiet (N a), .quiet (N b)] H1 ?ho2 ?he2
  case ho2 => exact ak (fun _ => ⟨rfl, fun _ _ => rfl⟩) (ak (fun γ => ⟨rfl, fun w' h => ex_load6 h 0 rfl rfl rfl rfl⟩) (ak (fun γ => ⟨rfl, fun w' h => ex_load6 h 1 rfl rfl rfl rfl⟩) trivial))
  intro _ w2 H2
  clear H1
  refine rest_at (l := [3, 4, 5, 6, 7, 8, 9]) rfl ?_
  refine rest_set (d := 14) (v := .slice (some ⟨w2.heap.size, 0, none⟩) 2 2) (w' := w2.alloc (.cells (cel [a, b] : List Value).toArray 24)) rfl rfl rfl (ex_bsN2 rfl rfl rfl) ?_
  simp only [Act.put, sa, sz, ss]
  have o_γs3 : Hid (w.heap.size ≤ w2.heap.size) := H2.out.2.size
  have H3 : Hid (Mm (w2.alloc (.cells (cel [a, b] : List Value).toArray 24)) ((w2.heap.size, cel [a, b]) :: [(γ1_0, cells6 a), (γ1_1, cells6 b), (γ1_2, zero6)]) ∧ Below w.heap.size w (w2.alloc (.cells (cel [a, b] : List Value).toArray 24))) := ⟨H2.out.1.alloc _ 24 rfl, H2.out.2.alloc H2.out.2.size _⟩
  clear H2
  generalize hgw : w2.alloc (.cells (cel [a, b] : List Value).toArray 24) = w3 at H3 ⊢
  clear hgw
  generalize w2.heap.size = γs3 at o_γs3 H3 ⊢
  refine rest_enter (d := 15) (R := fun vv w' => vv = .tuple #[.pointer none, .int .i64 2] ∧ Below w3.heap.size w3 w') rfl rfl rfl (exec_call (args := #[.int .i64 s, .slice (some ⟨γs3, 0, none⟩) 2 2]) rfl call51 rfl (mpn rfl)) (Calls.mono (ari2_no1 hS _ a b hba ha w3 (H3.out.1.one 0 rfl)) (fun e w2 hh => ⟨_, hh.1, rfl, hh.2⟩)) ?_
  rintro _ w4 ⟨rfl, hb⟩
  have H4 : Hid (_ ∧ _) := ⟨H3.out.1.below hb, H3.out.2.trans (hb.mono H3.out.2.size)⟩
  clear hb H3
  simp only [Act.put, sa, sz, ss]
  refine rest_set (d := 10) rfl rfl rfl rfl ?_
  simp only [Act.put, sa, sz, ss]
  refine rest_set (d := 16) (v := .pointer none) (w' := w4) rfl rfl rfl (by go_simp) ?_
  simp only [Act.put, sa, sz, ss]
  refine rest_set (d := 17) (v := .int .i64 2) (w' := w4) rfl rfl rfl (by go_simp) ?_
  simp only [Act.put, sa, sz, ss]
  refine rest_set (d := 8) rfl rfl rfl rfl ?_
  simp only [Act.put, sa, sz, ss]
  refine rest_set (d := 9) rfl rfl rfl rfl ?_
  simp only [Act.put, sa, sz, ss]
  refine rest_nil (then_normal (wp_seq ?_))
  refine walk_seqB 5 [.quiet (.pointer none), .quiet (N a), .quiet (N b), .call (N 0), .quiet (.int .i64 2)] H4 ?ho3 ?he3
  case ho3 => exact ak (fun _ => ⟨rfl, fun _ _ => rfl⟩) (ak (fun γ => ⟨rfl, fun w' h => ex_load6 h 1 rfl rfl rfl rfl⟩) (ak (fun γ => ⟨rfl, fun w' h => ex_load6 h 2 rfl rfl rfl rfl⟩) (ak (fun γ => ⟨rfl, fun w' h => ⟨14, #[.pointer none, N a, N b], exec_call rfl call14 rfl (mpn rfl), mul_nil a b w'⟩⟩) (ak (fun _ => ⟨rfl, fun _ _ => rfl⟩) trivial))))
  intro _ w5 H5
  clear H4
  refine rest_at (l := [5, 6]) rfl ?_
  refine rest_store rfl rfl rfl (ex_store6 H5.out.1 3 rfl rfl rfl rfl (Nat.le_of_ble_eq_true rfl)) ?_
  have H6 : Hid (Mm (w5.setCells γ1_2 0 (cells6 0)) [(γs3, cel [a, b]), (γ1_0, cells6 a), (γ1_1, cells6 b), (γ1_2, cells6 0)] ∧ Below w.heap.size w (w5.setCells γ1_2 0 (cells6 0))) := ⟨H5.out.1.put 3 (off := 0) (vs := cells6 0) rfl (Nat.le_of_ble_eq_true rfl), below_setCells _ o1_2.out _ _ _ H5.out.2⟩
  clear H5
  generalize hgw : World.setCells _ _ _ _ = w6 at H6 ⊢
  clear hgw
  refine rest_set (d := 7) rfl rfl rfl rfl ?_
  simp only [Act.put, sa, sz, ss]
  refine rest_nil (then_normal (wp_ret ?_))
  repeat (first | refine then_ret ?_ | refine block_ret ?_)
  have c0 := H6.out.1.get 3 rfl 0 rfl
  have c1 := H6.out.1.get 3 rfl 1 rfl
  have c2 := H6.out.1.get 3 rfl 2 rfl
  have c3 := H6.out.1.get 3 rfl 3 rfl
  have c4 := H6.out.1.get 3 rfl 4 rfl
  have c5 := H6.out.1.get 3 rfl 5 rfl
  refine bodyPost_ret (v := .tuple #[N 0, .int .i64 2]) (by simp [results, Tryd.results19, go_sem, *]) rfl ?_
  exact ⟨rfl, H6.out.2⟩
set_option maxHeartbeats 1000000 in
set_option maxRecDepth 100000 in
theorem sMul_no2 {s : Int} {r : Nat} (hS : Su s r) (a b : Nat) (ha : a < r) (hbb : b < big) (hb : ¬ b < r) (w : World) :
    Calls Tryd.prog 19 #[.int .i64 s, N a, N b] w fun e w' => e = .returned (.tuple #[N 0, .int .i64 2]) ∧ Below w.heap.size w w' := by
  have H0 : Hid (_ ∧ _) := ⟨Mm.nil w, Below.refl w.heap.size w⟩
  go_enter Tryd.func19, Tryd.ntmps19
  refine wp_seq ?_
  refine walk_seqA 4 [.made (cells6 a) 24, .made (cells6 b) 24, .made zero6 24, .quiet (.int .i64 0)] (sB H0) ?ho1 ?he1
  case ho1 => exact ak (fun γ => ⟨rfl, fun w' => ex_box6 rfl rfl⟩) (ak (fun γ => ⟨rfl, fun w' => ex_box6 rfl rfl⟩) (ak (fun γ => ⟨rfl, fun w' => exec_made6 rfl⟩) (ak (fun _ => ⟨rfl, fun _ _ => rfl⟩) trivial)))
  intro γ w1 l hM hl
  have H1 : Hid (Mm w1 [(γ 0, cells6 a), (γ 1, cells6 b), (γ 2, zero6)] ∧ _) := growB H0 hM (Nat.le_refl _) hl [0, 1, 2] rfl (by decide)
  have o1_0 := ownB H0 hM (Nat.le_refl _) hl (i := 0) rfl
  have o1_1 := ownB H0 hM (Nat.le_refl _) hl (i := 1) rfl
  have o1_2 := ownB H0 hM (Nat.le_refl _) hl (i := 2) rfl
  clear hM hl l
  generalize γ 0 = γ1_0 at H1 o1_0 ⊢
  generalize γ 1 = γ1_1 at H1 o1_1 ⊢
  generalize γ 2 = γ1_2 at H1 o1_2 ⊢
  clear γ
  refine rest0 rfl (then_normal (wp_seq ?_))
  refine walk_seqB 3 [.quiet (.int .i64 s), .quiet (N a), .quiet (N b)] H1 ?ho2 ?he2
  case ho2 => exact ak (fun _ => ⟨rfl, fun _ _ => rfl⟩) (ak (fun γ => ⟨rfl, fun w' h => ex_load6 h 0 rfl rfl rfl rfl⟩) (ak (fun γ => ⟨rfl, fun w' h => ex_load6 h 1 rfl rfl rfl rfl⟩) trivial))
  intro _ w2 H2
  clear H1
  refine rest_at (l := [3, 4, 5, 6, 7, 8, 9]) rfl ?_
  refine rest_set (d := 14) (v := .slice (some ⟨w2.heap.size, 0, none⟩) 2 2) (w' := w2.alloc (.cells (cel [a, b] : List Value).toArray 24)) rfl rfl rfl (ex_bsN2 rfl rfl rfl) ?_
  simp only [Act.put, sa, sz, ss]
  have o_γs3 : Hid (w.heap.size ≤ w2.heap.size) := H2.out.2.size
  have H3 : Hid (Mm (w2.alloc (.cells (cel [a, b] : List Value).toArray 24)) ((w2.heap.size, cel [a, b]) :: [(γ1_0, cells6 a), (γ1_1, cells6 b), (γ1_2, zero6)]) ∧ Below w.heap.size w (w2.alloc (.cells (cel [a, b] : List Value).toArray 24))) := ⟨H2.out.1.alloc _ 24 rfl, H2.out.2.alloc H2.out.2.size _⟩
  clear H2
  generalize hgw : w2.alloc (.cells (cel [a, b] : List Value).toArray 24) = w3 at H3 ⊢
  clear hgw
  generalize w2.heap.size = γs3 at o_γs3 H3 ⊢
  refine rest_enter (d := 15) (R := fun vv w' => vv = .tuple #[.pointer none, .int .i64 2] ∧ Below w3.heap.size w3 w') rfl rfl rfl (exec_call (args := #[.int .i64 s, .slice (some ⟨γs3, 0, none⟩) 2 2]) rfl call51 rfl (mpn rfl)) (Calls.mono (ari2_no2 hS _ a b ha hbb hb w3 (H3.out.1.one 0 rfl)) (fun e w2 hh => ⟨_, hh.1, rfl, hh.2⟩)) ?_
  rintro _ w4 ⟨rfl, hb⟩
  have H4 : Hid (_ ∧ _) := ⟨H3.out.1.below hb, H3.out.2.trans (hb.mono H3.out.2.size)⟩
  clear hb H3
  simp only [Act.put, sa, sz, ss]
  refine rest_set (d := 10) rfl rfl rfl rfl ?_
  simp only [Act.put, sa, sz, ss]
  refine rest_set (d := 16) (v := .pointer none) (w' := w4) rfl rfl rfl (by go_simp) ?_
  simp only [Act.put, sa, sz, ss]
  refine rest_set (d := 17) (v := .int .i64 2) (w' := w4) rfl rfl rfl (by go_simp) ?_
  simp only [Act.put, sa, sz, ss]
  refine rest_set (d := 8) rfl rfl rfl rfl ?_
  simp only [Act.put, sa, sz, ss]
  refine rest_set (d := 9) rfl rfl rfl rfl ?_
  simp only [Act.put, sa, sz, ss]
  refine rest_nil (then_normal (wp_seq ?_))
  refine walk_seqB 5 [.quiet (.pointer none), .quiet (N a), .quiet (N b), .call (N 0), .quiet (.int .i64 2)] H4 ?ho3 ?he3
  case ho3 => exact ak (fun _ => ⟨rfl, fun _ _ => rfl⟩) (ak (fun γ => ⟨rfl, fun w' h => ex_load6 h 1 rfl rfl rfl rfl⟩) (ak (fun γ => ⟨rfl, fun w' h => ex_load6 h 2 rfl rfl rfl rfl⟩) (ak (fun γ => ⟨rfl, fun w' h => ⟨14, #[.pointer none, N a, N b], exec_call rfl call14 rfl (mpn rfl), mul_nil a b w'⟩⟩) (ak (fun _ => ⟨rfl, fun _ _ => rfl⟩) trivial))))
  intro _ w5 H5
  clear H4
  refine rest_at (l := [5, 6]) rfl ?_
  refine rest_store rfl rfl rfl (ex_store6 H5.out.1 3 rfl rfl rfl rfl (Nat.le_of_ble_eq_true rfl)) ?_
  have H6 : Hid (Mm (w5.setCells γ1_2 0 (cells6 0)) [(γs3, cel [a, b]), (γ1_0, cells6 a), (γ1_1, cells6 b), (γ1_2, cells6 0)] ∧ Below w.heap.size w (w5.setCells γ1_2 0 (cells6 0))) := ⟨H5.out.1.put 3 (off := 0) (vs := cells6 0) rfl (Nat.le_of_ble_eq_true rfl), below_setCells _ o1_2.out _ _ _ H5.out.2⟩
  clear H5
  generalize hgw : World.setCells _ _ _ _ = w6 at H6 ⊢
  clear hgw
  refine rest_set (d := 7) rfl rfl rfl rfl ?_
  simp only [Act.put, sa, sz, ss]
  refine rest_nil (then_normal (wp_ret ?_))
  repeat (first | refine then_ret ?_ | refine block_ret ?_)
  have c0 := H6.out.1.get 3 rfl 0 rfl
  have c1 := H6.out.1.get 3 rfl 1 rfl
  have c2 := H6.out.1.get 3 rfl 2 rfl
  have c3 := H6.out.1.get 3 rfl 3 rfl
  have c4 := H6.out.1.get 3 rfl 4 rfl
  have c5 := H6.out.1.get 3 rfl 5 rfl
  refine bodyPost_ret (v := .tuple #[N 0, .int .i64 2]) (by simp [results, Tryd.results19, go_sem, *]) rfl ?_
  exact ⟨rfl, H6.out.2⟩
set_option maxHeartbeats 1000000 in
set_option maxRecDepth 100000 in
theorem sMul_none {s : Int} (hS : Sn s) (a b : Nat) (w : World) :
    Calls Tryd.prog 19 #[.int .i64 s, N a, N b] w fun e w' => e = .returned (.tuple #[N 0, .int .i64 2]) ∧ Below w.heap.size w w' := by
  have H0 : Hid (_ ∧ _) := ⟨Mm.nil w, Below.refl w.heap.size w⟩
  go_enter Tryd.func19, Tryd.ntmps19
  refine wp_seq ?_
  refine walk_seqA 4 [.made (cells6 a) 24, .made (cells6 b) 24, .made zero6 24, .quiet (.int .i64 0)] (sB H0) ?ho1 ?he1
  case ho1 => exact ak (fun γ => ⟨rfl, fun w' => ex_box6 rfl rfl⟩) (ak (fun γ => ⟨rfl, fun w' => ex_box6 rfl rfl⟩) (ak (fun γ => ⟨rfl, fun w' => exec_made6 rfl⟩) (ak (fun _ => ⟨rfl, fun _ _ => rfl⟩) trivial)))
  intro γ w1 l hM hl
  have H1 : Hid (Mm w1 [(γ 0, cells6 a), (γ 1, cells6 b), (γ 2, zero6)] ∧ _) := growB H0 hM (Nat.le_refl _) hl [0, 1, 2] rfl (by decide)
  have o1_0 := ownB H0 hM (Nat.le_refl _) hl (i := 0) rfl
  have o1_1 := ownB H0 hM (Nat.le_refl _) hl (i := 1) rfl
  have o1_2 := ownB H0 hM (Nat.le_refl _) hl (i := 2) rfl
  clear hM hl l
  generalize γ 0 = γ1_0 at H1 o1_0 ⊢
  generalize γ 1 = γ1_1 at H1 o1_1 ⊢
  generalize γ 2 = γ1_2 at H1 o1_2 ⊢
  clear γ
  refine rest0 rfl (then_normal (wp_seq ?_))
  refine walk_seqB 3 [.quiet (.int .i64 s), .quiet (N a), .quiet (N b)] H1 ?ho2 ?he2
  case ho2 => exact ak (fun _ => ⟨rfl, fun _ _ => rfl⟩) (ak (fun γ => ⟨rfl, fun w' h => ex_load6 h 0 rfl rfl rfl rfl⟩) (ak (fun γ => ⟨rfl, fun w' h => ex_load6 h 1 rfl rfl rfl rfl⟩) trivial))
  intro _ w2 H2
  clear H1
  refine rest_at (l := [3, 4, 5, 6, 7, 8, 9]) rfl ?_
  refine rest_set (d := 14) (v := .slice (some ⟨w2.heap.size, 0, none⟩) 2 2) (w' := w2.alloc (.cells (cel [a, b] : List Value).toArray 24)) rfl rfl rfl (ex_bsN2 rfl rfl rfl) ?_
  simp only [Act.put, sa, sz, ss]
  have o_γs3 : Hid (w.heap.size ≤ w2.heap.size) := H2.out.2.size
  have H3 : Hid (Mm (w2.alloc (.cells (cel [a, b] : List Value).toArray 24)) ((w2.heap.size, cel [a, b]) :: [(γ1_0, cells6 a), (γ1_1, cells6 b), (γ1_2, zero6)]) ∧ Below w.heap.size w (w2.alloc (.cells (cel [a, b] : List Value).toArray 24))) := ⟨H2.out.1.alloc _ 24 rfl, H2.out.2.alloc H2.out.2.size _⟩
  clear H2
  generalize hgw : w2.alloc (.cells (cel [a, b] : List Value).toArray 24) = w3 at H3 ⊢
  clear hgw
  generalize w2.heap.size = γs3 at o_γs3 H3 ⊢
  refine rest_enter (d := 15) (R := fun vv w' => vv = .tuple #[.pointer none, .int .i64 2] ∧ Below w3.heap.size w3 w') rfl rfl rfl (exec_call (args := #[.int .i64 s, .slice (some ⟨γs3, 0, none⟩) 2 2]) rfl call51 rfl (mpn rfl)) (Calls.mono (ari_none hS _ w3) (fun e w2 hh => ⟨_, hh.1, rfl, hh.2⟩)) ?_
  rintro _ w4 ⟨rfl, hb⟩
  have H4 : Hid (_ ∧ _) := ⟨H3.out.1.below hb, H3.out.2.trans (hb.mono H3.out.2.size)⟩
  clear hb H3
  simp only [Act.put, sa, sz, ss]
  refine rest_set (d := 10) rfl rfl rfl rfl ?_
  simp only [Act.put, sa, sz, ss]
  refine rest_set (d := 16) (v := .pointer none) (w' := w4) rfl rfl rfl (by go_simp) ?_
  simp only [Act.put, sa, sz, ss]
  refine rest_set (d := 17) (v := .int .i64 2) (w' := w4) rfl rfl rfl (by go_simp) ?_
  simp only [Act.put, sa, sz, ss]
  refine rest_set (d := 8) rfl rfl rfl rfl ?_
  simp only [Act.put, sa, sz, ss]
  refine rest_set (d := 9) rfl rfl rfl rfl ?_
  simp only [Act.put, sa, sz, ss]
  refine rest_nil (then_normal (wp_seq ?_))
  refine walk_seqB 5 [.quiet (.pointer none), .quiet (N a), .quiet (N b), .call (N 0), .quiet (.int .i64 2)] H4 ?ho3 ?he3
  case ho3 => exact ak (fun _ => ⟨rfl, fun _ _ => rfl⟩) (ak (fun γ => ⟨rfl, fun w' h => ex_load6 h 1 rfl rfl rfl rfl⟩) (ak (fun γ => ⟨rfl, fun w' h => ex_load6 h 2 rfl rfl rfl rfl⟩) (ak (fun γ => ⟨rfl, fun w' h => ⟨14, #[.pointer none, N a, N b], exec_call rfl call14 rfl (mpn rfl), mul_nil a b w'⟩⟩) (ak (fun _ => ⟨rfl, fun _ _ => rfl⟩) trivial))))
  intro _ w5 H5
  clear H4
  refine rest_at (l := [5, 6]) rfl ?_
  refine rest_store rfl rfl rfl (ex_store6 H5.out.1 3 rfl rfl rfl rfl (Nat.le_of_ble_eq_true rfl)) ?_
  have H6 : Hid (Mm (w5.setCells γ1_2 0 (cells6 0)) [(γs3, cel [a, b]), (γ1_0, cells6 a), (γ1_1, cells6 b), (γ1_2, cells6 0)] ∧ Below w.heap.size w (w5.setCells γ1_2 0 (cells6 0))) := ⟨H5.out.1.put 3 (off := 0) (vs := cells6 0) rfl (Nat.le_of_ble_eq_true rfl), below_setCells _ o1_2.out _ _ _ H5.out.2⟩
  clear H5
  generalize hgw : World.setCells _ _ _ _ = w6 at H6 ⊢
  clear hgw
  refine rest_set (d := 7) rfl rfl rfl rfl ?_
  simp only [Act.put, sa, sz, ss]
  refine rest_nil (then_normal (wp_ret ?_))
  repeat (first | refine then_ret ?_ | refine block_ret ?_)
  have c0 := H6.out.1.get 3 rfl 0 rfl
  have c1 := H6.out.1.get 3 rfl 1 rfl
  have c2 := H6.out.1.get 3 rfl 2 rfl
  have c3 := H6.out.1.get 3 rfl 3 rfl
  have c4 := H6.out.1.get 3 rfl 4 rfl
  have c5 := H6.out.1.get 3 rfl 5 rfl
  refine bodyPost_ret (v := .tuple #[N 0, .int .i64 2]) (by simp [results, Tryd.results19, go_sem, *]) rfl ?_
  exact ⟨rfl, H6.out.2⟩
set_option maxHeartbeats 1000000 in
set_option maxRecDepth 100000 in
theorem sNeg_ok {s : Int} {r : Nat} (hS : Su s r) (a : Nat) (ha : a < r) (w : World) :
    Calls Tryd.prog 26 #[.int .i64 s, N a] w fun e w' => e = .returned (.tuple #[N (subm r 0 a), .int .i64 0]) ∧ Below w.heap.size w w' := by
  have H0 : Hid (_ ∧ _) := ⟨Mm.nil w, Below.refl w.heap.size w⟩
  go_enter Tryd.func26, Tryd.ntmps26
  refine wp_seq ?_
  refine walk_seqA 3 [.made (cells6 a) 24, .made zero6 24, .quiet (.int .i64 0)] (sB H0) ?ho1 ?he1
  case ho1 => exact ak (fun γ => ⟨rfl, fun w' => ex_box6 rfl rfl⟩) (ak (fun γ => ⟨rfl, fun w' => exec_made6 rfl⟩) (ak (fun _ => ⟨rfl, fun _ _ => rfl⟩) trivial))
  intro γ w1 l hM hl
  have H1 : Hid (Mm w1 [(γ 0, cells6 a), (γ 1, zero6)] ∧ _) := growB H0 hM (Nat.le_refl _) hl [0, 1] rfl (by decide)
  have o1_0 := ownB H0 hM (Nat.le_refl _) hl (i := 0) rfl
  have o1_1 := ownB H0 hM (Nat.le_refl _) hl (i := 1) rfl
  clear hM hl l
  generalize γ 0 = γ1_0 at H1 o1_0 ⊢
  generalize γ 1 = γ1_1 at H1 o1_1 ⊢
  clear γ
  refine rest0 rfl (then_normal (wp_seq ?_))
  refine walk_seqB 2 [.quiet (.int .i64 s), .quiet (N a)] H1 ?ho2 ?he2
  case ho2 => exact ak (fun _ => ⟨rfl, fun _ _ => rfl⟩) (ak (fun γ => ⟨rfl, fun w' h => ex_load6 h 0 rfl rfl rfl rfl⟩) trivial)
  intro _ w2 H2
  clear H1
  refine rest_at (l := [2, 3, 4, 5, 6, 7, 8]) rfl ?_
  refine rest_set (d := 11) (v := .slice (some ⟨w2.heap.size, 0, none⟩) 1 1) (w' := w2.alloc (.cells (cel [a] : List Value).toArray 24)) rfl rfl rfl (ex_bsN1 rfl rfl) ?_
  simp only [Act.put, sa, sz, ss]
  have o_γs3 : Hid (w.heap.size ≤ w2.heap.size) := H2.out.2.size
  have H3 : Hid (Mm (w2.alloc (.cells (cel [a] : List Value).toArray 24)) ((w2.heap.size, cel [a]) :: [(γ1_0, cells6 a), (γ1_1, zero6)]) ∧ Below w.heap.size w (w2.alloc (.cells (cel [a] : List Value).toArray 24))) := ⟨H2.out.1.alloc _ 24 rfl, H2.out.2.alloc H2.out.2.size _⟩
  clear H2
  generalize hgw : w2.alloc (.cells (cel [a] : List Value).toArray 24) = w3 at H3 ⊢
  clear hgw
  generalize w2.heap.size = γs3 at o_γs3 H3 ⊢
  refine rest_enter (d := 12) (R := fun vv w' => Below w3.heap.size w3 w' ∧ ∃ g, vv = .tuple #[PT g 0, .int .i64 0] ∧ w3.heap.size ≤ g ∧ g < w'.heap.size ∧ Blk w' g (modc r)) rfl rfl rfl (exec_call (args := #[.int .i64 s, .slice (some ⟨γs3, 0, none⟩) 1 1]) rfl call51 rfl (mpn rfl)) (Calls.mono (ari1_ok hS _ a ha w3 (H3.out.1.one 0 rfl)) (fun e w2 hh => by obtain ⟨hb, g, he, h1, h2, h3⟩ := hh; exact ⟨_, he, hb, g, rfl, h1, h2, h3⟩)) ?_
  rintro _ w4 ⟨hb, γs4, rfl, hg1, hg2, hg3⟩
  have o_γs4 : Hid (w.heap.size ≤ γs4) := Nat.le_trans H3.out.2.size hg1
  have H4 : Hid (Mm w4 [(γs4, modc r), (γs3, cel [a]), (γ1_0, cells6 a), (γ1_1, zero6)] ∧ Below w.heap.size w w4) := ⟨Mm.cons (H3.out.1.below hb) hg3 hg2 (fun p hp => Nat.ne_of_lt (Nat.lt_of_lt_of_le (H3.out.1.blk p hp).1 hg1)), H3.out.2.trans (hb.mono H3.out.2.size)⟩
  clear hb hg1 hg2 hg3 H3
  simp only [Act.put, sa, sz, ss]
  refine rest_set (d := 8) rfl rfl rfl rfl ?_
  simp only [Act.put, sa, sz, ss]
  refine rest_set (d := 13) (v := PT γs4 0) (w' := w4) rfl rfl rfl (by go_simp) ?_
  simp only [Act.put, sa, sz, ss]
  refine rest_set (d := 14) (v := .int .i64 0) (w' := w4) rfl rfl rfl (by go_simp) ?_
  simp only [Act.put, sa, sz, ss]
  refine rest_set (d := 6) rfl rfl rfl rfl ?_
  simp only [Act.put, sa, sz, ss]
  refine rest_set (d := 7) rfl rfl rfl rfl ?_
  simp only [Act.put, sa, sz, ss]
  refine rest_nil (then_normal (wp_seq ?_))
  refine walk_seqB 4 [.quiet (PT γs4 0), .quiet (N a), .call (N (subm r 0 a)), .quiet (.int .i64 0)] H4 ?ho3 ?he3
  case ho3 => exact ak (fun _ => ⟨rfl, fun _ _ => rfl⟩) (ak (fun γ => ⟨rfl, fun w' h => ex_load6 h 2 rfl rfl rfl rfl⟩) (ak (fun γ => ⟨rfl, fun w' h => ⟨13, #[PT γs4 0, N a], exec_call rfl call13 rfl (mpn rfl), negm_any hS.ok (Nat.lt_trans ha hS.ok.big) w' (h.one 0 rfl)⟩⟩) (ak (fun _ => ⟨rfl, fun _ _ => rfl⟩) trivial)))
  intro _ w5 H5
  clear H4
  refine rest_at (l := [4, 5]) rfl ?_
  refine rest_store rfl rfl rfl (ex_store6 H5.out.1 3 rfl rfl rfl rfl (Nat.le_of_ble_eq_true rfl)) ?_
  have H6 : Hid (Mm (w5.setCells γ1_1 0 (cells6 (subm r 0 a))) [(γs4, modc r), (γs3, cel [a]), (γ1_0, cells6 a), (γ1_1, cells6 (subm r 0 a))] ∧ Below w.heap.size w (w5.setCells γ1_1 0 (cells6 (subm r 0 a)))) := ⟨H5.out.1.put 3 (off := 0) (vs := cells6 (subm r 0 a)) rfl (Nat.le_of_ble_eq_true rfl), below_setCells _ o1_1.out _ _ _ H5.out.2⟩
  clear H5
  generalize hgw : World.setCells _ _ _ _ = w6 at H6 ⊢
  clear hgw
  refine rest_set (d := 5) rfl rfl rfl rfl ?_
  simp only [Act.put, sa, sz, ss]
  refine rest_nil (then_normal (wp_ret ?_))
  repeat (first | refine then_ret ?_ | refine block_ret ?_)
  have c0 := H6.out.1.get 3 rfl 0 rfl
  have c1 := H6.out.1.get 3 rfl 1 rfl
  have c2 := H6.out.1.get 3 rfl 2 rfl
  have c3 := H6.out.1.get 3 rfl 3 rfl
  have c4 := H6.out.1.get 3 rfl 4 rfl
  have c5 := H6.out.1.get 3 rfl 5 rfl
  refine bodyPost_ret (v := .tuple #[N (subm r 0 a), .int .i64 0]) (by simp [results, Tryd.results26, go_sem, *]) rfl ?_
  exact ⟨rfl, H6.out.2⟩
set_option maxHeartbeats 1000000 in
set_option maxRecDepth 100000 in
theorem sNeg_no {s : Int} {r : Nat} (hS : Su s r) (a : Nat) (hba : a < big) (ha : ¬ a < r) (w : World) :
    Calls Tryd.prog 26 #[.int .i64 s, N a] w fun e w' => e = .returned (.tuple #[N 0, .int .i64 2]) ∧ Below w.heap.size w w' := by
  have H0 : Hid (_ ∧ _) := ⟨Mm.nil w, Below.refl w.heap.size w⟩
  go_enter Tryd.func26, Tryd.ntmps26
  refine wp_seq ?_
  refine walk_seqA 3 [.made (cells6 a) 24, .made zero6 24, .quiet (.int .i64 0)] (sB H0) ?ho1 ?he1
  case ho1 => exact ak (fun γ => ⟨rfl, fun w' => ex_box6 rfl rfl⟩) (ak (fun γ => ⟨rfl, fun w' => exec_made6 rfl⟩) (ak (fun _ => ⟨rfl, fun _ _ => rfl⟩) trivial))
  intro γ w1 l hM hl
  have H1 : Hid (Mm w1 [(γ 0, cells6 a), (γ 1, zero6)] ∧ _) := growB H0 hM (Nat.le_refl _) hl [0, 1] rfl (by decide)
  have o1_0 := ownB H0 hM (Nat.le_refl _) hl (i := 0) rfl
  have o1_1 := ownB H0 hM (Nat.le_refl _) hl (i := 1) rfl
  clear hM hl l
  generalize γ 0 = γ1_0 at H1 o1_0 ⊢
  generalize γ 1 = γ1_1 at H1 o1_1 ⊢
  clear γ
  refine rest0 rfl (then_normal (wp_seq ?_))
  refine walk_seqB 2 [.quiet (.int .i64 s), .quiet (N a)] H1 ?ho2 ?he2
  case ho2 => exact ak (fun _ => ⟨rfl, fun _ _ => rfl⟩) (ak (fun γ => ⟨rfl, fun w' h => ex_load6 h 0 rfl rfl rfl rfl⟩) trivial)
  intro _ w2 H2
  clear H1
  refine rest_at (l := [2, 3, 4, 5, 6, 7, 8]) rfl ?_
  refine rest_set (d := 11) (v := .slice (some ⟨w2.heap.size, 0, none⟩) 1 1) (w' := w2.alloc (.cells (cel [a] : List Value).toArray 24)) rfl rfl rfl (ex_bsN1 rfl rfl) ?_
  simp only [Act.put, sa, sz, ss]
  have o_γs3 : Hid (w.heap.size ≤ w2.heap.size) := H2.out.2.size
  have H3 : Hid (Mm (w2.alloc (.cells (cel [a] : List Value).toArray 24)) ((w2.heap.size, cel [a]) :: [(γ1_0, cells6 a), (γ1_1, zero6)]) ∧ Below w.heap.size w (w2.alloc (.cells (cel [a] : List Value).toArray 24))) := ⟨H2.out.1.alloc _ 24 rfl, H2.out.2.alloc H2.out.2.size _⟩
  clear H2
  generalize hgw : w2.alloc (.cells (cel [a] : List Value).toArray 24) = w3 at H3 ⊢
  clear hgw
  generalize w2.heap.size = γs3 at o_γs3 H3 ⊢
  refine rest_enter (d := 12) (R := fun vv w' => vv = .tuple #[.pointer none, .int .i64 2] ∧ Below w3.heap.size w3 w') rfl rfl rfl (exec_call (args := #[.int .i64 s, .slice (some ⟨γs3, 0, none⟩) 1 1]) rfl call51 rfl (mpn rfl)) (Calls.mono (ari1_no hS _ a hba ha w3 (H3.out.1.one 0 rfl)) (fun e w2 hh => ⟨_, hh.1, rfl, hh.2⟩)) ?_
  rintro _ w4 ⟨rfl, hb⟩
  have H4 : Hid (_ ∧ _) := ⟨H3.out.1.below hb, H3.out.2.trans (hb.mono H3.out.2.size)⟩
  clear hb H3
  simp only [Act.put, sa, sz, ss]
  refine rest_set (d := 8) rfl rfl rfl rfl ?_
  simp only [Act.put, sa, sz, ss]
  refine rest_set (d := 13) (v := .pointer none) (w' := w4) rfl rfl rfl (by go_simp) ?_
  simp only [Act.put, sa, sz, ss]
  refine rest_set (d := 14) (v := .int .i64 2) (w' := w4) rfl rfl rfl (by go_simp) ?_
  simp only [Act.put, sa, sz, ss]
  refine rest_set (d := 6) rfl rfl rfl rfl ?_
  simp only [Act.put, sa, sz, ss]
  refine rest_set (d := 7) rfl rfl rfl rfl ?_
  simp only [Act.put, sa, sz, ss]
  refine rest_nil (then_normal (wp_seq ?_))
  refine walk_seqB 4 [.quiet (.pointer none), .quiet (N a), .call (N 0), .quiet (.int .i64 2)] H4 ?ho3 ?he3
  case ho3 => exact ak (fun _ => ⟨rfl, fun _ _ => rfl⟩) (ak (fun γ => ⟨rfl, fun w' h => ex_load6 h 1 rfl rfl rfl rfl⟩) (ak (fun γ => ⟨rfl, fun w' h => ⟨13, #[.pointer none, N a], exec_call rfl call13 rfl (mpn rfl), neg_nil a w'⟩⟩) (ak (fun _ => ⟨rfl, fun _ _ => rfl⟩) trivial)))
  intro _ w5 H5
  clear H4
  refine rest_at (l := [4, 5]) rfl ?_
  refine rest_store rfl rfl rfl (ex_store6 H5.out.1 2 rfl rfl rfl rfl (Nat.le_of_ble_eq_true rfl)) ?_
  have H6 : Hid (Mm (w5.setCells γ1_1 0 (cells6 0)) [(γs3, cel [a]), (γ1_0, cells6 a), (γ1_1, cells6 0)] ∧ Below w.heap.size w (w5.setCells γ1_1 0 (cells6 0))) := ⟨H5.out.1.put 2 (off := 0) (vs := cells6 0) rfl (Nat.le_of_ble_eq_true rfl), below_setCells _ o1_1.out _ _ _ H5.out.2⟩
  clear H5
  generalize hgw : World.setCells _ _ _ _ = w6 at H6 ⊢
  clear hgw
  refine rest_set (d := 5) rfl rfl rfl rfl ?_
  simp only [Act.put, sa, sz, ss]
  refine rest_nil (then_normal (wp_ret ?_))
  repeat (first | refine then_ret ?_ | refine block_ret ?_)
  have c0 := H6.out.1.get 2 rfl 0 rfl
  have c1 := H6.out.1.get 2 rfl 1 rfl
  have c2 := H6.out.1.get 2 rfl 2 rfl
  have c3 := H6.out.1.get 2 rfl 3 rfl
  have c4 := H6.out.1.get 2 rfl 4 rfl
  have c5 := H6.out.1.get 2 rfl 5 rfl
  refine bodyPost_ret (v := .tuple #[N 0, .int .i64 2]) (by simp [results, Tryd.results26, go_sem, *]) rfl ?_
  exact ⟨rfl, H6.out.2⟩
set_option maxHeartbeats 1000000 in
set_option maxRecDepth 100000 in
theorem sNeg_none {s : Int} (hS : Sn s) (a : Nat) (w : World) :
    Calls Tryd.prog 26 #[.int .i64 s, N a] w fun e w' => e = .returned (.tuple #[N 0, .int .i64 2]) ∧ Below w.heap.size w w' := by
  have H0 : Hid (_ ∧ _) := ⟨Mm.nil w, Below.refl w.heap.size w⟩
  go_enter Tryd.func26, Tryd.ntmps26
  refine wp_seq ?_
  refine walk_seqA 3 [.made (cells6 a) 24, .made zero6 24, .quiet (.int .i64 0)] (sB H0) ?ho1 ?he1
  case ho1 => exact ak (fun γ => ⟨rfl, fun w' => ex_box6 rfl rfl⟩) (ak (fun γ => ⟨rfl, fun w' => exec_made6 rfl⟩) (ak (fun _ => ⟨rfl, fun _ _ => rfl⟩) trivial))
  intro γ w1 l hM hl
  have H1 : Hid (Mm w1 [(γ 0, cells6 a), (γ 1, zero6)] ∧ _) := growB H0 hM (Nat.le_refl _) hl [0, 1] rfl (by decide)
  have o1_0 := ownB H0 hM (Nat.le_refl _) hl (i := 0) rfl
  have o1_1 := ownB H0 hM (Nat.le_refl _) hl (i := 1) rfl
  clear hM hl l
  generalize γ 0 = γ1_0 at H1 o1_0 ⊢
  generalize γ 1 = γ1_1 at H1 o1_1 ⊢
  clear γ
  refine rest0 rfl (then_normal (wp_seq ?_))
  refine walk_seqB 2 [.quiet (.int .i64 s), .quiet (N a)] H1 ?ho2 ?he2
  case ho2 => exact ak (fun _ => ⟨rfl, fun _ _ => rfl⟩) (ak (fun γ => ⟨rfl, fun w' h => ex_load6 h 0 rfl rfl rfl rfl⟩) trivial)
  intro _ w2 H2
  clear H1
  refine rest_at (l := [2, 3, 4, 5, 6, 7, 8]) rfl ?_
  refine rest_set (d := 11) (v := .slice (some ⟨w2.heap.size, 0, none⟩) 1 1) (w' := w2.alloc (.cells (cel [a] : List Value).toArray 24)) rfl rfl rfl (ex_bsN1 rfl rfl) ?_
  simp only [Act.put, sa, sz, ss]
  have o_γs3 : Hid (w.heap.size ≤ w2.heap.size) := H2.out.2.size
  have H3 : Hid (Mm (w2.alloc (.cells (cel [a] : List Value).toArray 24)) ((w2.heap.size, cel [a]) :: [(γ1_0, cells6 a), (γ1_1, zero6)]) ∧ Below w.heap.size w (w2.alloc (.cells (cel [a] : List Value).toArray 24))) := ⟨H2.out.1.alloc _ 24 rfl, H2.out.2.alloc H2.out.2.size _⟩
  clear H2
  generalize hgw : w2.alloc (.cells (cel [a] : List Value).toArray 24) = w3 at H3 ⊢
  clear hgw
  generalize w2.heap.size = γs3 at o_γs3 H3 ⊢
  refine rest_enter (d := 12) (R := fun vv w' => vv = .tuple #[.pointer none, .int .i64 2] ∧ Below w3.heap.size w3 w') rfl rfl rfl (exec_call (args := #[.int .i64 s, .slice (some ⟨γs3, 0, none⟩) 1 1]) rfl call51 rfl (mpn rfl)) (Calls.mono (ari_none hS _ w3) (fun e w2 hh => ⟨_, hh.1, rfl, hh.2⟩)) ?_
  rintro _ w4 ⟨rfl, hb⟩
  have H4 : Hid (_ ∧ _) := ⟨H3.out.1.below hb, H3.out.2.trans (hb.mono H3.out.2.size)⟩
  clear hb H3
  simp only [Act.put, sa, sz, ss]
  refine rest_set (d := 8) rfl rfl rfl rfl ?_
  simp only [Act.put, sa, sz, ss]
  refine rest_set (d := 13) (v := .pointer none) (w' := w4) rfl rfl rfl (by go_simp) ?_
  simp only [Act.put, sa, sz, ss]
  refine rest_set (d := 14) (v := .int .i64 2) (w' := w4) rfl rfl rfl (by go_simp) ?_
  simp only [Act.put, sa, sz, ss]
  refine rest_set (d := 6) rfl rfl rfl rfl ?_
  simp only [Act.put, sa, sz, ss]
  refine rest_set (d := 7) rfl rfl rfl rfl ?_
  simp only [Act.put, sa, sz, ss]
  refine rest_nil (then_normal (wp_seq ?_))
  refine walk_seqB 4 [.quiet (.pointer none), .quiet (N a), .call (N 0), .quiet (.int .i64 2)] H4 ?ho3 ?he3
  case ho3 => exact ak (fun _ => ⟨rfl, fun _ _ => rfl⟩) (ak (fun γ => ⟨rfl, fun w' h => ex_load6 h 1 rfl rfl rfl rfl⟩) (ak (fun γ => ⟨rfl, fun w' h => ⟨13, #[.pointer none, N a], exec_call rfl call13 rfl (mpn rfl), neg_nil a w'⟩⟩) (ak (fun _ => ⟨rfl, fun _ _ => rfl⟩) trivial)))
  intro _ w5 H5
  clear H4
  refine rest_at (l := [4, 5]) rfl ?_
  refine rest_store rfl rfl rfl (ex_store6 H5.out.1 2 rfl rfl rfl rfl (Nat.le_of_ble_eq_true rfl)) ?_
  have H6 : Hid (Mm (w5.setCells γ1_1 0 (cells6 0)) [(γs3, cel [a]), (γ1_0, cells6 a), (γ1_1, cells6 0)] ∧ Below w.heap.size w (w5.setCells γ1_1 0 (cells6 0))) := ⟨H5.out.1.put 2 (off := 0) (vs := cells6 0) rfl (Nat.le_of_ble_eq_true rfl), below_setCells _ o1_1.out _ _ _ H5.out.2⟩
  clear H5
  generalize hgw : World.setCells _ _ _ _ = w6 at H6 ⊢
  clear hgw
  refine rest_set (d := 5) rfl rfl rfl rfl ?_
  simp only [Act.put, sa, sz, ss]
  refine rest_nil (then_normal (wp_ret ?_))
  repeat (first | refine then_ret ?_ | refine block_ret ?_)
  have c0 := H6.out.1.get 2 rfl 0 rfl
  have c1 := H6.out.1.get 2 rfl 1 rfl
  have c2 := H6.out.1.get 2 rfl 2 rfl
  have c3 := H6.out.1.get 2 rfl 3 rfl
  have c4 := H6.out.1.get 2 rfl 4 rfl
  have c5 := H6.out.1.get 2 rfl 5 rfl
  refine bodyPost_ret (v := .tuple #[N 0, .int .i64 2]) (by simp [results, Tryd.results26, go_sem, *]) rfl ?_
  exact ⟨rfl, H6.out.2⟩
set_option maxHeartbeats 1000000 in
set_option maxRecDepth 100000 in
theorem sInv_ok {s : Int} {r : Nat} (hS : Su s r) (a : Nat) (ha : a < r) (hg : Nat.gcd r a = 1) (w : World) (hm : Mm w [(0, dtab)]) :
    Calls Tryd.prog 22 #[.int .i64 s, N a] w fun e w' => e = .returned (.tuple #[N (invm r a), .int .i64 0]) ∧ Below w.heap.size w w' := by
  have H0 : Hid (_ ∧ _) := ⟨hm, Below.refl w.heap.size w⟩
  clear hm
  go_enter Tryd.func22, Tryd.ntmps22
  refine wp_seq ?_
  refine walk_seqA 3 [.made (cells6 a) 24, .made zero6 24, .quiet (.int .i64 0)] (sB H0) ?ho1 ?he1
  case ho1 => exact ak (fun γ => ⟨rfl, fun w' => ex_box6 rfl rfl⟩) (ak (fun γ => ⟨rfl, fun w' => exec_made6 rfl⟩) (ak (fun _ => ⟨rfl, fun _ _ => rfl⟩) trivial))
  intro γ w1 l hM hl
  have H1 : Hid (Mm w1 [(γ 0, cells6 a), (γ 1, zero6), (0, dtab)] ∧ _) := growB H0 hM (Nat.le_refl _) hl [0, 1] rfl (by decide)
  have o1_0 := ownB H0 hM (Nat.le_refl _) hl (i := 0) rfl
  have o1_1 := ownB H0 hM (Nat.le_refl _) hl (i := 1) rfl
  clear hM hl l
  generalize γ 0 = γ1_0 at H1 o1_0 ⊢
  generalize γ 1 = γ1_1 at H1 o1_1 ⊢
  clear γ
  refine rest0 rfl (then_normal (wp_seq ?_))
  refine walk_seqB 2 [.quiet (.int .i64 s), .quiet (N a)] H1 ?ho2 ?he2
  case ho2 => exact ak (fun _ => ⟨rfl, fun _ _ => rfl⟩) (ak (fun γ => ⟨rfl, fun w' h => ex_load6 h 0 rfl rfl rfl rfl⟩) trivial)
  intro _ w2 H2
  clear H1
  refine rest_at (l := [2, 3, 4, 5, 6, 7, 8]) rfl ?_
  refine rest_set (d := 11) (v := .slice (some ⟨w2.heap.size, 0, none⟩) 1 1) (w' := w2.alloc (.cells (cel [a] : List Value).toArray 24)) rfl rfl rfl (ex_bsN1 rfl rfl) ?_
  simp only [Act.put, sa, sz, ss]
  have o_γs3 : Hid (w.heap.size ≤ w2.heap.size) := H2.out.2.size
  have H3 : Hid (Mm (w2.alloc (.cells (cel [a] : List Value).toArray 24)) ((w2.heap.size, cel [a]) :: [(γ1_0, cells6 a), (γ1_1, zero6), (0, dtab)]) ∧ Below w.heap.size w (w2.alloc (.cells (cel [a] : List Value).toArray 24))) := ⟨H2.out.1.alloc _ 24 rfl, H2.out.2.alloc H2.out.2.size _⟩
  clear H2
  generalize hgw : w2.alloc (.cells (cel [a] : List Value).toArray 24) = w3 at H3 ⊢
  clear hgw
  generalize w2.heap.size = γs3 at o_γs3 H3 ⊢
  refine rest_enter (d := 12) (R := fun vv w' => Below w3.heap.size w3 w' ∧ ∃ g, vv = .tuple #[PT g 0, .int .i64 0] ∧ w3.heap.size ≤ g ∧ g < w'.heap.size ∧ Blk w' g (modc r)) rfl rfl rfl (exec_call (args := #[.int .i64 s, .slice (some ⟨γs3, 0, none⟩) 1 1]) rfl call51 rfl (mpn rfl)) (Calls.mono (ari1_ok hS _ a ha w3 (H3.out.1.one 0 rfl)) (fun e w2 hh => by obtain ⟨hb, g, he, h1, h2, h3⟩ := hh; exact ⟨_, he, hb, g, rfl, h1, h2, h3⟩)) ?_
  rintro _ w4 ⟨hb, γs4, rfl, hg1, hg2, hg3⟩
  have o_γs4 : Hid (w.heap.size ≤ γs4) := Nat.le_trans H3.out.2.size hg1
  have H4 : Hid (Mm w4 [(γs4, modc r), (γs3, cel [a]), (γ1_0, cells6 a), (γ1_1, zero6), (0, dtab)] ∧ Below w.heap.size w w4) := ⟨Mm.cons (H3.out.1.below hb) hg3 hg2 (fun p hp => Nat.ne_of_lt (Nat.lt_of_lt_of_le (H3.out.1.blk p hp).1 hg1)), H3.out.2.trans (hb.mono H3.out.2.size)⟩
  clear hb hg1 hg2 hg3 H3
  simp only [Act.put, sa, sz, ss]
  refine rest_set (d := 8) rfl rfl rfl rfl ?_
  simp only [Act.put, sa, sz, ss]
  refine rest_set (d := 13) (v := PT γs4 0) (w' := w4) rfl rfl rfl (by go_simp) ?_
  simp only [Act.put, sa, sz, ss]
  refine rest_set (d := 14) (v := .int .i64 0) (w' := w4) rfl rfl rfl (by go_simp) ?_
  simp only [Act.put, sa, sz, ss]
  refine rest_set (d := 6) rfl rfl rfl rfl ?_
  simp only [Act.put, sa, sz, ss]
  refine rest_set (d := 7) rfl rfl rfl rfl ?_
  simp only [Act.put, sa, sz, ss]
  refine rest_nil (then_normal ?_)
  refine wp_seq (wp_seq ?_)
  refine walk_seqB 2 [.quiet (.int .i64 0), .quiet (.bool false)] H4 ?ho3 ?he3
  case ho3 => exact ak (fun _ => ⟨rfl, fun _ _ => rfl⟩) (ak (by refine fun γ => ⟨rfl, fun w' h => ?_⟩; clear h; go_simp) trivial)
  intro _ w5 H5
  clear H4
  refine rest0 rfl (then_normal (wp_cond_false rfl ?_))
  refine wp_skip (then_normal (wp_seq ?_))
  refine walk_seqB 5 [.quiet (PT γs4 0), .quiet (N a), .call (.tuple #[N (invm r a), .int .i64 0]), .quiet (N (invm r a)), .quiet (.int .i64 0)] H5 ?ho4 ?he4
  case ho4 => exact ak (fun _ => ⟨rfl, fun _ _ => rfl⟩) (ak (fun γ => ⟨rfl, fun w' h => ex_load6 h 2 rfl rfl rfl rfl⟩) (ak (fun γ => ⟨rfl, fun w' h => ⟨6, #[PT γs4 0, N a], exec_call rfl call6 rfl (mpn rfl), inv_ok hS.ok (Nat.lt_trans ha hS.ok.big) hg w' (h.two 0 4 rfl rfl (by decide))⟩⟩) (ak (by refine fun γ => ⟨rfl, fun w' h => ?_⟩; clear h; go_simp) (ak (by refine fun γ => ⟨rfl, fun w' h => ?_⟩; clear h; go_simp) trivial))))
  intro _ w6 H6
  clear H5
  refine rest_at (l := [5, 6]) rfl ?_
  refine rest_store rfl rfl rfl (ex_store6 H6.out.1 3 rfl rfl rfl rfl (Nat.le_of_ble_eq_true rfl)) ?_
  have H7 : Hid (Mm (w6.setCells γ1_1 0 (cells6 (invm r a))) [(γs4, modc r), (γs3, cel [a]), (γ1_0, cells6 a), (γ1_1, cells6 (invm r a)), (0, dtab)] ∧ Below w.heap.size w (w6.setCells γ1_1 0 (cells6 (invm r a)))) := ⟨H6.out.1.put 3 (off := 0) (vs := cells6 (invm r a)) rfl (Nat.le_of_ble_eq_true rfl), below_setCells _ o1_1.out _ _ _ H6.out.2⟩
  clear H6
  generalize hgw : World.setCells _ _ _ _ = w7 at H7 ⊢
  clear hgw
  refine rest_set (d := 5) rfl rfl rfl rfl ?_
  simp only [Act.put, sa, sz, ss]
  refine rest_nil (then_normal (wp_ret ?_))
  repeat (first | refine then_ret ?_ | refine block_ret ?_)
  have c0 := H7.out.1.get 3 rfl 0 rfl
  have c1 := H7.out.1.get 3 rfl 1 rfl
  have c2 := H7.out.1.get 3 rfl 2 rfl
  have c3 := H7.out.1.get 3 rfl 3 rfl
  have c4 := H7.out.1.get 3 rfl 4 rfl
  have c5 := H7.out.1.get 3 rfl 5 rfl
  refine bodyPost_ret (v := .tuple #[N (invm r a), .int .i64 0]) (by simp [results, Tryd.results22, go_sem, *]) rfl ?_
  exact ⟨rfl, H7.out.2⟩
set_option maxHeartbeats 1000000 in
set_option maxRecDepth 100000 in
theorem sInv_miss {s : Int} {r : Nat} (hS : Su s r) (a : Nat) (ha : a < r) (hg : Nat.gcd r a ≠ 1) (w : World) (hm : Mm w [(0, dtab)]) :
    Calls Tryd.prog 22 #[.int .i64 s, N a] w fun e w' => e = .returned (.tuple #[N 0, .int .i64 6]) ∧ Below w.heap.size w w' := by
  have H0 : Hid (_ ∧ _) := ⟨hm, Below.refl w.heap.size w⟩
  clear hm
  go_enter Tryd.func22, Tryd.ntmps22
  refine wp_seq ?_
  refine walk_seqA 3 [.made (cells6 a) 24, .made zero6 24, .quiet (.int .i64 0)] (sB H0) ?ho1 ?he1
  case ho1 => exact ak (fun γ => ⟨rfl, fun w' => ex_box6 rfl rfl⟩) (ak (fun γ => ⟨rfl, fun w' => exec_made6 rfl⟩) (ak (fun _ => ⟨rfl, fun _ _ => rfl⟩) trivial))
  intro γ w1 l hM hl
  have H1 : Hid (Mm w1 [(γ 0, cells6 a), (γ 1, zero6), (0, dtab)] ∧ _) := growB H0 hM (Nat.le_refl _) hl [0, 1] rfl (by decide)
  have o1_0 := ownB H0 hM (Nat.le_refl _) hl (i := 0) rfl
  have o1_1 := ownB H0 hM (Nat.le_refl _) hl (i := 1) rfl
  clear hM hl l
  generalize γ 0 = γ1_0 at H1 o1_0 ⊢
  generalize γ 1 = γ1_1 at H1 o1_1 ⊢
  clear γ
  refine rest0 rfl (then_normal (wp_seq ?_))
  refine walk_seqB 2 [.quiet (.int .i64 s), .quiet (N a)] H1 ?ho2 ?he2
  case ho2 => exact ak (fun _ => ⟨rfl, fun _ _ => rfl⟩) (ak (fun γ => ⟨rfl, fun w' h => ex_load6 h 0 rfl rfl rfl rfl⟩) trivial)
  intro _ w2 H2
  clear H1
  refine rest_at (l := [2, 3, 4, 5, 6, 7, 8]) rfl ?_
  refine rest_set (d := 11) (v := .slice (some ⟨w2.heap.size, 0, none⟩) 1 1) (w' := w2.alloc (.cells (cel [a] : List Value).toArray 24)) rfl rfl rfl (ex_bsN1 rfl rfl) ?_
  simp only [Act.put, sa, sz, ss]
  have o_γs3 : Hid (w.heap.size ≤ w2.heap.size) := H2.out.2.size
  have H3 : Hid (Mm (w2.alloc (.cells (cel [a] : List Value).toArray 24)) ((w2.heap.size, cel [a]) :: [(γ1_0, cells6 a), (γ1_1, zero6), (0, dtab)]) ∧ Below w.heap.size w (w2.alloc (.cells (cel [a] : List Value).toArray 24))) := ⟨H2.out.1.alloc _ 24 rfl, H2.out.2.alloc H2.out.2.size _⟩
  clear H2
  generalize hgw : w2.alloc (.cells (cel [a] : List Value).toArray 24) = w3 at H3 ⊢
  clear hgw
  generalize w2.heap.size = γs3 at o_γs3 H3 ⊢
  refine rest_enter (d := 12) (R := fun vv w' => Below w3.heap.size w3 w' ∧ ∃ g, vv = .tuple #[PT g 0, .int .i64 0] ∧ w3.heap.size ≤ g ∧ g < w'.heap.size ∧ Blk w' g (modc r)) rfl rfl rfl (exec_call (args := #[.int .i64 s, .slice (some ⟨γs3, 0, none⟩) 1 1]) rfl call51 rfl (mpn rfl)) (Calls.mono (ari1_ok hS _ a ha w3 (H3.out.1.one 0 rfl)) (fun e w2 hh => by obtain ⟨hb, g, he, h1, h2, h3⟩ := hh; exact ⟨_, he, hb, g, rfl, h1, h2, h3⟩)) ?_
  rintro _ w4 ⟨hb, γs4, rfl, hg1, hg2, hg3⟩
  have o_γs4 : Hid (w.heap.size ≤ γs4) := Nat.le_trans H3.out.2.size hg1
  have H4 : Hid (Mm w4 [(γs4, modc r), (γs3, cel [a]), (γ1_0, cells6 a), (γ1_1, zero6), (0, dtab)] ∧ Below w.heap.size w w4) := ⟨Mm.cons (H3.out.1.below hb) hg3 hg2 (fun p hp => Nat.ne_of_lt (Nat.lt_of_lt_of_le (H3.out.1.blk p hp).1 hg1)), H3.out.2.trans (hb.mono H3.out.2.size)⟩
  clear hb hg1 hg2 hg3 H3
  simp only [Act.put, sa, sz, ss]
  refine rest_set (d := 8) rfl rfl rfl rfl ?_
  simp only [Act.put, sa, sz, ss]
  refine rest_set (d := 13) (v := PT γs4 0) (w' := w4) rfl rfl rfl (by go_simp) ?_
  simp only [Act.put, sa, sz, ss]
  refine rest_set (d := 14) (v := .int .i64 0) (w' := w4) rfl rfl rfl (by go_simp) ?_
  simp only [Act.put, sa, sz, ss]
  refine rest_set (d := 6) rfl rfl rfl rfl ?_
  simp only [Act.put, sa, sz, ss]
  refine rest_set (d := 7) rfl rfl rfl rfl ?_
  simp only [Act.put, sa, sz, ss]
  refine rest_nil (then_normal ?_)
  refine wp_seq (wp_seq ?_)
  refine walk_seqB 2 [.quiet (.int .i64 0), .quiet (.bool false)] H4 ?ho3 ?he3
  case ho3 => exact ak (fun _ => ⟨rfl, fun _ _ => rfl⟩) (ak (by refine fun γ => ⟨rfl, fun w' h => ?_⟩; clear h; go_simp) trivial)
  intro _ w5 H5
  clear H4
  refine rest0 rfl (then_normal (wp_cond_false rfl ?_))
  refine wp_skip (then_normal (wp_seq ?_))
  refine walk_seqB 5 [.quiet (PT γs4 0), .quiet (N a), .call (.tuple #[N 0, .int .i64 6]), .quiet (N 0), .quiet (.int .i64 6)] H5 ?ho4 ?he4
  case ho4 => exact ak (fun _ => ⟨rfl, fun _ _ => rfl⟩) (ak (fun γ => ⟨rfl, fun w' h => ex_load6 h 2 rfl rfl rfl rfl⟩) (ak (fun γ => ⟨rfl, fun w' h => ⟨6, #[PT γs4 0, N a], exec_call rfl call6 rfl (mpn rfl), inv_bad hS.ok (Nat.lt_trans ha hS.ok.big) hg w' (h.two 0 4 rfl rfl (by decide))⟩⟩) (ak (by refine fun γ => ⟨rfl, fun w' h => ?_⟩; clear h; go_simp) (ak (by refine fun γ => ⟨rfl, fun w' h => ?_⟩; clear h; go_simp) trivial))))
  intro _ w6 H6
  clear H5
  refine rest_at (l := [5, 6]) rfl ?_
  refine rest_store rfl rfl rfl (ex_store6 H6.out.1 3 rfl rfl rfl rfl (Nat.le_of_ble_eq_true rfl)) ?_
  have H7 : Hid (Mm (w6.setCells γ1_1 0 (cells6 0)) [(γs4, modc r), (γs3, cel [a]), (γ1_0, cells6 a), (γ1_1, cells6 0), (0, dtab)] ∧ Below w.heap.size w (w6.setCells γ1_1 0 (cells6 0))) := ⟨H6.out.1.put 3 (off := 0) (vs := cells6 0) rfl (Nat.le_of_ble_eq_true rfl), below_setCells _ o1_1.out _ _ _ H6.out.2⟩
  clear H6
  generalize hgw : World.setCells _ _ _ _ = w7 at H7 ⊢
  clear hgw
  refine rest_set (d := 5) rfl rfl rfl rfl ?_
  simp only [Act.put, sa, sz, ss]
  refine rest_nil (then_normal (wp_ret ?_))
  repeat (first | refine then_ret ?_ | refine block_ret ?_)
  have c0 := H7.out.1.get 3 rfl 0 rfl
  have c1 := H7.out.1.get 3 rfl 1 rfl
  have c2 := H7.out.1.get 3 rfl 2 rfl
  have c3 := H7.out.1.get 3 rfl 3 rfl
  have c4 := H7.out.1.get 3 rfl 4 rfl
  have c5 := H7.out.1.get 3 rfl 5 rfl
  refine bodyPost_ret (v := .tuple #[N 0, .int .i64 6]) (by simp [results, Tryd.results22, go_sem, *]) rfl ?_
  exact ⟨rfl, H7.out.2⟩
set_option maxHeartbeats 1000000 in
set_option maxRecDepth 100000 in
theorem sInv_no {s : Int} {r : Nat} (hS : Su s r) (a : Nat) (hba : a < big) (ha : ¬ a < r) (w : World) :
    Calls Tryd.prog 22 #[.int .i64 s, N a] w fun e w' => e = .returned (.tuple #[N 0, .int .i64 2]) ∧ Below w.heap.size w w' := by
  have H0 : Hid (_ ∧ _) := ⟨Mm.nil w, Below.refl w.heap.size w⟩
  go_enter Tryd.func22, Tryd.ntmps22
  refine wp_seq ?_
  refine walk_seqA 3 [.made (cells6 a) 24, .made zero6 24, .quiet (.int .i64 0)] (sB H0) ?ho1 ?he1
  case ho1 => exact ak (fun γ => ⟨rfl, fun w' => ex_box6 rfl rfl⟩) (ak (fun γ => ⟨rfl, fun w' => exec_made6 rfl⟩) (ak (fun _ => ⟨rfl, fun _ _ => rfl⟩) trivial))
  intro γ w1 l hM hl
  have H1 : Hid (Mm w1 [(γ 0, cells6 a), (γ 1, zero6)] ∧ _) := growB H0 hM (Nat.le_refl _) hl [0, 1] rfl (by decide)
  have o1_0 := ownB H0 hM (Nat.le_refl _) hl (i := 0) rfl
  have o1_1 := ownB H0 hM (Nat.le_refl _) hl (i := 1) rfl
  clear hM hl l
  generalize γ 0 = γ1_0 at H1 o1_0 ⊢
  generalize γ 1 = γ1_1 at H1 o1_1 ⊢
  clear γ
  refine rest0 rfl (then_normal (wp_seq ?_))
  refine walk_seqB 2 [.quiet (.int .i64 s), .quiet (N a)] H1 ?ho2 ?he2
  case ho2 => exact ak (fun _ => ⟨rfl, fun _ _ => rfl⟩) (ak (fun γ => ⟨rfl, fun w' h => ex_load6 h 0 rfl rfl rfl rfl⟩) trivial)
  intro _ w2 H2
  clear H1
  refine rest_at (l := [2, 3, 4, 5, 6, 7, 8]) rfl ?_
  refine rest_set (d := 11) (v := .slice (some ⟨w2.heap.size, 0, none⟩) 1 1) (w' := w2.alloc (.cells (cel [a] : List Value).toArray 24)) rfl rfl rfl (ex_bsN1 rfl rfl) ?_
  simp only [Act.put, sa, sz, ss]
  have o_γs3 : Hid (w.heap.size ≤ w2.heap.size) := H2.out.2.size
  have H3 : Hid (Mm (w2.alloc (.cells (cel [a] : List Value).toArray 24)) ((w2.heap.size, cel [a]) :: [(γ1_0, cells6 a), (γ1_1, zero6)]) ∧ Below w.heap.size w (w2.alloc (.cells (cel [a] : List Value).toArray 24))) := ⟨H2.out.1.alloc _ 24 rfl, H2.out.2.alloc H2.out.2.size _⟩
  clear H2
  generalize hgw : w2.alloc (.cells (cel [a] : List Value).toArray 24) = w3 at H3 ⊢
  clear hgw
  generalize w2.heap.size = γs3 at o_γs3 H3 ⊢
  refine rest_enter (d := 12) (R := fun vv w' => vv = .tuple #[.pointer none, .int .i64 2] ∧ Below w3.heap.size w3 w') rfl rfl rfl (exec_call (args := #[.int .i64 s, .slice (some ⟨γs3, 0, none⟩) 1 1]) rfl call51 rfl (mpn rfl)) (Calls.mono (ari1_no hS _ a hba ha w3 (H3.out.1.one 0 rfl)) (fun e w2 hh => ⟨_, hh.1, rfl, hh.2⟩)) ?_
  rintro _ w4 ⟨rfl, hb⟩
  have H4 : Hid (_ ∧ _) := ⟨H3.out.1.below hb, H3.out.2.trans (hb.mono H3.out.2.size)⟩
  clear hb H3
  simp only [Act.put, sa, sz, ss]
  refine rest_set (d := 8) rfl rfl rfl rfl ?_
  simp only [Act.put, sa, sz, ss]
  refine rest_set (d := 13) (v := .pointer none) (w' := w4) rfl rfl rfl (by go_simp) ?_
  simp only [Act.put, sa, sz, ss]
  refine rest_set (d := 14) (v := .int .i64 2) (w' := w4) rfl rfl rfl (by go_simp) ?_
  simp only [Act.put, sa, sz, ss]
  refine rest_set (d := 6) rfl rfl rfl rfl ?_
  simp only [Act.put, sa, sz, ss]
  refine rest_set (d := 7) rfl rfl rfl rfl ?_
  simp only [Act.put, sa, sz, ss]
  refine rest_nil (then_normal ?_)
  refine wp_seq (wp_seq ?_)
  refine walk_seqB 2 [.quiet (.int .i64 2), .quiet (.bool true)] H4 ?ho3 ?he3
  case ho3 => exact ak (fun _ => ⟨rfl, fun _ _ => rfl⟩) (ak (by refine fun γ => ⟨rfl, fun w' h => ?_⟩; clear h; go_simp) trivial)
  intro _ w5 H5
  clear H4
  refine rest0 rfl (then_normal (wp_cond_true rfl (wp_seq ?_)))
  refine walk_seqB 2 [.quiet (N 0), .quiet (.int .i64 2)] H5 ?ho4 ?he4
  case ho4 => exact ak (by refine fun γ => ⟨rfl, fun w' h => ?_⟩; clear h; exact ex_zero6 rfl) (ak (fun _ => ⟨rfl, fun _ _ => rfl⟩) trivial)
  intro _ w6 H6
  clear H5
  refine rest_at (l := [2, 3]) rfl ?_
  refine rest_store rfl rfl rfl (ex_store6 H6.out.1 2 rfl rfl rfl rfl (Nat.le_of_ble_eq_true rfl)) ?_
  have H7 : Hid (Mm (w6.setCells γ1_1 0 (cells6 0)) [(γs3, cel [a]), (γ1_0, cells6 a), (γ1_1, cells6 0)] ∧ Below w.heap.size w (w6.setCells γ1_1 0 (cells6 0))) := ⟨H6.out.1.put 2 (off := 0) (vs := cells6 0) rfl (Nat.le_of_ble_eq_true rfl), below_setCells _ o1_1.out _ _ _ H6.out.2⟩
  clear H6
  generalize hgw : World.setCells _ _ _ _ = w7 at H7 ⊢
  clear hgw
  refine rest_set (d := 5) rfl rfl rfl rfl ?_
  simp only [Act.put, sa, sz, ss]
  refine rest_nil (then_normal (wp_ret ?_))
  repeat (first | refine then_ret ?_ | refine block_ret ?_)
  have c0 := H7.out.1.get 2 rfl 0 rfl
  have c1 := H7.out.1.get 2 rfl 1 rfl
  have c2 := H7.out.1.get 2 rfl 2 rfl
  have c3 := H7.out.1.get 2 rfl 3 rfl
  have c4 := H7.out.1.get 2 rfl 4 rfl
  have c5 := H7.out.1.get 2 rfl 5 rfl
  refine bodyPost_ret (v := .tuple #[N 0, .int .i64 2]) (by simp [results, Tryd.results22, go_sem, *]) rfl ?_
  exact ⟨rfl, H7.out.2⟩
set_option maxHeartbeats 1000000 in
set_option maxRecDepth 100000 in
theorem sInv_none {s : Int} (hS : Sn s) (a : Nat) (w : World) :
    Calls Tryd.prog 22 #[.int .i64 s, N a] w fun e w' => e = .returned (.tuple #[N 0, .int .i64 2]) ∧ Below w.heap.size w w' := by
  have H0 : Hid (_ ∧ _) := ⟨Mm.nil w, Below.refl w.heap.size w⟩
  go_enter Tryd.func22, Tryd.ntmps22
  refine wp_seq ?_
  refine walk_seqA 3 [.made (cells6 a) 24, .made zero6 24, .quiet (.int .i64 0)] (sB H0) ?ho1 ?he1
  case ho1 => exact ak (fun γ => ⟨rfl, fun w' => ex_box6 rfl rfl⟩) (ak (fun γ => ⟨rfl, fun w' => exec_made6 rfl⟩) (ak (fun _ => ⟨rfl, fun _ _ => rfl⟩) trivial))
  intro γ w1 l hM hl
  have H1 : Hid (Mm w1 [(γ 0, cells6 a), (γ 1, zero6)] ∧ _) := growB H0 hM (Nat.le_refl _) hl [0, 1] rfl (by decide)
  have o1_0 := ownB H0 hM (Nat.le_refl _) hl (i := 0) rfl
  have o1_1 := ownB H0 hM (Nat.le_refl _) hl (i := 1) rfl
  clear hM hl l
  generalize γ 0 = γ1_0 at H1 o1_0 ⊢
  generalize γ 1 = γ1_1 at H1 o1_1 ⊢
  clear γ
  refine rest0 rfl (then_normal (wp_seq ?_))
  refine walk_seqB 2 [.quiet (.int .i64 s), .quiet (N a)] H1 ?ho2 ?he2
  case ho2 => exact ak (fun _ => ⟨rfl, fun _ _ => rfl⟩) (ak (fun γ => ⟨rfl, fun w' h => ex_load6 h 0 rfl rfl rfl rfl⟩) trivial)
  intro _ w2 H2
  clear H1
  refine rest_at (l := [2, 3, 4, 5, 6, 7, 8]) rfl ?_
  refine rest_set (d := 11) (v := .slice (some ⟨w2.heap.size, 0, none⟩) 1 1) (w' := w2.alloc (.cells (cel [a] : List Value).toArray 24)) rfl rfl rfl (ex_bsN1 rfl rfl) ?_
  simp only [Act.put, sa, sz, ss]
  have o_γs3 : Hid (w.heap.size ≤ w2.heap.size) := H2.out.2.size
  have H3 : Hid (Mm (w2.alloc (.cells (cel [a] : List Value).toArray 24)) ((w2.heap.size, cel [a]) :: [(γ1_0, cells6 a), (γ1_1, zero6)]) ∧ Below w.heap.size w (w2.alloc (.cells (cel [a] : List Value).toArray 24))) := ⟨H2.out.1.alloc _ 24 rfl, H2.out.2.alloc H2.out.2.size _⟩
  clear H2
  generalize hgw : w2.alloc (.cells (cel [a] : List Value).toArray 24) = w3 at H3 ⊢
  clear hgw
  generalize w2.heap.size = γs3 at o_γs3 H3 ⊢
  refine rest_enter (d := 12) (R := fun vv w' => vv = .tuple #[.pointer none, .int .i64 2] ∧ Below w3.heap.size w3 w') rfl rfl rfl (exec_call (args := #[.int .i64 s, .slice (some ⟨γs3, 0, none⟩) 1 1]) rfl call51 rfl (mpn rfl)) (Calls.mono (ari_none hS _ w3) (fun e w2 hh => ⟨_, hh.1, rfl, hh.2⟩)) ?_
  rintro _ w4 ⟨rfl, hb⟩
  have H4 : Hid (_ ∧ _) := ⟨H3.out.1.below hb, H3.out.2.trans (hb.mono H3.out.2.size)⟩
  clear hb H3
  simp only [Act.put, sa, sz, ss]
  refine rest_set (d := 8) rfl rfl rfl rfl ?_
  simp only [Act.put, sa, sz, ss]
  refine rest_set (d := 13) (v := .pointer none) (w' := w4) rfl rfl rfl (by go_simp) ?_
  simp only [Act.put, sa, sz, ss]
  refine rest_set (d := 14) (v := .int .i64 2) (w' := w4) rfl rfl rfl (by go_simp) ?_
  simp only [Act.put, sa, sz, ss]
  refine rest_set (d := 6) rfl rfl rfl rfl ?_
  simp only [Act.put, sa, sz, ss]
  refine rest_set (d := 7) rfl rfl rfl rfl ?_
  simp only [Act.put, sa, sz, ss]
  refine rest_nil (then_normal ?_)
  refine wp_seq (wp_seq ?_)
  refine walk_seqB 2 [.quiet (.int .i64 2), .quiet (.bool true)] H4 ?ho3 ?he3
  case ho3 => exact ak (fun _ => ⟨rfl, fun _ _ => rfl⟩) (ak (by refine fun γ => ⟨rfl, fun w' h => ?_⟩; clear h; go_simp) trivial)
  intro _ w5 H5
  clear H4
  refine rest0 rfl (then_normal (wp_cond_true rfl (wp_seq ?_)))
  refine walk_seqB 2 [.quiet (N 0), .quiet (.int .i64 2)] H5 ?ho4 ?he4
  case ho4 => exact ak (by refine fun γ => ⟨rfl, fun w' h => ?_⟩; clear h; exact ex_zero6 rfl) (ak (fun _ => ⟨rfl, fun _ _ => rfl⟩) trivial)
  intro _ w6 H6
  clear H5
  refine rest_at (l := [2, 3]) rfl ?_
  refine rest_store rfl rfl rfl (ex_store6 H6.out.1 2 rfl rfl rfl rfl (Nat.le_of_ble_eq_true rfl)) ?_
  have H7 : Hid (Mm (w6.setCells γ1_1 0 (cells6 0)) [(γs3, cel [a]), (γ1_0, cells6 a), (γ1_1, cells6 0)] ∧ Below w.heap.size w (w6.setCells γ1_1 0 (cells6 0))) := ⟨H6.out.1.put 2 (off := 0) (vs := cells6 0) rfl (Nat.le_of_ble_eq_true rfl), below_setCells _ o1_1.out _ _ _ H6.out.2⟩
  clear H6
  generalize hgw : World.setCells _ _ _ _ = w7 at H7 ⊢
  clear hgw
  refine rest_set (d := 5) rfl rfl rfl rfl ?_
  simp only [Act.put, sa, sz, ss]
  refine rest_nil (then_normal (wp_ret ?_))
  repeat (first | refine then_ret ?_ | refine block_ret ?_)
  have c0 := H7.out.1.get 2 rfl 0 rfl
  have c1 := H7.out.1.get 2 rfl 1 rfl
  have c2 := H7.out.1.get 2 rfl 2 rfl
  have c3 := H7.out.1.get 2 rfl 3 rfl
  have c4 := H7.out.1.get 2 rfl 4 rfl
  have c5 := H7.out.1.get 2 rfl 5 rfl
  refine bodyPost_ret (v := .tuple #[N 0, .int .i64 2]) (by simp [results, Tryd.results22, go_sem, *]) rfl ?_
  exact ⟨rfl, H7.out.2⟩
end Rg
end Go.Proofs.YtfnmahjdkmgdkaaDoor
end
section
namespace Go.Proofs.YtfnmahjdkmgdkaaDoor
open Go.RowKit
namespace Rg
set_option maxRecDepth 100000
theorem ex_loadT {ρ : Operand → Value} {o : Oper} {x : Operand} {g off n : Nat} {t : TypeId} {cs ms : List Value} {w : World} {l : List (Nat × List Value)} (h : Mm w l) (q : Nat) (hk : l[q]? = some (g, cs)) (ho : o.op = .load t x) (hx : ρ x = PT g off) (ha : ∀ w, (isAgg t).run Tryd.prog w = .ok true w) (hs : ∀ w, (sizeOf t).run Tryd.prog w = .ok n w) (hc : (cs.drop off).take n = ms) (hl : ms.length = n) :
    (execOp ρ o).run Tryd.prog w = .ok (.value (.agg ms.toArray)) w := by
  have hm := List.mem_of_getElem? hk
  have hcell := run_loadCells_list (P := Tryd.prog) (w := w) ⟨g, off, none⟩ ms (fun j v hv => by
    have e : cs[off + j]? = some v := by
      rw [← List.getElem?_drop]
      rw [← hc, List.getElem?_take] at hv
      split at hv
      · exact hv
      · cases hv
    have e2 := h.cell hm e
    rw [show (⟨g, off, none⟩ : Addr).add j = ⟨g, off + j, none⟩ from by unfold Addr.add; split <;> simp_all]
    exact e2)
  rw [hl] at hcell
  have hf : (loadCellsFrom ⟨g, off, none⟩ 0 n #[]).run Tryd.prog w = .ok ms.toArray w := hcell
  clear hcell hc hk hm h
  simp only [execOp, ho, hx]
  go_simp
theorem ex_loadC {ρ : Operand → Value} {o : Oper} {x : Operand} {g off : Nat} {t : TypeId} {v : Value} {cs : List Value} {w : World} {l : List (Nat × List Value)} (h : Mm w l) (k : Nat) (hk : l[k]? = some (g, cs)) (ho : o.op = .load t x) (hx : ρ x = PT g off) (ha : ∀ w, (isAgg t).run Tryd.prog w = .ok false w) (hc : cs[off]? = some v) :
    (execOp ρ o).run Tryd.prog w = .ok (.value v) w := by
  have c0 := h.cell (List.mem_of_getElem? hk) hc
  clear h hk hc
  simp only [execOp, ho, hx]
  go_simp
theorem ex_boxT {ρ : Operand → Value} {o : Oper} {x : Operand} {t : TypeId} {cs : List Value} {w : World} (ho : o.op = .box t x) (hx : ρ x = .agg cs.toArray) :
    (execOp ρ o).run Tryd.prog w = .ok (.value (.pointer (some ⟨w.heap.size, 0, none⟩))) (w.alloc (.cells cs.toArray t)) := by
  simp only [execOp, ho, hx]
  go_simp
theorem ex_storeT {ρ : Operand → Value} {o : Oper} {x y : Operand} {g off : Nat} {t : TypeId} {cs vs : List Value} {w : World} {l : List (Nat × List Value)} (h : Mm w l) (q : Nat) (hk : l[q]? = some (g, cs)) (ho : o.op = .store t x y) (hx : ρ x = PT g off) (hy : ρ y = .agg vs.toArray) (hs : ∀ w, (sizeOf t).run Tryd.prog w = .ok vs.length w) (h1 : vs.all Value.oneCell' = true) (hb : off + vs.length ≤ cs.length) :
    (execOp ρ o).run Tryd.prog w = .ok .skip (w.setCells g off vs) := by
  have hm := List.mem_of_getElem? hk
  have hq : ∀ j, j < vs.length → ∃ u, cs[off + j]? = some u := fun j hj => ⟨_, List.getElem?_eq_getElem (by omega)⟩
  have hst := run_storeCells_cells (P := Tryd.prog) g off vs 0 w (fun j hj => by
    obtain ⟨u, hu⟩ := hq j hj
    rw [show off + 0 + j = off + j by omega, h.cell hm hu]; rfl) (fun j hj => by
    obtain ⟨u, hu⟩ := hq j hj
    rw [show off + 0 + j = off + j by omega]; exact h.free hm hu) (List.all_eq_true.1 h1)
  clear h hm hq hb hk
  simp only [execOp, ho, hx, hy]
  go_simp
theorem var_T {g n : Nat} {t : TypeId} {cs : List Value} {w : World} {l : List (Nat × List Value)} (h : Mm w l) (q : Nat) (hk : l[q]? = some (g, cs)) (ha : ∀ w, (isAgg t).run Tryd.prog w = .ok true w) (hs : ∀ w, (sizeOf t).run Tryd.prog w = .ok n w) (hn : cs.length = n) : (loadVar t ⟨g, 0, none⟩).run Tryd.prog w = .ok (.agg cs.toArray) w := by
  have hm := List.mem_of_getElem? hk
  have hcell := run_loadCells_list (P := Tryd.prog) (w := w) ⟨g, 0, none⟩ cs (fun j v hv => by
    have e2 := h.cell hm hv
    rw [show (⟨g, 0, none⟩ : Addr).add j = ⟨g, j, none⟩ from by unfold Addr.add; split <;> simp_all]
    exact e2)
  rw [hn] at hcell
  have hf : (loadCellsFrom ⟨g, 0, none⟩ 0 n #[]).run Tryd.prog w = .ok cs.toArray w := hcell
  clear hcell h hk hm
  simp only [loadVar]
  go_simp
end Rg
end Go.Proofs.YtfnmahjdkmgdkaaDoor
end
section
namespace Go.Proofs.YtfnmahjdkmgdkaaDoor
open Go.RowKit
namespace Rg
namespace Lt
theorem quo_wrap (U y1 q : Nat) (h : U / y1 = q) (hq : q < 18446744073709551616) : IntKind.u64.wrap ((U : Int) / (y1 : Int)) = q := by
  rw [← Int.natCast_ediv, h]; exact Mul64.wrapN q hq
theorem rem_wrap (U y1 q r : Nat) (h : q * y1 + r = U) (hU : U < 18446744073709551616) : IntKind.u64.wrap ((U : Int) - IntKind.u64.wrap ((q : Int) * (y1 : Int))) = r := by
  have h1 : q * y1 < 18446744073709551616 := by omega
  rw [← Int.natCast_mul, Mul64.wrapN _ h1]
  have : (U : Int) - ((q * y1 : Nat) : Int) = (r : Int) := by omega
  rw [this]; exact Mul64.wrapN r (by omega)
theorem hb_break (U y1 y0 u q r Y Q : Nat) (dy : Y = y1 * 4294967296 + y0) (hQ : Q = (U * 4294967296 + u) / Y) (h : (q + 1) * y1 + r = U) (hle : q + 1 ≤ 4294967297) (b3 : y0 < 4294967296) (b4 : 0 < y1) (c2 : 4294967296 ≤ r + y1) (hge : Q + 1 ≤ q + 1) : q = Q := by
  have h2 : q * y1 + (r + y1) = U := by rw [Nat.add_mul] at h; omega
  have h3 : q * y0 ≤ 4294967296 * 4294967295 := Nat.mul_le_mul (by omega) (by omega)
  have h4 := half_enough U y1 y0 u q (r + y1) h2 (by omega) (by omega)
  rw [← dy, ← hQ] at h4
  omega
theorem hb_exit (U y1 y0 u q r Y Q : Nat) (dy : Y = y1 * 4294967296 + y0) (hQ : Q = (U * 4294967296 + u) / Y) (h : q * y1 + r = U) (b4 : 0 < y1) (c : q * y0 ≤ 4294967296 * r + u) (hge : Q ≤ q) : q = Q := by
  have h4 := half_enough U y1 y0 u q r h (by omega) (by rw [Nat.mul_comm r]; exact c)
  rw [← dy, ← hQ] at h4
  omega
theorem hb_more1 (U y1 y0 u q Y Q : Nat) (dy : Y = y1 * 4294967296 + y0) (hQ : Q = (U * 4294967296 + u) / Y) (hu : u < 4294967296) (hU : U < Y) (h : 4294967296 ≤ q) : Q + 1 ≤ q := by
  have h4 := half_big U y1 y0 u q hu (by rw [← dy]; exact hU) h
  rw [← dy, ← hQ] at h4
  exact h4
theorem hb_more2 (U y1 y0 u q r Y Q : Nat) (dy : Y = y1 * 4294967296 + y0) (hQ : Q = (U * 4294967296 + u) / Y) (h : q * y1 + r = U) (b4 : 0 < y1) (c : 4294967296 * r + u < q * y0) : Q + 1 ≤ q := by
  have h4 := half_more U y1 y0 u q r h (by omega) (by rw [Nat.mul_comm r]; exact c)
  rw [← dy, ← hQ] at h4
  exact h4
theorem hb_step (U y1 q r : Nat) (h : (q + 1) * y1 + r = U) : q * y1 + (r + y1) = U := by rw [Nat.add_mul] at h; omega
theorem mul_small (q y0 : Nat) (hq : q < 4294967296) (h : y0 < 4294967296) : q * y0 < 18446744073709551616 := by
  have h3 : q * y0 ≤ 4294967295 * 4294967295 := Nat.mul_le_mul (by omega) (by omega)
  omega
theorem mod_join (M Y u0 : Nat) : (M % Y * 4294967296 + u0) % Y = (M * 4294967296 + u0) % Y := by
  rw [Nat.add_mod, Nat.mul_mod, Nat.mod_mod, ← Nat.mul_mod, ← Nat.add_mod]
set_option maxHeartbeats 2000000 in
set_option maxRecDepth 100000 in
theorem div64_hi (hi lo y : Nat) (h1 : hi < y) (hy : y < 18446744073709551616) (hl : lo < 18446744073709551616) (h0 : hi ≠ 0) (w : World) :
    Calls Tryd.prog 118 #[.int .u64 hi, .int .u64 lo, .int .u64 y] w fun e w' => e = .returned (.tuple #[.int .u64 ((hi * 18446744073709551616 + lo) / y : Nat), .int .u64 ((hi * 18446744073709551616 + lo) % y : Nat)]) ∧ w' = w := by
  have hc := fun w => lz64_any y w (Int.natCast_nonneg y) (by omega)
  rw [Int.toNat_natCast] at hc
  have HC : Hid _ := hc
  have hb1 : bl y ≤ 64 := bl_le_of y 64 hy
  have hb2 : 1 ≤ bl y := bl_pos y (by omega)
  obtain ⟨Y, U, u1, u0, y1, y0, dY, b1, b2, dy, b3, b4, b5, b6, b7, b8, dM, eY, eU, eu1, eu0, ey1, ey0⟩ := norm_parts hi lo y h1 hy hl
  obtain ⟨Q1, hQ1⟩ : ∃ Q1, Q1 = (U * 4294967296 + u1) / Y := ⟨_, rfl⟩
  obtain ⟨R1, hR1⟩ : ∃ R1, R1 = (U * 4294967296 + u1) % Y := ⟨_, rfl⟩
  obtain ⟨Q0, hQ0⟩ : ∃ Q0, Q0 = (R1 * 4294967296 + u0) / Y := ⟨_, rfl⟩
  have hfin : (hi * 18446744073709551616 + lo) / y = Q1 * 4294967296 + Q0 := by
    rw [hQ0, hR1, hQ1, halves_join _ _ _ (by omega), ← dM, dY, norm_div]
  obtain ⟨R0, hR0⟩ : ∃ R0, R0 = (R1 * 4294967296 + u0) % Y := ⟨_, rfl⟩
  have hrem : (hi * 18446744073709551616 + lo) % y = R0 / 2 ^ (64 - bl y) := by
    rw [hR0, hR1, mod_join, ← dM, dY, Nat.mul_mod_mul_right, Nat.mul_div_cancel _ (Nat.two_pow_pos _)]
  rw [hfin, hrem]
  have HN : Hid _ := And.intro b1 (And.intro b2 (And.intro dy (And.intro b8 (And.intro hQ1 (And.intro hR1 (And.intro hQ0 hR0))))))
  have e1 : ((y : Int) == 0) = false := by simp; omega
  have e2 : ((hi : Int) == 0) = false := by simp; omega
  have e3 : (1 : Int) ≤ y1 := by omega
  clear hc hy hl dY dM hfin hrem b1 b2 dy b8 hQ1 hR1 hQ0 hR0
  go_enter Tryd.func118, Tryd.ntmps118
  go_upto_block 0 with (go_at_call 132; refine (HC.out _).mono ?_; rintro e w' ⟨rfl, hw'⟩; rw [hw']; clear hw')
  go_cut [15, 16] (fun qv rv wq => qv = .int .u64 Q1 ∧ (∃ r : Int, rv = .int .u64 r) ∧ wq = w)
  case first =>
    go_wp2
    go_loop [15, 16] (fun qv rv => ∃ q r : Nat, qv = .int .u64 q ∧ rv = .int .u64 r ∧ q * y1 + r = U ∧ Q1 ≤ q ∧ q ≤ 4294967297 ∧ r < 4294967296) (fun q _ => (RowKit.intOf q).toNat)
    case atStart =>
      obtain ⟨b1, b2, dy, b8, hQ1, hR1, hQ0, hR0⟩ := HN.out
      have hs := half_start U y1 y0 b3 b4 (by omega)
      have hg := half_ge U y1 y0 u1 b6 (by omega)
      have e1 := quo_wrap U y1 (U / y1) rfl (by omega)
      have dm := Nat.div_add_mod U y1
      have e2 := rem_wrap U y1 (U / y1) (U % y1) (by rw [Nat.mul_comm]; exact dm) (by omega)
      have hm := Nat.mod_lt U (by omega : 0 < y1)
      rw [e1, e2]
      exact ⟨U / y1, U % y1, rfl, rfl, by rw [Nat.mul_comm]; exact dm, by rw [hQ1, dy]; exact hg, hs, by omega⟩
    case round =>
      obtain ⟨q, r, rfl, rfl, hqr, hge, hle, hr⟩ := hrel
      have HQ : Hid _ := hqr
      clear hqr
      by_cases c1 : 4294967296 ≤ q
      · have hmore : Q1 + 1 ≤ q := by
          obtain ⟨b1, b2, dy, b8, hQ1, hR1, hQ0, hR0⟩ := HN.out
          exact hb_more1 U y1 y0 u1 q Y Q1 dy hQ1 b6 b8 c1
        obtain ⟨p, rfl⟩ : ∃ p, q = p + 1 := ⟨q - 1, by omega⟩
        have HB : Hid (Q1 + 1 ≤ p + 1 ∧ p + 1 ≤ 4294967297 ∧ r < 4294967296) := ⟨hmore, hle, hr⟩
        have i1 : (4294967296 : Int) ≤ (p : Int) + 1 := by omega
        have i2 : (p : Int) + 1 ≤ 4294967297 := by omega
        have i3 : (r : Int) < 4294967296 := by omega
        have i4 : (y1 : Int) < 4294967296 := by omega
        clear c1 hmore hle hr hge
        rw [show ((p + 1 : Nat) : Int) = (p : Int) + 1 by omega]
        by_cases c2 : (4294967296 : Int) ≤ (r : Int) + (y1 : Int)
        · go_wp2
          go_meet
          case rel =>
            obtain ⟨b1, b2, dy, b8, hQ1, hR1, hQ0, hR0⟩ := HN.out
            exact ⟨by rw [hb_break U y1 y0 u1 p r Y Q1 dy hQ1 HQ.out HB.out.2.1 b3 (by omega) (by omega) HB.out.1], ⟨_, rfl⟩, rfl⟩
        · go_wp2
          go_round
          case rel => exact ⟨p, r + y1, rfl, by go_num, hb_step U y1 p r HQ.out, by have := HB.out.1; omega, by have := HB.out.2.1; omega, by omega⟩
          case measure => simp [RowKit.intOf] <;> omega
      · obtain ⟨P, hP⟩ : ∃ P, P = q * y0 := ⟨_, rfl⟩
        have hPb : P < 18446744073709551616 := by rw [hP]; exact mul_small q y0 (by omega) b3
        by_cases c3 : (4294967296 : Int) * (r : Int) + (u1 : Int) < (P : Int)
        · have hq1 : 1 ≤ q := by
            by_cases hq0 : q = 0
            · subst hq0; rw [Nat.zero_mul] at hP; omega
            · omega
          have hmore : Q1 + 1 ≤ q := by
            obtain ⟨b1, b2, dy, b8, hQ1, hR1, hQ0, hR0⟩ := HN.out
            exact hb_more2 U y1 y0 u1 q r Y Q1 dy hQ1 HQ.out (by omega) (by rw [← hP]; omega)
          obtain ⟨p, rfl⟩ : ∃ p, q = p + 1 := ⟨q - 1, by omega⟩
          have HB : Hid (Q1 + 1 ≤ p + 1 ∧ p + 1 ≤ 4294967297 ∧ r < 4294967296) := ⟨hmore, hle, hr⟩
          have i1 : (p : Int) + 1 < 4294967296 := by omega
          have i3 : (r : Int) < 4294967296 := by omega
          have i4 : (y1 : Int) < 4294967296 := by omega
          have i5 : (u1 : Int) < 4294967296 := by omega
          have eP : IntKind.u64.wrap (((p : Int) + 1) * (y0 : Int)) = (P : Int) := by
            rw [show ((p : Int) + 1) = ((p + 1 : Nat) : Int) by omega, ← Int.natCast_mul, ← hP]; exact Mul64.wrapN P hPb
          clear c1 hmore hle hr hge hP hPb hq1
          rw [show ((p + 1 : Nat) : Int) = (p : Int) + 1 by omega]
          by_cases c2 : (4294967296 : Int) ≤ (r : Int) + (y1 : Int)
          · go_wp2
            go_meet
            case rel =>
              obtain ⟨b1, b2, dy, b8, hQ1, hR1, hQ0, hR0⟩ := HN.out
              exact ⟨by rw [hb_break U y1 y0 u1 p r Y Q1 dy hQ1 HQ.out HB.out.2.1 b3 (by omega) (by omega) HB.out.1], ⟨_, rfl⟩, rfl⟩
          · go_wp2
            go_round
            case rel => exact ⟨p, r + y1, rfl, by go_num, hb_step U y1 p r HQ.out, by have := HB.out.1; omega, by have := HB.out.2.1; omega, by omega⟩
            case measure => simp [RowKit.intOf] <;> omega
        · have HE : Hid (q = Q1) := by
            obtain ⟨b1, b2, dy, b8, hQ1, hR1, hQ0, hR0⟩ := HN.out
            exact hb_exit U y1 y0 u1 q r Y Q1 dy hQ1 HQ.out (by omega) (by rw [← hP]; omega) hge
          have eP : IntKind.u64.wrap ((q : Int) * (y0 : Int)) = (P : Int) := by
            rw [← Int.natCast_mul, ← hP]; exact Mul64.wrapN P hPb
          obtain ⟨z, hz⟩ : ∃ z : Int, z = (q : Int) := ⟨_, rfl⟩
          obtain ⟨x, hx⟩ : ∃ x : Int, x = (P : Int) := ⟨_, rfl⟩
          obtain ⟨v, hv⟩ : ∃ v : Int, v = (r : Int) := ⟨_, rfl⟩
          have HZ : Hid (z = (Q1 : Int)) := by rw [hz, HE.out]; rfl
          have i0 : 0 ≤ z := by omega
          have i1 : z < 4294967296 := by omega
          have i2 : 0 ≤ v := by omega
          have i3 : v < 4294967296 := by omega
          have i6 : x ≤ 4294967296 * v + (u1 : Int) := by omega
          rw [← hz, ← hx] at eP
          rw [← hz, ← hv]
          clear c1 c3 hle hr hge hP hPb HE hz hx hv
          go_wp2
          go_meet
          case rel => exact ⟨by rw [HZ.out], ⟨_, rfl⟩, rfl⟩
  case rest =>
    obtain ⟨rfl, ⟨rv, rfl⟩, rfl⟩ := hcut
    have eR : IntKind.u64.wrap (IntKind.u64.wrap (IntKind.u64.wrap ((U : Int) * 4294967296) + (u1 : Int)) - IntKind.u64.wrap ((Q1 : Int) * (Y : Int))) = (R1 : Int) := by
      obtain ⟨b1, b2, dy, b8, hQ1, hR1, hQ0, hR0⟩ := HN.out
      have dm := Nat.div_add_mod (U * 4294967296 + u1) Y
      have b9 : R1 < Y := by rw [hR1]; exact Nat.mod_lt _ (by omega)
      rw [← hQ1, ← hR1, Nat.mul_comm] at dm
      rw [IntKind.wrap_u64, IntKind.wrap_u64, IntKind.wrap_u64, IntKind.wrap_u64, ← Int.natCast_mul]
      generalize Q1 * Y = Z at dm ⊢
      omega
    go_upto_block 2 with (fail)
    go_cut [18, 16] (fun qv rv wq => qv = .int .u64 Q0 ∧ (∃ r : Int, rv = .int .u64 r) ∧ wq = wc)
    case first =>
      go_wp2
      go_loop [18, 16] (fun qv rv => ∃ q r : Nat, qv = .int .u64 q ∧ rv = .int .u64 r ∧ q * y1 + r = R1 ∧ Q0 ≤ q ∧ q ≤ 4294967297 ∧ r < 4294967296) (fun q _ => (RowKit.intOf q).toNat)
      case atStart =>
        obtain ⟨b1, b2, dy, b8, hQ1, hR1, hQ0, hR0⟩ := HN.out; have b9 : R1 < Y := by rw [hR1]; exact Nat.mod_lt _ (by omega)
        have hs := half_start R1 y1 y0 b3 b4 (by omega)
        have hg := half_ge R1 y1 y0 u0 b7 (by omega)
        have e1 := quo_wrap R1 y1 (R1 / y1) rfl (by omega)
        have dm := Nat.div_add_mod R1 y1
        have e2 := rem_wrap R1 y1 (R1 / y1) (R1 % y1) (by rw [Nat.mul_comm]; exact dm) (by omega)
        have hm := Nat.mod_lt R1 (by omega : 0 < y1)
        rw [e1, e2]
        exact ⟨R1 / y1, R1 % y1, rfl, rfl, by rw [Nat.mul_comm]; exact dm, by rw [hQ0, dy]; exact hg, hs, by omega⟩
      case round =>
        obtain ⟨q, r, rfl, rfl, hqr, hge, hle, hr⟩ := hrel
        have HQ : Hid _ := hqr
        clear hqr
        by_cases c1 : 4294967296 ≤ q
        · have hmore : Q0 + 1 ≤ q := by
            obtain ⟨b1, b2, dy, b8, hQ1, hR1, hQ0, hR0⟩ := HN.out; have b9 : R1 < Y := by rw [hR1]; exact Nat.mod_lt _ (by omega)
            exact hb_more1 R1 y1 y0 u0 q Y Q0 dy hQ0 b7 b9 c1
          obtain ⟨p, rfl⟩ : ∃ p, q = p + 1 := ⟨q - 1, by omega⟩
          have HB : Hid (Q0 + 1 ≤ p + 1 ∧ p + 1 ≤ 4294967297 ∧ r < 4294967296) := ⟨hmore, hle, hr⟩
          have i1 : (4294967296 : Int) ≤ (p : Int) + 1 := by omega
          have i2 : (p : Int) + 1 ≤ 4294967297 := by omega
          have i3 : (r : Int) < 4294967296 := by omega
          have i4 : (y1 : Int) < 4294967296 := by omega
          clear c1 hmore hle hr hge
          rw [show ((p + 1 : Nat) : Int) = (p : Int) + 1 by omega]
          by_cases c2 : (4294967296 : Int) ≤ (r : Int) + (y1 : Int)
          · go_wp2
            go_meet
            case rel =>
              obtain ⟨b1, b2, dy, b8, hQ1, hR1, hQ0, hR0⟩ := HN.out; have b9 : R1 < Y := by rw [hR1]; exact Nat.mod_lt _ (by omega)
              exact ⟨by rw [hb_break R1 y1 y0 u0 p r Y Q0 dy hQ0 HQ.out HB.out.2.1 b3 (by omega) (by omega) HB.out.1], ⟨_, rfl⟩, rfl⟩
          · go_wp2
            go_round
            case rel => exact ⟨p, r + y1, rfl, by go_num, hb_step R1 y1 p r HQ.out, by have := HB.out.1; omega, by have := HB.out.2.1; omega, by omega⟩
            case measure => simp [RowKit.intOf] <;> omega
        · obtain ⟨P, hP⟩ : ∃ P, P = q * y0 := ⟨_, rfl⟩
          have hPb : P < 18446744073709551616 := by rw [hP]; exact mul_small q y0 (by omega) b3
          by_cases c3 : (4294967296 : Int) * (r : Int) + (u0 : Int) < (P : Int)
          · have hq1 : 1 ≤ q := by
              by_cases hq0 : q = 0
              · subst hq0; rw [Nat.zero_mul] at hP; omega
              · omega
            have hmore : Q0 + 1 ≤ q := by
              obtain ⟨b1, b2, dy, b8, hQ1, hR1, hQ0, hR0⟩ := HN.out; have b9 : R1 < Y := by rw [hR1]; exact Nat.mod_lt _ (by omega)
              exact hb_more2 R1 y1 y0 u0 q r Y Q0 dy hQ0 HQ.out (by omega) (by rw [← hP]; omega)
            obtain ⟨p, rfl⟩ : ∃ p, q = p + 1 := ⟨q - 1, by omega⟩
            have HB : Hid (Q0 + 1 ≤ p + 1 ∧ p + 1 ≤ 4294967297 ∧ r < 4294967296) := ⟨hmore, hle, hr⟩
            have i1 : (p : Int) + 1 < 4294967296 := by omega
            have i3 : (r : Int) < 4294967296 := by omega
            have i4 : (y1 : Int) < 4294967296 := by omega
            have i5 : (u0 : Int) < 4294967296 := by omega
            have eP : IntKind.u64.wrap (((p : Int) + 1) * (y0 : Int)) = (P : Int) := by
              rw [show ((p : Int) + 1) = ((p + 1 : Nat) : Int) by omega, ← Int.natCast_mul, ← hP]; exact Mul64.wrapN P hPb
            clear c1 hmore hle hr hge hP hPb hq1
            rw [show ((p + 1 : Nat) : Int) = (p : Int) + 1 by omega]
            by_cases c2 : (4294967296 : Int) ≤ (r : Int) + (y1 : Int)
            · go_wp2
              go_meet
              case rel =>
                obtain ⟨b1, b2, dy, b8, hQ1, hR1, hQ0, hR0⟩ := HN.out; have b9 : R1 < Y := by rw [hR1]; exact Nat.mod_lt _ (by omega)
                exact ⟨by rw [hb_break R1 y1 y0 u0 p r Y Q0 dy hQ0 HQ.out HB.out.2.1 b3 (by omega) (by omega) HB.out.1], ⟨_, rfl⟩, rfl⟩
            · go_wp2
              go_round
              case rel => exact ⟨p, r + y1, rfl, by go_num, hb_step R1 y1 p r HQ.out, by have := HB.out.1; omega, by have := HB.out.2.1; omega, by omega⟩
              case measure => simp [RowKit.intOf] <;> omega
          · have HE : Hid (q = Q0) := by
              obtain ⟨b1, b2, dy, b8, hQ1, hR1, hQ0, hR0⟩ := HN.out; have b9 : R1 < Y := by rw [hR1]; exact Nat.mod_lt _ (by omega)
              exact hb_exit R1 y1 y0 u0 q r Y Q0 dy hQ0 HQ.out (by omega) (by rw [← hP]; omega) hge
            have eP : IntKind.u64.wrap ((q : Int) * (y0 : Int)) = (P : Int) := by
              rw [← Int.natCast_mul, ← hP]; exact Mul64.wrapN P hPb
            obtain ⟨z, hz⟩ : ∃ z : Int, z = (q : Int) := ⟨_, rfl⟩
            obtain ⟨x, hx⟩ : ∃ x : Int, x = (P : Int) := ⟨_, rfl⟩
            obtain ⟨v, hv⟩ : ∃ v : Int, v = (r : Int) := ⟨_, rfl⟩
            have HZ : Hid (z = (Q0 : Int)) := by rw [hz, HE.out]; rfl
            have i0 : 0 ≤ z := by omega
            have i1 : z < 4294967296 := by omega
            have i2 : 0 ≤ v := by omega
            have i3 : v < 4294967296 := by omega
            have i6 : x ≤ 4294967296 * v + (u0 : Int) := by omega
            rw [← hz, ← hx] at eP
            rw [← hz, ← hv]
            clear c1 c3 hle hr hge hP hPb HE hz hx hv
            go_wp2
            go_meet
            case rel => exact ⟨by rw [HZ.out], ⟨_, rfl⟩, rfl⟩
    case rest =>
      obtain ⟨rfl, ⟨rv2, rfl⟩, rfl⟩ := hcut
      have eQ : IntKind.u64.wrap (IntKind.u64.wrap ((Q1 : Int) * 4294967296) + (Q0 : Int)) = ((Q1 * 4294967296 + Q0 : Nat) : Int) := by
        obtain ⟨b1, b2, dy, b8, hQ1, hR1, hQ0, hR0⟩ := HN.out
        have b9 : R1 < Y := by rw [hR1]; exact Nat.mod_lt _ (by omega)
        have q1 : Q1 < 4294967296 := by rw [hQ1]; exact (Nat.div_lt_iff_lt_mul (by omega)).2 (by omega)
        have q0 : Q0 < 4294967296 := by rw [hQ0]; exact (Nat.div_lt_iff_lt_mul (by omega)).2 (by omega)
        rw [IntKind.wrap_u64, IntKind.wrap_u64]
        omega
      have eZ : IntKind.u64.wrap (IntKind.u64.wrap (IntKind.u64.wrap ((R1 : Int) * 4294967296) + (u0 : Int)) - IntKind.u64.wrap ((Q0 : Int) * (Y : Int))) = (R0 : Int) := by
        obtain ⟨b1, b2, dy, b8, hQ1, hR1, hQ0, hR0⟩ := HN.out
        have dm := Nat.div_add_mod (R1 * 4294967296 + u0) Y
        have b9 : R0 < Y := by rw [hR0]; exact Nat.mod_lt _ (by omega)
        rw [← hQ0, ← hR0, Nat.mul_comm] at dm
        rw [IntKind.wrap_u64, IntKind.wrap_u64, IntKind.wrap_u64, IntKind.wrap_u64, ← Int.natCast_mul]
        generalize Q0 * Y = Z at dm ⊢
        omega
      go_wp2
      rw [show ((Q1 : Int) * 4294967296 + (Q0 : Int)) = ((Q1 * 4294967296 + Q0 : Nat) : Int) by omega]
      go_ret2
      exact ⟨rfl, rfl⟩
end Lt
end Rg
end Go.Proofs.YtfnmahjdkmgdkaaDoor
end
section
namespace Go.Proofs.YtfnmahjdkmgdkaaDoor
open Go.RowKit
namespace Rg
namespace Lt
set_option maxHeartbeats 400000 in
theorem div64_zero (lo y : Nat) (h1 : 0 < y) (hl : lo < 18446744073709551616) (w : World) :
    Calls Tryd.prog 118 #[.int .u64 0, .int .u64 lo, .int .u64 y] w fun e w' => e = .returned (.tuple #[.int .u64 (lo / y : Nat), .int .u64 (lo % y : Nat)]) ∧ ∃ n, w' = w.drewN n := by
  have e1 : ((y : Int) == 0) = false := by simp; omega
  have e3 : (1 : Int) ≤ y := by omega
  have eq : Hid _ := quo_wrap lo y (lo / y) rfl (Nat.lt_of_le_of_lt (Nat.div_le_self _ _) hl)
  clear hl
  go_enter Tryd.func118, Tryd.ntmps118
  go_wp2
  go_quiet (fail)
  go_wp2
  rw [eq.out]
  go_ret2
  exact ⟨rfl, _, rfl⟩
theorem div64_any (hi lo y : Nat) (h1 : hi < y) (hy : y < 18446744073709551616) (hl : lo < 18446744073709551616) (w : World) :
    Calls Tryd.prog 118 #[.int .u64 hi, .int .u64 lo, .int .u64 y] w fun e w' => e = .returned (.tuple #[.int .u64 ((hi * 18446744073709551616 + lo) / y : Nat), .int .u64 ((hi * 18446744073709551616 + lo) % y : Nat)]) ∧ ∃ n, w' = w.drewN n := by
  by_cases h0 : hi = 0
  · subst h0
    rw [Nat.zero_mul, Nat.zero_add]
    exact div64_zero lo y (by omega) hl w
  · refine (div64_hi hi lo y h1 hy hl h0 w).mono ?_
    rintro e w' ⟨rfl, hw⟩
    exact ⟨rfl, 0, hw⟩
set_option maxHeartbeats 400000 in
theorem rem64_any (hi lo y : Nat) (h0 : 0 < y) (hy : y < 18446744073709551616) (hl : lo < 18446744073709551616) (w : World) :
    Calls Tryd.prog 122 #[.int .u64 hi, .int .u64 lo, .int .u64 y] w fun e w' => e = .returned (.int .u64 ((hi * 18446744073709551616 + lo) % y : Nat)) ∧ ∃ n, w' = w.drewN n := by
  have hc := fun w => div64_any (hi % y) lo y (Nat.mod_lt _ h0) hy hl w
  have er : (hi % y * 18446744073709551616 + lo) % y = (hi * 18446744073709551616 + lo) % y := by
    rw [Nat.add_mod, Nat.mul_mod, Nat.mod_mod, ← Nat.mul_mod, ← Nat.add_mod]
  rw [er] at hc
  generalize (hi * 18446744073709551616 + lo) % y = rr at hc ⊢
  generalize (hi % y * 18446744073709551616 + lo) / y = qq at hc
  have e3 : (1 : Int) ≤ y := by omega
  have HC : Hid _ := hc
  clear hc hl hy er h0
  go_enter Tryd.func122, Tryd.ntmps122
  go_wp2_with (go_at_call 118; refine (HC.out _).mono ?_; rintro e w' ⟨rfl, hb⟩)
  go_ret
  exact ⟨rfl, hb⟩
end Lt
end Rg
end Go.Proofs.YtfnmahjdkmgdkaaDoor
end
section
namespace Go.Proofs.YtfnmahjdkmgdkaaDoor
open Go.RowKit
namespace Rg
namespace Lt
abbrev U (n : Nat) : Value := .int .u64 (n : Int)
/-- A struct or an array, cell by cell. -/
abbrev V (l : List Value) : Value := .agg l.toArray
section
variable {ρ : Operand → Value} {o : Oper} {x y : Operand} {a b : Nat} {w : World}
theorem ex_addU (h : a + b < 18446744073709551616) (ho : o.op = .binOp .add 22 x y 22) (hx : ρ x = U a) (hy : ρ y = U b) : (execOp ρ o).run Tryd.prog w = .ok (.value (U (a + b))) w := by
  simp only [execOp, ho, hx, hy]
  clear ho hx hy
  go_simp
  rw [IntKind.wrap_u64]
  omega
theorem ex_subU (h : b ≤ a) (ha : a < 18446744073709551616) (ho : o.op = .binOp .sub 22 x y 22) (hx : ρ x = U a) (hy : ρ y = U b) : (execOp ρ o).run Tryd.prog w = .ok (.value (U (a - b))) w := by
  simp only [execOp, ho, hx, hy]
  clear ho hx hy
  go_simp
  rw [IntKind.wrap_u64]
  omega
theorem ex_remU (h : b ≠ 0) (ho : o.op = .binOp .rem 22 x y 22) (hx : ρ x = U a) (hy : ρ y = U b) : (execOp ρ o).run Tryd.prog w = .ok (.value (U (a % b))) w := by
  simp only [execOp, ho, hx, hy]
  clear ho hx hy
  go_simp
  rw [Int.tmod_eq_emod_of_nonneg (by omega)]
theorem ex_eqU (ho : o.op = .binOp .eql 22 x y 22) (hx : ρ x = U a) (hy : ρ y = U b) {t : Bool} (ht : decide (a = b) = t) : (execOp ρ o).run Tryd.prog w = .ok (.value (.bool t)) w := by
  subst ht
  simp only [execOp, ho, hx, hy]
  clear ho hx hy
  go_simp
  by_cases h : a = b <;> simp [h] <;> omega
theorem ex_shrU {k : Nat} (hk : k < 64) (ho : o.op = .binOp .shr 22 x y 3) (hx : ρ x = U a) (hy : ρ y = .int .i64 (k : Int)) : (execOp ρ o).run Tryd.prog w = .ok (.value (U (a / 2 ^ k))) w := by
  simp only [execOp, ho, hx, hy]
  clear ho hx hy
  have hs := shift_shr_any .u64 .i64 (a : Int) (k : Int) (by omega)
  have e : min ((k : Int).toNat) IntKind.u64.bits = k := by rw [Int.toNat_natCast]; show min k 64 = k; omega
  rw [e] at hs
  go_simp
theorem ex_and1 (ho : o.op = .binOp .and 22 x y 22) (ha : a < 18446744073709551616) (hx : ρ x = U a) (hy : ρ y = U 1) : (execOp ρ o).run Tryd.prog w = .ok (.value (U (a % 2))) w := by
  simp only [execOp, ho, hx, hy]
  clear ho hx hy
  have e := bits_and_u64_nat a 1 ha (by decide)
  rw [show a &&& 1 = a % 2 from Nat.and_one_is_mod a] at e
  go_simp
  exact e
end
end Lt
end Rg
end Go.Proofs.YtfnmahjdkmgdkaaDoor
end
section
namespace Go.Proofs.YtfnmahjdkmgdkaaDoor
open Go.RowKit
namespace Rg
namespace Lt
abbrev kd (p r c x y : Nat) : List Value := [U p, U r, U c, U x, U y, .bool false]
abbrev pt (x y : Nat) (z : Bool) : List Value := [U x, U y, .bool z]
abbrev tr (x y z : Nat) : List Value := [U x, U y, U z]
abbrev l2 (a b : Nat) : List Value := [U a, U b]
theorem ex_loadT {ρ : Operand → Value} {o : Oper} {x : Operand} {g off n : Nat} {t : TypeId} {cs ms : List Value} {w : World} {l : List (Nat × List Value)} (h : Mm w l) (q : Nat) (hk : l[q]? = some (g, cs)) (ho : o.op = .load t x) (hx : ρ x = PT g off) (ha : ∀ w, (isAgg t).run Tryd.prog w = .ok true w) (hs : ∀ w, (sizeOf t).run Tryd.prog w = .ok n w) (hc : (cs.drop off).take n = ms) (hl : ms.length = n) :
    (execOp ρ o).run Tryd.prog w = .ok (.value (.agg ms.toArray)) w := by
  have hm := List.mem_of_getElem? hk
  have hcell := run_loadCells_list (P := Tryd.prog) (w := w) ⟨g, off, none⟩ ms (fun j v hv => by
    have e : cs[off + j]? = some v := by
      rw [← List.getElem?_drop]
      rw [← hc, List.getElem?_take] at hv
      split at hv
      · exact hv
      · cases hv
    have e2 := h.cell hm e
    rw [show (⟨g, off, none⟩ : Addr).add j = ⟨g, off + j, none⟩ from by unfold Addr.add; split <;> simp_all]
    exact e2)
  rw [hl] at hcell
  have hf : (loadCellsFrom ⟨g, off, none⟩ 0 n #[]).run Tryd.prog w = .ok ms.toArray w := hcell
  clear hcell hc hk hm h
  simp only [execOp, ho, hx]
  go_simp
theorem ex_loadC {ρ : Operand → Value} {o : Oper} {x : Operand} {g off : Nat} {t : TypeId} {v : Value} {cs : List Value} {w : World} {l : List (Nat × List Value)} (h : Mm w l) (k : Nat) (hk : l[k]? = some (g, cs)) (ho : o.op = .load t x) (hx : ρ x = PT g off) (ha : ∀ w, (isAgg t).run Tryd.prog w = .ok false w) (hc : cs[off]? = some v) :
    (execOp ρ o).run Tryd.prog w = .ok (.value v) w := by
  have c0 := h.cell (List.mem_of_getElem? hk) hc
  clear h hk hc
  simp only [execOp, ho, hx]
  go_simp
theorem ex_boxT {ρ : Operand → Value} {o : Oper} {x : Operand} {t : TypeId} {cs : List Value} {w : World} (ho : o.op = .box t x) (hx : ρ x = .agg cs.toArray) :
    (execOp ρ o).run Tryd.prog w = .ok (.value (.pointer (some ⟨w.heap.size, 0, none⟩))) (w.alloc (.cells cs.toArray t)) := by
  simp only [execOp, ho, hx]
  go_simp
theorem ex_storeT {ρ : Operand → Value} {o : Oper} {x y : Operand} {g off : Nat} {t : TypeId} {cs vs : List Value} {w : World} {l : List (Nat × List Value)} (h : Mm w l) (q : Nat) (hk : l[q]? = some (g, cs)) (ho : o.op = .store t x y) (hx : ρ x = PT g off) (hy : ρ y = .agg vs.toArray) (hs : ∀ w, (sizeOf t).run Tryd.prog w = .ok vs.length w) (h1 : vs.all Value.oneCell' = true) (hb : off + vs.length ≤ cs.length) :
    (execOp ρ o).run Tryd.prog w = .ok .skip (w.setCells g off vs) := by
  have hm := List.mem_of_getElem? hk
  have hq : ∀ j, j < vs.length → ∃ u, cs[off + j]? = some u := fun j hj => ⟨_, List.getElem?_eq_getElem (by omega)⟩
  have hst := run_storeCells_cells (P := Tryd.prog) g off vs 0 w (fun j hj => by
    obtain ⟨u, hu⟩ := hq j hj
    rw [show off + 0 + j = off + j by omega, h.cell hm hu]; rfl) (fun j hj => by
    obtain ⟨u, hu⟩ := hq j hj
    rw [show off + 0 + j = off + j by omega]; exact h.free hm hu) (List.all_eq_true.1 h1)
  clear h hm hq hb hk
  simp only [execOp, ho, hx, hy]
  go_simp
theorem var_T {g n : Nat} {t : TypeId} {cs : List Value} {w : World} {l : List (Nat × List Value)} (h : Mm w l) (q : Nat) (hk : l[q]? = some (g, cs)) (ha : ∀ w, (isAgg t).run Tryd.prog w = .ok true w) (hs : ∀ w, (sizeOf t).run Tryd.prog w = .ok n w) (hn : cs.length = n) : (loadVar t ⟨g, 0, none⟩).run Tryd.prog w = .ok (.agg cs.toArray) w := by
  have hm := List.mem_of_getElem? hk
  have hcell := run_loadCells_list (P := Tryd.prog) (w := w) ⟨g, 0, none⟩ cs (fun j v hv => by
    have e2 := h.cell hm hv
    rw [show (⟨g, 0, none⟩ : Addr).add j = ⟨g, j, none⟩ from by unfold Addr.add; split <;> simp_all]
    exact e2)
  rw [hn] at hcell
  have hf : (loadCellsFrom ⟨g, 0, none⟩ 0 n #[]).run Tryd.prog w = .ok cs.toArray w := hcell
  clear hcell h hk hm
  simp only [loadVar]
  go_simp
theorem ex_laidT {ρ : Operand → Value} {o : Oper} {x y : Operand} {g : Nat} {t : TypeId} {zs cs : List Value} {w : World} (hb : Blk w g zs) (hl : zs.length = cs.length) (h1 : cs.all Value.oneCell' = true) (hs : ∀ w, (sizeOf t).run Tryd.prog w = .ok cs.length w) (ho : o.op = .store t x y) (hx : ρ x = .pointer (some ⟨g, 0, none⟩)) (hy : ρ y = .agg cs.toArray) :
    (execOp ρ o).run Tryd.prog w = .ok .skip (w.setCells g 0 cs) := by
  have hk : ∀ k, k < cs.length → ∃ u, zs[k]? = some u := fun k hk => ⟨_, List.getElem?_eq_getElem (by omega)⟩
  have hst := run_storeCells_cells (P := Tryd.prog) g 0 cs 0 w (fun k hkl => by
    obtain ⟨u, hu⟩ := hk k hkl
    rw [show 0 + 0 + k = k by omega, (hb k u hu).1]; rfl) (fun k hkl => by
    obtain ⟨u, hu⟩ := hk k hkl
    rw [show 0 + 0 + k = k by omega]; exact (hb k u hu).2) (List.all_eq_true.1 h1)
  clear hb hk h1 hl
  simp only [execOp, ho, hx, hy]
  go_simp
theorem ex_made72 {ρ : Operand → Value} {o : Oper} {w : World} (ho : o.op = .alloc 105) :
    (execOp ρ o).run Tryd.prog w = .ok (.value (.pointer (some ⟨w.heap.size, 0, none⟩))) (w.alloc (.cells (kd 0 0 0 0 0).toArray 105)) := by
  simp only [execOp, ho]
  go_simp
  rfl
theorem ex_made27 {ρ : Operand → Value} {o : Oper} {w : World} (ho : o.op = .alloc 77) :
    (execOp ρ o).run Tryd.prog w = .ok (.value (.pointer (some ⟨w.heap.size, 0, none⟩))) (w.alloc (.cells (kd 0 0 0 0 0).toArray 77)) := by
  simp only [execOp, ho]
  go_simp
  rfl
theorem ex_made49 {ρ : Operand → Value} {o : Oper} {w : World} (ho : o.op = .alloc 111) :
    (execOp ρ o).run Tryd.prog w = .ok (.value (.pointer (some ⟨w.heap.size, 0, none⟩))) (w.alloc (.cells (l2 0 0).toArray 111)) := by
  simp only [execOp, ho]
  go_simp
  rfl
theorem ex_build25_01 {ρ : Operand → Value} {o : Oper} {x0 x1 : Operand} {a0 : Nat} {a1 : Nat} {w : World} (ho : o.op = .build 64 #[(0, x0), (1, x1)]) (h0 : ρ x0 = U a0) (h1 : ρ x1 = U a1) : (execOp ρ o).run Tryd.prog w = .ok (.value (.agg (pt a0 a1 false).toArray)) w := by
  simp only [execOp, ho]
  go_simp
theorem ex_build49_01 {ρ : Operand → Value} {o : Oper} {x0 x1 : Operand} {a0 : Nat} {a1 : Nat} {w : World} (ho : o.op = .build 111 #[(0, x0), (1, x1)]) (h0 : ρ x0 = U a0) (h1 : ρ x1 = U a1) : (execOp ρ o).run Tryd.prog w = .ok (.value (.agg (l2 a0 a1).toArray)) w := by
  simp only [execOp, ho]
  go_simp
theorem ex_build72_ {ρ : Operand → Value} {o : Oper}  {w : World} (ho : o.op = .build 105 #[]) : (execOp ρ o).run Tryd.prog w = .ok (.value (.agg (kd 0 0 0 0 0).toArray)) w := by
  simp only [execOp, ho]
  go_simp
theorem ex_build72_0123 {ρ : Operand → Value} {o : Oper} {x0 x1 x2 x3 : Operand} {a0 : Nat} {a1 : Nat} {a2 : Nat} {gx gy : Nat} {w : World} (ho : o.op = .build 105 #[(0, x0), (1, x1), (2, x2), (3, x3)]) (h0 : ρ x0 = U a0) (h1 : ρ x1 = U a1) (h2 : ρ x2 = U a2) (h3 : ρ x3 = V (pt gx gy false)) : (execOp ρ o).run Tryd.prog w = .ok (.value (.agg (kd a0 a1 a2 gx gy).toArray)) w := by
  simp only [execOp, ho]
  go_simp
theorem ex_build27_0123 {ρ : Operand → Value} {o : Oper} {x0 x1 x2 x3 : Operand} {a0 : Nat} {a1 : Nat} {a2 : Nat} {gx gy : Nat} {w : World} (ho : o.op = .build 77 #[(0, x0), (1, x1), (2, x2), (3, x3)]) (h0 : ρ x0 = U a0) (h1 : ρ x1 = U a1) (h2 : ρ x2 = U a2) (h3 : ρ x3 = V (pt gx gy false)) : (execOp ρ o).run Tryd.prog w = .ok (.value (.agg (kd a0 a1 a2 gx gy).toArray)) w := by
  simp only [execOp, ho]
  go_simp
end Lt
end Rg
end Go.Proofs.YtfnmahjdkmgdkaaDoor
end
section
namespace Go.Proofs.YtfnmahjdkmgdkaaDoor
open Go.RowKit
namespace Rg
namespace Lt
/-- What is known of a prime here. -/
structure Pr (p : Nat) : Prop where
  lo : 8 < p
  hi : p < 1152921504606846976
def tm (p a b : Nat) : Nat := a * b % p
def pl (p a b : Nat) : Nat := (a + b) % p
def mi (p a b : Nat) : Nat := (a + p - b) % p
theorem tm_lt {p a b : Nat} (hp : Pr p) : tm p a b < p := Nat.mod_lt _ (by have := hp.lo; omega)
theorem pl_lt {p a b : Nat} (hp : Pr p) : pl p a b < p := Nat.mod_lt _ (by have := hp.lo; omega)
theorem mi_lt {p a b : Nat} (hp : Pr p) : mi p a b < p := Nat.mod_lt _ (by have := hp.lo; omega)
theorem zero_lt {p : Nat} (hp : Pr p) : 0 < p := by have := hp.lo; omega
theorem one_lt {p : Nat} (hp : Pr p) : 1 < p := by have := hp.lo; omega
theorem below_drew {w w' : World} (h : ∃ n, w' = w.drewN n) : Below w.heap.size w w' := by
  obtain ⟨n, rfl⟩ := h
  exact below_drewN (Below.refl _ _) n
theorem call122 : ∀ args w, (callFunc 122 args).run Tryd.prog w = .ok (.enter 122 args) w := by intro args w; go_simp
section
variable {p r c gx gy : Nat}
theorem mul_in (a b : Nat) (ha : a < 18446744073709551616) (hb : b < 18446744073709551616) (w : World) : Calls Tryd.prog 68 #[U a, U b] w fun e w' => e = .returned (.tuple #[U (a * b / 18446744073709551616), U (a * b % 18446744073709551616)]) ∧ Below w.heap.size w w' :=
  Calls.mono (mul64N a b ha hb w) (fun e w' h => ⟨h.1, by rw [h.2]; exact Below.refl _ _⟩)
theorem rem_in (hp : Pr p) (n : Nat) (w : World) : Calls Tryd.prog 122 #[U (n / 18446744073709551616), U (n % 18446744073709551616), U p] w fun e w' => e = .returned (U (n % p)) ∧ Below w.heap.size w w' := by
  have h := rem64_any (n / 18446744073709551616) (n % 18446744073709551616) p (zero_lt hp) (by have := hp.hi; omega) (Nat.mod_lt _ (by decide)) w
  rw [show n / 18446744073709551616 * 18446744073709551616 + n % 18446744073709551616 = n from Nat.div_add_mod' n _] at h
  exact Calls.mono h (fun e w' h => ⟨h.1, below_drew h.2⟩)
/-- X X X + X -/
def cb (p x : Nat) : Nat := tm p x (pl p (tm p x x) 1)
end
end Lt
end Rg
end Go.Proofs.YtfnmahjdkmgdkaaDoor
end
section
namespace Go.Proofs.YtfnmahjdkmgdkaaDoor
open Go.RowKit
namespace Rg
namespace Lt
def slotfn (l : List Value) (d : Nat) : Value := l.getD d undef
/-- A number's power, by p. -/
def pw (p a n : Nat) : Nat := a ^ n % p
def rb (p a : Nat) : Nat := pw p a ((p + 1) / 4)
def sq (p a : Nat) : Bool := decide (tm p (rb p a) (rb p a) = a)
section
variable {p r c gx gy : Nat}
end
end Lt
end Rg
end Go.Proofs.YtfnmahjdkmgdkaaDoor
end
section
namespace Go.Proofs.YtfnmahjdkmgdkaaDoor
open Go.RowKit
namespace Rg
namespace Lt
/-- Three numbers: a point (x / z z, y / z z z), of z 0 the zero. -/
abbrev T3 : Type := Nat × Nat × Nat
structure Lt3 (p : Nat) (t : T3) : Prop where
  x : t.1 < p
  y : t.2.1 < p
  z : t.2.2 < p
/-- The slope of a point and itself. -/
def tR (p x z : Nat) : Nat := pl p (tm p 3 (tm p x x)) (tm p (tm p z z) (tm p z z))
def tM (p x y : Nat) : Nat := tm p 4 (tm p x (tm p y y))
def tX (p x y z : Nat) : Nat := mi p (tm p (tR p x z) (tR p x z)) (pl p (tM p x y) (tM p x y))
def tY (p x y z : Nat) : Nat := mi p (tm p (tR p x z) (mi p (tM p x y) (tX p x y z))) (tm p 8 (tm p (tm p y y) (tm p y y)))
def twT (p : Nat) (t : T3) : T3 := (tX p t.1 t.2.1 t.2.2, tY p t.1 t.2.1 t.2.2, tm p 2 (tm p t.2.1 t.2.2))
/-- A point and a triple. -/
def jU (p x z X : Nat) : Nat := mi p (tm p X (tm p z z)) x
def jS (p y z Y : Nat) : Nat := mi p (tm p Y (tm p z (tm p z z))) y
def jC (p u : Nat) : Nat := tm p (tm p u u) u
def jM (p x u : Nat) : Nat := tm p x (tm p u u)
def jX (p x u s : Nat) : Nat := mi p (mi p (tm p s s) (jC p u)) (pl p (jM p x u) (jM p x u))
def jY (p x y u s : Nat) : Nat := mi p (tm p s (mi p (jM p x u) (jX p x u s))) (tm p y (jC p u))
def jnT (p : Nat) (t : T3) (X Y : Nat) (Z : Bool) : T3 :=
  if Z = true then t else if t.2.2 = 0 then (X, Y, 1) else if jU p t.1 t.2.2 X = 0 ∧ jS p t.2.1 t.2.2 Y = 0 then twT p t
  else (jX p t.1 (jU p t.1 t.2.2 X) (jS p t.2.1 t.2.2 Y), jY p t.1 t.2.1 (jU p t.1 t.2.2 X) (jS p t.2.1 t.2.2 Y), tm p t.2.2 (jU p t.1 t.2.2 X))
section
variable {p : Nat} {t : T3} {X Y : Nat}
end
theorem tw_lt {p : Nat} (hp : Pr p) (t : T3) : Lt3 p (twT p t) := ⟨mi_lt hp, mi_lt hp, tm_lt hp⟩
theorem jn_lt {p : Nat} (hp : Pr p) {t : T3} (ht : Lt3 p t) {X Y : Nat} {Z : Bool} (hX : X < p) (hY : Y < p) : Lt3 p (jnT p t X Y Z) := by
  unfold jnT
  split
  · exact ht
  · split
    · exact ⟨hX, hY, one_lt hp⟩
    · split
      · exact tw_lt hp t
      · exact ⟨mi_lt hp, mi_lt hp, tm_lt hp⟩
/-- A point multiplied. -/
def mtf (p X Y : Nat) (Z : Bool) : Nat → Nat → T3
  | 0, _ => (0, 0, 0)
  | f + 1, n => if n = 0 then (0, 0, 0) else if n % 2 = 1 then jnT p (twT p (mtf p X Y Z f (n / 2))) X Y Z else twT p (mtf p X Y Z f (n / 2))
def mt (p X Y : Nat) (Z : Bool) (n : Nat) : T3 := mtf p X Y Z 64 n
theorem mtf_lt {p : Nat} (hp : Pr p) {X Y : Nat} {Z : Bool} (hX : X < p) (hY : Y < p) : ∀ (f n : Nat), Lt3 p (mtf p X Y Z f n)
  | 0, _ => ⟨zero_lt hp, zero_lt hp, zero_lt hp⟩
  | f + 1, n => by
    rw [mtf]
    split
    · exact ⟨zero_lt hp, zero_lt hp, zero_lt hp⟩
    · split
      · exact jn_lt hp (tw_lt hp _) hX hY
      · exact tw_lt hp _
theorem mt_lt {p : Nat} (hp : Pr p) {X Y : Nat} {Z : Bool} (hX : X < p) (hY : Y < p) (n : Nat) : Lt3 p (mt p X Y Z n) := mtf_lt hp hX hY 64 n
section
variable {p r c gx gy : Nat}
set_option maxRecDepth 100000 in
theorem kindOf_1  (w : World) :
    Calls Tryd.prog 82 #[.int .i64 1] w fun e w' => e = .returned (.tuple #[V (kd 786251 65521 12 9723 164643), .int .i64 0]) ∧ Below w.heap.size w w' := by
  have H0 : Hid (_ ∧ _) := ⟨Mm.nil w, Below.refl w.heap.size w⟩
  go_enter Tryd.func82, Tryd.ntmps82
  refine wp_seq ?_
  refine walk_seqA 2 [.made (kd 0 0 0 0 0) 105, .quiet (.int .i64 0)] (sB H0) ?ho1 ?he1
  case ho1 => exact ak (fun γ => ⟨rfl, fun w' => ex_made72 rfl⟩) (ak (fun _ => ⟨rfl, fun _ _ => rfl⟩) trivial)
  intro γ w1 l hM hl
  have H1 : Hid (Mm w1 [(γ 0, kd 0 0 0 0 0)] ∧ _) := growB H0 hM (Nat.le_refl _) hl [0] rfl (by decide)
  have o1_0 := ownB H0 hM (Nat.le_refl _) hl (i := 0) rfl
  clear hM hl l
  generalize γ 0 = γ1_0 at H1 o1_0 ⊢
  clear γ
  refine rest0 rfl (then_normal (wp_seq (wp_seq ?_)))
  refine walk_seqB 1 [.quiet (.int .i64 1)] H1 ?ho2 ?he2
  case ho2 => exact ak (fun _ => ⟨rfl, fun _ _ => rfl⟩) trivial
  intro _ w2 H2
  clear H1
  refine rest0 rfl (then_normal (wp_block (wp_seq ?_)))
  refine walk_seqB 2 [.quiet (.bool true), .quiet (.bool true)] H2 ?ho3 ?he3
  case ho3 => exact ak (by refine fun γ => ⟨rfl, fun w' h => ?_⟩; clear h; go_simp) (ak (fun _ => ⟨rfl, fun _ _ => rfl⟩) trivial)
  intro _ w3 H3
  clear H2
  refine rest0 rfl (then_normal (wp_cond_true rfl (wp_seq ?_)))
  refine walk_seqB 2 [.quiet (.agg (pt 9723 164643 false).toArray), .quiet (.agg (kd 786251 65521 12 9723 164643).toArray)] H3 ?ho4 ?he4
  case ho4 => exact ak (fun γ => ⟨rfl, fun w' _ => ex_build25_01 rfl rfl rfl⟩) (ak (fun γ => ⟨rfl, fun w' _ => ex_build72_0123 rfl rfl rfl rfl rfl⟩) trivial)
  intro _ w4 H4
  clear H3
  refine rest_at (l := [2, 3]) rfl ?_
  refine rest_store rfl rfl rfl (ex_storeT (vs := kd 786251 65521 12 9723 164643) H4.out.1 0 rfl rfl rfl rfl Tryd.sizeOf105 rfl (Nat.le_of_ble_eq_true rfl)) ?_
  have H5 : Hid (Mm (w4.setCells γ1_0 0 (kd 786251 65521 12 9723 164643)) [(γ1_0, kd 786251 65521 12 9723 164643)] ∧ Below w.heap.size w (w4.setCells γ1_0 0 (kd 786251 65521 12 9723 164643))) := ⟨H4.out.1.put 0 (off := 0) (vs := kd 786251 65521 12 9723 164643) rfl (Nat.le_of_ble_eq_true rfl), below_setCells _ o1_0.out _ _ _ H4.out.2⟩
  clear H4
  generalize hgw : World.setCells _ _ _ _ = w5 at H5 ⊢
  clear hgw
  refine rest_set (d := 3) rfl rfl rfl rfl ?_
  simp only [Act.put, sa, sz, ss]
  refine rest_nil (then_normal (wp_ret ?_))
  repeat (first | refine then_ret ?_ | refine block_ret ?_)
  have hf0 := var_T H5.out.1 0 rfl Tryd.isAgg105 Tryd.sizeOf105 rfl
  refine bodyPost_ret (v := .tuple #[.agg (kd 786251 65521 12 9723 164643).toArray, .int .i64 0]) (by simp [results, Tryd.results82, asAddr, Act.eval, hf0]) rfl ?_
  exact ⟨rfl, H5.out.2⟩
set_option maxRecDepth 100000 in
theorem kindOf_2  (w : World) :
    Calls Tryd.prog 82 #[.int .i64 2] w fun e w' => e = .returned (.tuple #[V (kd 1152921504606846223 72057594037927889 16 613740293506734924 666621259561003659), .int .i64 0]) ∧ Below w.heap.size w w' := by
  have H0 : Hid (_ ∧ _) := ⟨Mm.nil w, Below.refl w.heap.size w⟩
  go_enter Tryd.func82, Tryd.ntmps82
  refine wp_seq ?_
  refine walk_seqA 2 [.made (kd 0 0 0 0 0) 105, .quiet (.int .i64 0)] (sB H0) ?ho1 ?he1
  case ho1 => exact ak (fun γ => ⟨rfl, fun w' => ex_made72 rfl⟩) (ak (fun _ => ⟨rfl, fun _ _ => rfl⟩) trivial)
  intro γ w1 l hM hl
  have H1 : Hid (Mm w1 [(γ 0, kd 0 0 0 0 0)] ∧ _) := growB H0 hM (Nat.le_refl _) hl [0] rfl (by decide)
  have o1_0 := ownB H0 hM (Nat.le_refl _) hl (i := 0) rfl
  clear hM hl l
  generalize γ 0 = γ1_0 at H1 o1_0 ⊢
  clear γ
  refine rest0 rfl (then_normal (wp_seq (wp_seq ?_)))
  refine walk_seqB 1 [.quiet (.int .i64 2)] H1 ?ho2 ?he2
  case ho2 => exact ak (fun _ => ⟨rfl, fun _ _ => rfl⟩) trivial
  intro _ w2 H2
  clear H1
  refine rest0 rfl (then_normal (wp_block (wp_seq ?_)))
  refine walk_seqB 2 [.quiet (.bool false), .quiet (.bool false)] H2 ?ho3 ?he3
  case ho3 => exact ak (by refine fun γ => ⟨rfl, fun w' h => ?_⟩; clear h; go_simp) (ak (fun _ => ⟨rfl, fun _ _ => rfl⟩) trivial)
  intro _ w3 H3
  clear H2
  refine rest0 rfl (then_normal (wp_cond_false rfl (wp_seq ?_)))
  refine walk_seqB 2 [.quiet (.bool true), .quiet (.bool true)] H3 ?ho4 ?he4
  case ho4 => exact ak (by refine fun γ => ⟨rfl, fun w' h => ?_⟩; clear h; go_simp) (ak (fun _ => ⟨rfl, fun _ _ => rfl⟩) trivial)
  intro _ w4 H4
  clear H3
  refine rest0 rfl (then_normal (wp_cond_true rfl (wp_seq ?_)))
  refine walk_seqB 2 [.quiet (.agg (pt 613740293506734924 666621259561003659 false).toArray), .quiet (.agg (kd 1152921504606846223 72057594037927889 16 613740293506734924 666621259561003659).toArray)] H4 ?ho5 ?he5
  case ho5 => exact ak (fun γ => ⟨rfl, fun w' _ => ex_build25_01 rfl rfl rfl⟩) (ak (fun γ => ⟨rfl, fun w' _ => ex_build72_0123 rfl rfl rfl rfl rfl⟩) trivial)
  intro _ w5 H5
  clear H4
  refine rest_at (l := [2, 3]) rfl ?_
  refine rest_store rfl rfl rfl (ex_storeT (vs := kd 1152921504606846223 72057594037927889 16 613740293506734924 666621259561003659) H5.out.1 0 rfl rfl rfl rfl Tryd.sizeOf105 rfl (Nat.le_of_ble_eq_true rfl)) ?_
  have H6 : Hid (Mm (w5.setCells γ1_0 0 (kd 1152921504606846223 72057594037927889 16 613740293506734924 666621259561003659)) [(γ1_0, kd 1152921504606846223 72057594037927889 16 613740293506734924 666621259561003659)] ∧ Below w.heap.size w (w5.setCells γ1_0 0 (kd 1152921504606846223 72057594037927889 16 613740293506734924 666621259561003659))) := ⟨H5.out.1.put 0 (off := 0) (vs := kd 1152921504606846223 72057594037927889 16 613740293506734924 666621259561003659) rfl (Nat.le_of_ble_eq_true rfl), below_setCells _ o1_0.out _ _ _ H5.out.2⟩
  clear H5
  generalize hgw : World.setCells _ _ _ _ = w6 at H6 ⊢
  clear hgw
  refine rest_set (d := 3) rfl rfl rfl rfl ?_
  simp only [Act.put, sa, sz, ss]
  refine rest_nil (then_normal (wp_ret ?_))
  repeat (first | refine then_ret ?_ | refine block_ret ?_)
  have hf0 := var_T H6.out.1 0 rfl Tryd.isAgg105 Tryd.sizeOf105 rfl
  refine bodyPost_ret (v := .tuple #[.agg (kd 1152921504606846223 72057594037927889 16 613740293506734924 666621259561003659).toArray, .int .i64 0]) (by simp [results, Tryd.results82, asAddr, Act.eval, hf0]) rfl ?_
  exact ⟨rfl, H6.out.2⟩
set_option maxRecDepth 100000 in
theorem kindOf_no (s : Int) (h1 : s ≠ 1) (h2 : s ≠ 2) (w : World) :
    Calls Tryd.prog 82 #[.int .i64 s] w fun e w' => e = .returned (.tuple #[V (kd 0 0 0 0 0), .int .i64 2]) ∧ Below w.heap.size w w' := by
  have H0 : Hid (_ ∧ _) := ⟨Mm.nil w, Below.refl w.heap.size w⟩
  go_enter Tryd.func82, Tryd.ntmps82
  refine wp_seq ?_
  refine walk_seqA 2 [.made (kd 0 0 0 0 0) 105, .quiet (.int .i64 0)] (sB H0) ?ho1 ?he1
  case ho1 => exact ak (fun γ => ⟨rfl, fun w' => ex_made72 rfl⟩) (ak (fun _ => ⟨rfl, fun _ _ => rfl⟩) trivial)
  intro γ w1 l hM hl
  have H1 : Hid (Mm w1 [(γ 0, kd 0 0 0 0 0)] ∧ _) := growB H0 hM (Nat.le_refl _) hl [0] rfl (by decide)
  have o1_0 := ownB H0 hM (Nat.le_refl _) hl (i := 0) rfl
  clear hM hl l
  generalize γ 0 = γ1_0 at H1 o1_0 ⊢
  clear γ
  refine rest0 rfl (then_normal (wp_seq (wp_seq ?_)))
  refine walk_seqB 1 [.quiet (.int .i64 s)] H1 ?ho2 ?he2
  case ho2 => exact ak (fun _ => ⟨rfl, fun _ _ => rfl⟩) trivial
  intro _ w2 H2
  clear H1
  refine rest0 rfl (then_normal (wp_block (wp_seq ?_)))
  refine walk_seqB 2 [.quiet (.bool false), .quiet (.bool false)] H2 ?ho3 ?he3
  case ho3 => exact ak (by refine fun γ => ⟨rfl, fun w' h => ?_⟩; clear h; go_simp) (ak (fun _ => ⟨rfl, fun _ _ => rfl⟩) trivial)
  intro _ w3 H3
  clear H2
  refine rest0 rfl (then_normal (wp_cond_false rfl (wp_seq ?_)))
  refine walk_seqB 2 [.quiet (.bool false), .quiet (.bool false)] H3 ?ho4 ?he4
  case ho4 => exact ak (by refine fun γ => ⟨rfl, fun w' h => ?_⟩; clear h; go_simp) (ak (fun _ => ⟨rfl, fun _ _ => rfl⟩) trivial)
  intro _ w4 H4
  clear H3
  refine rest0 rfl (then_normal (wp_cond_false rfl ?_))
  refine wp_skip (block_normal ?_)
  refine then_normal (wp_seq ?_)
  refine walk_seqB 1 [.quiet (.agg (kd 0 0 0 0 0).toArray)] H4 ?ho5 ?he5
  case ho5 => exact ak (fun γ => ⟨rfl, fun w' _ => ex_build72_ rfl⟩) trivial
  intro _ w5 H5
  clear H4
  refine rest_at (l := [1, 2]) rfl ?_
  refine rest_store rfl rfl rfl (ex_storeT (vs := kd 0 0 0 0 0) H5.out.1 0 rfl rfl rfl rfl Tryd.sizeOf105 rfl (Nat.le_of_ble_eq_true rfl)) ?_
  have H6 : Hid (Mm (w5.setCells γ1_0 0 (kd 0 0 0 0 0)) [(γ1_0, kd 0 0 0 0 0)] ∧ Below w.heap.size w (w5.setCells γ1_0 0 (kd 0 0 0 0 0))) := ⟨H5.out.1.put 0 (off := 0) (vs := kd 0 0 0 0 0) rfl (Nat.le_of_ble_eq_true rfl), below_setCells _ o1_0.out _ _ _ H5.out.2⟩
  clear H5
  generalize hgw : World.setCells _ _ _ _ = w6 at H6 ⊢
  clear hgw
  refine rest_set (d := 3) rfl rfl rfl rfl ?_
  simp only [Act.put, sa, sz, ss]
  refine rest_nil (then_normal (wp_ret ?_))
  repeat (first | refine then_ret ?_ | refine block_ret ?_)
  have hf0 := var_T H6.out.1 0 rfl Tryd.isAgg105 Tryd.sizeOf105 rfl
  refine bodyPost_ret (v := .tuple #[.agg (kd 0 0 0 0 0).toArray, .int .i64 2]) (by simp [results, Tryd.results82, asAddr, Act.eval, hf0]) rfl ?_
  exact ⟨rfl, H6.out.2⟩
end
end Lt
end Rg
end Go.Proofs.YtfnmahjdkmgdkaaDoor
end
section
namespace Go.Proofs.YtfnmahjdkmgdkaaDoor
open Go.RowKit
namespace Rg
namespace Lt
section
variable {p r c gx gy : Nat}
end
end Lt
end Rg
end Go.Proofs.YtfnmahjdkmgdkaaDoor
end
