/- The functions of a modulus that nobody made -/
import Derived.Test.YtkfannhbnbgloaaDoorM14
namespace Go.Proofs.YtkfannhbnbgloaaDoor
open Go.RowKit
namespace Rg
abbrev zero19 : List Value := [.int .u64 0, .int .u64 0, .int .u64 0, .int .u64 0, .int .u64 0, .int .u64 0, .int .u64 0, .int .u64 0, .int .u64 0, .int .u64 0, .int .u64 0, .int .u64 0, .int .u64 0, .int .u64 0, .int .u64 0, .int .u64 0, .int .u64 0, .int .u64 0, .int .u64 0]
set_option maxRecDepth 100000 in
theorem made_zero (g : Nat) (w : World) (hm : Mm w [(g, zero19)]) :
    Calls Tryd.prog 39 #[PT g 0] w fun e w' => e = .returned (.bool false) ∧ Below w.heap.size w w' := by
  have H0 : Hid (_ ∧ _) := ⟨hm, Below.refl w.heap.size w⟩
  clear hm
  go_enter Tryd.func39, Tryd.ntmps39
  refine wp_seq ?_
  refine walk_seq 1 [.quiet (.bool false)] (fun w' => Mm w' [(g, zero19)]) ?pre1 ?F1 ?hpre1 (fun γ => ?hF1) (by kernel_rfl) ?hL1 ?hS1 ?ho1 ?he1
  case hpre1 =>
    simp only [List.take_succ_cons, List.take_zero]
    exact rfl
  case hF1 =>
    simp only [fill, Kind.val, Act.put, List.setIfInBounds_toArray, List.set_cons_zero, List.set_cons_succ]
    exact rfl
  case hL1 => exact trivial
  case hS1 => exact fun w' hb => H0.out.1.below hb
  case ho1 =>
    refine AllOk.cons ?_ ?_
    · exact fun γ => ⟨rfl, fun w' _ => rfl⟩
    exact trivial
  intro γ w1 l hM hl
  have M1 : Mm w1 [(g, zero19)] := H0.out.1.grow hM (Nat.le_refl _) hl [] rfl (by decide)
  have B1 : Below w.heap.size w w1 := H0.out.2.trans (hM.below.mono H0.out.2.size)
  clear hM hl l
  clear γ
  have H1 : Hid (_ ∧ _) := ⟨M1, B1⟩
  clear M1 B1
  refine rest_at (l := []) rfl ?_
  refine rest_nil ?_
  refine then_normal ?_
  refine wp_seq ?_
  refine walk_seq 11 [.quiet (PT g 0), .quiet (.bool true), .quiet (.bool true), .quiet (PT g 0), .quiet (PT g 0), .quiet (PT g 0), .quiet (PT g 0), .quiet (.int .u64 0), .quiet (.bool false), .quiet (.bool false), .quiet (.bool false)] (fun w' => Mm w' [(g, zero19)]) ?pre2 ?F2 ?hpre2 (fun γ => ?hF2) (by kernel_rfl) ?hL2 ?hS2 ?ho2 ?he2
  case hpre2 =>
    simp only [List.take_succ_cons, List.take_zero]
    exact rfl
  case hF2 =>
    simp only [fill, Kind.val, Act.put, List.setIfInBounds_toArray, List.set_cons_zero, List.set_cons_succ]
    exact rfl
  case hL2 => exact trivial
  case hS2 => exact fun w' hb => H1.out.1.below hb
  case ho2 =>
    refine AllOk.cons ?_ ?_
    · exact fun γ => ⟨rfl, fun w' _ => rfl⟩
    refine AllOk.cons ?_ ?_
    · (refine fun γ => ⟨rfl, fun w' h => ?_⟩; clear h; go_simp)
    refine AllOk.cons ?_ ?_
    · exact fun γ => ⟨rfl, fun w' _ => rfl⟩
    refine AllOk.cons ?_ ?_
    · exact fun γ => ⟨rfl, fun w' _ => rfl⟩
    refine AllOk.cons ?_ ?_
    · (refine fun γ => ⟨rfl, fun w' h => ?_⟩; clear h; go_simp)
    refine AllOk.cons ?_ ?_
    · (refine fun γ => ⟨rfl, fun w' h => ?_⟩; clear h; go_simp)
    refine AllOk.cons ?_ ?_
    · (refine fun γ => ⟨rfl, fun w' h => ?_⟩; clear h; go_simp)
    refine AllOk.cons ?_ ?_
    · exact fun γ => ⟨rfl, fun w' h => ex_load1 h 0 rfl rfl rfl rfl⟩
    refine AllOk.cons ?_ ?_
    · (refine fun γ => ⟨rfl, fun w' h => ?_⟩; clear h; go_simp)
    refine AllOk.cons ?_ ?_
    · (refine fun γ => ⟨rfl, fun w' h => ?_⟩; clear h; go_simp)
    refine AllOk.cons ?_ ?_
    · exact fun γ => ⟨rfl, fun w' _ => rfl⟩
    exact trivial
  intro γ w2 l hM hl
  have M2 : Mm w2 [(g, zero19)] := H1.out.1.grow hM (Nat.le_refl _) hl [] rfl (by decide)
  have B2 : Below w.heap.size w w2 := H1.out.2.trans (hM.below.mono H1.out.2.size)
  clear hM hl l H1
  clear γ
  have H2 : Hid (_ ∧ _) := ⟨M2, B2⟩
  clear M2 B2
  refine rest_at (l := []) rfl ?_
  refine rest_nil ?_
  refine then_normal ?_
  refine wp_ret ?_
  repeat (first | refine then_ret ?_ | refine block_ret ?_)
  refine bodyPost_ret (v := .bool false) (by simp [results, Tryd.results39, go_sem, *]) rfl ?_
  exact ⟨rfl, H2.out.2⟩
set_option maxRecDepth 100000 in
theorem n_nil  (w : World) :
    Calls Tryd.prog 10 #[.pointer none] w fun e w' => e = .returned (N 0) ∧ Below w.heap.size w w' := by
  have H0 : Hid (_ ∧ _) := ⟨Mm.nil w, Below.refl w.heap.size w⟩
  have CM : Hid _ := made_nil
  go_enter Tryd.func10, Tryd.ntmps10
  refine wp_seq ?_
  refine walk_seq 1 [.made zero6 24] (fun w' => Mm w' []) ?pre1 ?F1 ?hpre1 (fun γ => ?hF1) (by kernel_rfl) ?hL1 ?hS1 ?ho1 ?he1
  case hpre1 =>
    simp only [List.take_succ_cons, List.take_zero]
    exact rfl
  case hF1 =>
    simp only [fill, Kind.val, Act.put, List.setIfInBounds_toArray, List.set_cons_zero, List.set_cons_succ]
    exact rfl
  case hL1 => exact trivial
  case hS1 => exact fun w' hb => H0.out.1.below hb
  case ho1 =>
    refine AllOk.cons ?_ ?_
    · exact fun γ => ⟨rfl, fun w' => exec_made6 rfl⟩
    exact trivial
  intro γ w1 l hM hl
  have M1 : Mm w1 [(γ 0, zero6)] := H0.out.1.grow hM (Nat.le_refl _) hl [0] rfl (by decide)
  have B1 : Below w.heap.size w w1 := H0.out.2.trans (hM.below.mono H0.out.2.size)
  have o1_0 : Hid (w.heap.size ≤ γ 0) := Nat.le_trans H0.out.2.size (hM.fin (Nat.le_refl _) hl (i := 0) rfl).2.1
  clear hM hl l
  generalize γ 0 = γ1_0 at M1 o1_0 ⊢
  clear γ
  have H1 : Hid (_ ∧ _) := ⟨M1, B1⟩
  clear M1 B1
  refine rest_at (l := []) rfl ?_
  refine rest_nil ?_
  refine then_normal ?_
  refine wp_seq ?_
  refine wp_seq ?_
  refine walk_seq 3 [.quiet (.pointer none), .call (.bool false), .quiet (.bool true)] (fun w' => Mm w' [(γ1_0, zero6)]) ?pre2 ?F2 ?hpre2 (fun γ => ?hF2) (by kernel_rfl) ?hL2 ?hS2 ?ho2 ?he2
  case hpre2 =>
    simp only [List.take_succ_cons, List.take_zero]
    exact rfl
  case hF2 =>
    simp only [fill, Kind.val, Act.put, List.setIfInBounds_toArray, List.set_cons_zero, List.set_cons_succ]
    exact rfl
  case hL2 => exact trivial
  case hS2 => exact fun w' hb => H1.out.1.below hb
  case ho2 =>
    refine AllOk.cons ?_ ?_
    · exact fun γ => ⟨rfl, fun w' _ => rfl⟩
    refine AllOk.cons ?_ ?_
    · exact fun γ => ⟨rfl, fun w' h => ⟨39, #[.pointer none], exec_call rfl call39 rfl (by simp only [List.map_toArray, List.map_cons, List.map_nil]; rfl), CM.out w'⟩⟩
    refine AllOk.cons ?_ ?_
    · (refine fun γ => ⟨rfl, fun w' h => ?_⟩; clear h; go_simp)
    exact trivial
  intro γ w2 l hM hl
  have M2 : Mm w2 [(γ1_0, zero6)] := H1.out.1.grow hM (Nat.le_refl _) hl [] rfl (by decide)
  have B2 : Below w.heap.size w w2 := H1.out.2.trans (hM.below.mono H1.out.2.size)
  clear hM hl l H1
  clear γ
  have H2 : Hid (_ ∧ _) := ⟨M2, B2⟩
  clear M2 B2
  refine rest_at (l := []) rfl ?_
  refine rest_nil ?_
  refine then_normal ?_
  refine wp_cond_true rfl ?_
  refine wp_seq ?_
  refine walk_seq 1 [.quiet (N 0)] (fun w' => Mm w' [(γ1_0, zero6)]) ?pre3 ?F3 ?hpre3 (fun γ => ?hF3) (by kernel_rfl) ?hL3 ?hS3 ?ho3 ?he3
  case hpre3 =>
    simp only [List.take_succ_cons, List.take_zero]
    exact rfl
  case hF3 =>
    simp only [fill, Kind.val, Act.put, List.setIfInBounds_toArray, List.set_cons_zero, List.set_cons_succ]
    exact rfl
  case hL3 => exact trivial
  case hS3 => exact fun w' hb => H2.out.1.below hb
  case ho3 =>
    refine AllOk.cons ?_ ?_
    · (refine fun γ => ⟨rfl, fun w' h => ?_⟩; clear h; exact ex_zero6 rfl)
    exact trivial
  intro γ w3 l hM hl
  have M3 : Mm w3 [(γ1_0, zero6)] := H2.out.1.grow hM (Nat.le_refl _) hl [] rfl (by decide)
  have B3 : Below w.heap.size w w3 := H2.out.2.trans (hM.below.mono H2.out.2.size)
  clear hM hl l H2
  clear γ
  have H3 : Hid (_ ∧ _) := ⟨M3, B3⟩
  clear M3 B3
  refine rest_at (l := [1]) rfl ?_
  refine rest_store rfl rfl rfl (ex_store6 H3.out.1 0 rfl rfl rfl rfl (Nat.le_of_ble_eq_true rfl)) ?_
  have H4 : Hid (Mm (w3.setCells γ1_0 0 (cells6 0)) [(γ1_0, cells6 0)] ∧ Below w.heap.size w (w3.setCells γ1_0 0 (cells6 0))) := ⟨H3.out.1.put 0 (off := 0) (vs := cells6 0) rfl (Nat.le_of_ble_eq_true rfl), below_setCells _ o1_0.out _ _ _ H3.out.2⟩
  clear H3
  generalize hgw : World.setCells _ _ _ _ = w4 at H4 ⊢
  clear hgw
  refine rest_nil ?_
  refine then_normal ?_
  refine wp_ret ?_
  repeat (first | refine then_ret ?_ | refine block_ret ?_)
  have c0 := H4.out.1.get 0 rfl 0 rfl
  have c1 := H4.out.1.get 0 rfl 1 rfl
  have c2 := H4.out.1.get 0 rfl 2 rfl
  have c3 := H4.out.1.get 0 rfl 3 rfl
  have c4 := H4.out.1.get 0 rfl 4 rfl
  have c5 := H4.out.1.get 0 rfl 5 rfl
  refine bodyPost_ret (v := N 0) (by simp [results, Tryd.results10, go_sem, *]) rfl ?_
  exact ⟨rfl, H4.out.2⟩
set_option maxRecDepth 100000 in
theorem reduce_nil (a : Nat) (w : World) :
    Calls Tryd.prog 11 #[.pointer none, N a] w fun e w' => e = .returned (N 0) ∧ Below w.heap.size w w' := by
  have H0 : Hid (_ ∧ _) := ⟨Mm.nil w, Below.refl w.heap.size w⟩
  have CM : Hid _ := made_nil
  go_enter Tryd.func11, Tryd.ntmps11
  refine wp_seq ?_
  refine walk_seq 2 [.made (cells6 a) 24, .made zero6 24] (fun w' => Mm w' []) ?pre1 ?F1 ?hpre1 (fun γ => ?hF1) (by kernel_rfl) ?hL1 ?hS1 ?ho1 ?he1
  case hpre1 =>
    simp only [List.take_succ_cons, List.take_zero]
    exact rfl
  case hF1 =>
    simp only [fill, Kind.val, Act.put, List.setIfInBounds_toArray, List.set_cons_zero, List.set_cons_succ]
    exact rfl
  case hL1 => exact trivial
  case hS1 => exact fun w' hb => H0.out.1.below hb
  case ho1 =>
    refine AllOk.cons ?_ ?_
    · exact fun γ => ⟨rfl, fun w' => ex_box6 rfl rfl⟩
    refine AllOk.cons ?_ ?_
    · exact fun γ => ⟨rfl, fun w' => exec_made6 rfl⟩
    exact trivial
  intro γ w1 l hM hl
  have M1 : Mm w1 [(γ 0, cells6 a), (γ 1, zero6)] := H0.out.1.grow hM (Nat.le_refl _) hl [0, 1] rfl (by decide)
  have B1 : Below w.heap.size w w1 := H0.out.2.trans (hM.below.mono H0.out.2.size)
  have o1_0 : Hid (w.heap.size ≤ γ 0) := Nat.le_trans H0.out.2.size (hM.fin (Nat.le_refl _) hl (i := 0) rfl).2.1
  have o1_1 : Hid (w.heap.size ≤ γ 1) := Nat.le_trans H0.out.2.size (hM.fin (Nat.le_refl _) hl (i := 1) rfl).2.1
  clear hM hl l
  generalize γ 0 = γ1_0 at M1 o1_0 ⊢
  generalize γ 1 = γ1_1 at M1 o1_1 ⊢
  clear γ
  have H1 : Hid (_ ∧ _) := ⟨M1, B1⟩
  clear M1 B1
  refine rest_at (l := []) rfl ?_
  refine rest_nil ?_
  refine then_normal ?_
  refine wp_seq ?_
  refine wp_seq ?_
  refine walk_seq 3 [.quiet (.pointer none), .call (.bool false), .quiet (.bool true)] (fun w' => Mm w' [(γ1_0, cells6 a), (γ1_1, zero6)]) ?pre2 ?F2 ?hpre2 (fun γ => ?hF2) (by kernel_rfl) ?hL2 ?hS2 ?ho2 ?he2
  case hpre2 =>
    simp only [List.take_succ_cons, List.take_zero]
    exact rfl
  case hF2 =>
    simp only [fill, Kind.val, Act.put, List.setIfInBounds_toArray, List.set_cons_zero, List.set_cons_succ]
    exact rfl
  case hL2 => exact trivial
  case hS2 => exact fun w' hb => H1.out.1.below hb
  case ho2 =>
    refine AllOk.cons ?_ ?_
    · exact fun γ => ⟨rfl, fun w' _ => rfl⟩
    refine AllOk.cons ?_ ?_
    · exact fun γ => ⟨rfl, fun w' h => ⟨39, #[.pointer none], exec_call rfl call39 rfl (by simp only [List.map_toArray, List.map_cons, List.map_nil]; rfl), CM.out w'⟩⟩
    refine AllOk.cons ?_ ?_
    · (refine fun γ => ⟨rfl, fun w' h => ?_⟩; clear h; go_simp)
    exact trivial
  intro γ w2 l hM hl
  have M2 : Mm w2 [(γ1_0, cells6 a), (γ1_1, zero6)] := H1.out.1.grow hM (Nat.le_refl _) hl [] rfl (by decide)
  have B2 : Below w.heap.size w w2 := H1.out.2.trans (hM.below.mono H1.out.2.size)
  clear hM hl l H1
  clear γ
  have H2 : Hid (_ ∧ _) := ⟨M2, B2⟩
  clear M2 B2
  refine rest_at (l := []) rfl ?_
  refine rest_nil ?_
  refine then_normal ?_
  refine wp_cond_true rfl ?_
  refine wp_seq ?_
  refine walk_seq 1 [.quiet (N 0)] (fun w' => Mm w' [(γ1_0, cells6 a), (γ1_1, zero6)]) ?pre3 ?F3 ?hpre3 (fun γ => ?hF3) (by kernel_rfl) ?hL3 ?hS3 ?ho3 ?he3
  case hpre3 =>
    simp only [List.take_succ_cons, List.take_zero]
    exact rfl
  case hF3 =>
    simp only [fill, Kind.val, Act.put, List.setIfInBounds_toArray, List.set_cons_zero, List.set_cons_succ]
    exact rfl
  case hL3 => exact trivial
  case hS3 => exact fun w' hb => H2.out.1.below hb
  case ho3 =>
    refine AllOk.cons ?_ ?_
    · (refine fun γ => ⟨rfl, fun w' h => ?_⟩; clear h; exact ex_zero6 rfl)
    exact trivial
  intro γ w3 l hM hl
  have M3 : Mm w3 [(γ1_0, cells6 a), (γ1_1, zero6)] := H2.out.1.grow hM (Nat.le_refl _) hl [] rfl (by decide)
  have B3 : Below w.heap.size w w3 := H2.out.2.trans (hM.below.mono H2.out.2.size)
  clear hM hl l H2
  clear γ
  have H3 : Hid (_ ∧ _) := ⟨M3, B3⟩
  clear M3 B3
  refine rest_at (l := [1]) rfl ?_
  refine rest_store rfl rfl rfl (ex_store6 H3.out.1 1 rfl rfl rfl rfl (Nat.le_of_ble_eq_true rfl)) ?_
  have H4 : Hid (Mm (w3.setCells γ1_1 0 (cells6 0)) [(γ1_0, cells6 a), (γ1_1, cells6 0)] ∧ Below w.heap.size w (w3.setCells γ1_1 0 (cells6 0))) := ⟨H3.out.1.put 1 (off := 0) (vs := cells6 0) rfl (Nat.le_of_ble_eq_true rfl), below_setCells _ o1_1.out _ _ _ H3.out.2⟩
  clear H3
  generalize hgw : World.setCells _ _ _ _ = w4 at H4 ⊢
  clear hgw
  refine rest_nil ?_
  refine then_normal ?_
  refine wp_ret ?_
  repeat (first | refine then_ret ?_ | refine block_ret ?_)
  have c0 := H4.out.1.get 1 rfl 0 rfl
  have c1 := H4.out.1.get 1 rfl 1 rfl
  have c2 := H4.out.1.get 1 rfl 2 rfl
  have c3 := H4.out.1.get 1 rfl 3 rfl
  have c4 := H4.out.1.get 1 rfl 4 rfl
  have c5 := H4.out.1.get 1 rfl 5 rfl
  refine bodyPost_ret (v := N 0) (by simp [results, Tryd.results11, go_sem, *]) rfl ?_
  exact ⟨rfl, H4.out.2⟩
set_option maxRecDepth 100000 in
theorem wide_nil (a b : Nat) (w : World) :
    Calls Tryd.prog 13 #[.pointer none, N a, N b] w fun e w' => e = .returned (N 0) ∧ Below w.heap.size w w' := by
  have H0 : Hid (_ ∧ _) := ⟨Mm.nil w, Below.refl w.heap.size w⟩
  have CM : Hid _ := made_nil
  go_enter Tryd.func13, Tryd.ntmps13
  refine wp_seq ?_
  refine walk_seq 3 [.made (cells6 a) 24, .made (cells6 b) 24, .made zero6 24] (fun w' => Mm w' []) ?pre1 ?F1 ?hpre1 (fun γ => ?hF1) (by kernel_rfl) ?hL1 ?hS1 ?ho1 ?he1
  case hpre1 =>
    simp only [List.take_succ_cons, List.take_zero]
    exact rfl
  case hF1 =>
    simp only [fill, Kind.val, Act.put, List.setIfInBounds_toArray, List.set_cons_zero, List.set_cons_succ]
    exact rfl
  case hL1 => exact trivial
  case hS1 => exact fun w' hb => H0.out.1.below hb
  case ho1 =>
    refine AllOk.cons ?_ ?_
    · exact fun γ => ⟨rfl, fun w' => ex_box6 rfl rfl⟩
    refine AllOk.cons ?_ ?_
    · exact fun γ => ⟨rfl, fun w' => ex_box6 rfl rfl⟩
    refine AllOk.cons ?_ ?_
    · exact fun γ => ⟨rfl, fun w' => exec_made6 rfl⟩
    exact trivial
  intro γ w1 l hM hl
  have M1 : Mm w1 [(γ 0, cells6 a), (γ 1, cells6 b), (γ 2, zero6)] := H0.out.1.grow hM (Nat.le_refl _) hl [0, 1, 2] rfl (by decide)
  have B1 : Below w.heap.size w w1 := H0.out.2.trans (hM.below.mono H0.out.2.size)
  have o1_0 : Hid (w.heap.size ≤ γ 0) := Nat.le_trans H0.out.2.size (hM.fin (Nat.le_refl _) hl (i := 0) rfl).2.1
  have o1_1 : Hid (w.heap.size ≤ γ 1) := Nat.le_trans H0.out.2.size (hM.fin (Nat.le_refl _) hl (i := 1) rfl).2.1
  have o1_2 : Hid (w.heap.size ≤ γ 2) := Nat.le_trans H0.out.2.size (hM.fin (Nat.le_refl _) hl (i := 2) rfl).2.1
  clear hM hl l
  generalize γ 0 = γ1_0 at M1 o1_0 ⊢
  generalize γ 1 = γ1_1 at M1 o1_1 ⊢
  generalize γ 2 = γ1_2 at M1 o1_2 ⊢
  clear γ
  have H1 : Hid (_ ∧ _) := ⟨M1, B1⟩
  clear M1 B1
  refine rest_at (l := []) rfl ?_
  refine rest_nil ?_
  refine then_normal ?_
  refine wp_seq ?_
  refine wp_seq ?_
  refine walk_seq 3 [.quiet (.pointer none), .call (.bool false), .quiet (.bool true)] (fun w' => Mm w' [(γ1_0, cells6 a), (γ1_1, cells6 b), (γ1_2, zero6)]) ?pre2 ?F2 ?hpre2 (fun γ => ?hF2) (by kernel_rfl) ?hL2 ?hS2 ?ho2 ?he2
  case hpre2 =>
    simp only [List.take_succ_cons, List.take_zero]
    exact rfl
  case hF2 =>
    simp only [fill, Kind.val, Act.put, List.setIfInBounds_toArray, List.set_cons_zero, List.set_cons_succ]
    exact rfl
  case hL2 => exact trivial
  case hS2 => exact fun w' hb => H1.out.1.below hb
  case ho2 =>
    refine AllOk.cons ?_ ?_
    · exact fun γ => ⟨rfl, fun w' _ => rfl⟩
    refine AllOk.cons ?_ ?_
    · exact fun γ => ⟨rfl, fun w' h => ⟨39, #[.pointer none], exec_call rfl call39 rfl (by simp only [List.map_toArray, List.map_cons, List.map_nil]; rfl), CM.out w'⟩⟩
    refine AllOk.cons ?_ ?_
    · (refine fun γ => ⟨rfl, fun w' h => ?_⟩; clear h; go_simp)
    exact trivial
  intro γ w2 l hM hl
  have M2 : Mm w2 [(γ1_0, cells6 a), (γ1_1, cells6 b), (γ1_2, zero6)] := H1.out.1.grow hM (Nat.le_refl _) hl [] rfl (by decide)
  have B2 : Below w.heap.size w w2 := H1.out.2.trans (hM.below.mono H1.out.2.size)
  clear hM hl l H1
  clear γ
  have H2 : Hid (_ ∧ _) := ⟨M2, B2⟩
  clear M2 B2
  refine rest_at (l := []) rfl ?_
  refine rest_nil ?_
  refine then_normal ?_
  refine wp_cond_true rfl ?_
  refine wp_seq ?_
  refine walk_seq 1 [.quiet (N 0)] (fun w' => Mm w' [(γ1_0, cells6 a), (γ1_1, cells6 b), (γ1_2, zero6)]) ?pre3 ?F3 ?hpre3 (fun γ => ?hF3) (by kernel_rfl) ?hL3 ?hS3 ?ho3 ?he3
  case hpre3 =>
    simp only [List.take_succ_cons, List.take_zero]
    exact rfl
  case hF3 =>
    simp only [fill, Kind.val, Act.put, List.setIfInBounds_toArray, List.set_cons_zero, List.set_cons_succ]
    exact rfl
  case hL3 => exact trivial
  case hS3 => exact fun w' hb => H2.out.1.below hb
  case ho3 =>
    refine AllOk.cons ?_ ?_
    · (refine fun γ => ⟨rfl, fun w' h => ?_⟩; clear h; exact ex_zero6 rfl)
    exact trivial
  intro γ w3 l hM hl
  have M3 : Mm w3 [(γ1_0, cells6 a), (γ1_1, cells6 b), (γ1_2, zero6)] := H2.out.1.grow hM (Nat.le_refl _) hl [] rfl (by decide)
  have B3 : Below w.heap.size w w3 := H2.out.2.trans (hM.below.mono H2.out.2.size)
  clear hM hl l H2
  clear γ
  have H3 : Hid (_ ∧ _) := ⟨M3, B3⟩
  clear M3 B3
  refine rest_at (l := [1]) rfl ?_
  refine rest_store rfl rfl rfl (ex_store6 H3.out.1 2 rfl rfl rfl rfl (Nat.le_of_ble_eq_true rfl)) ?_
  have H4 : Hid (Mm (w3.setCells γ1_2 0 (cells6 0)) [(γ1_0, cells6 a), (γ1_1, cells6 b), (γ1_2, cells6 0)] ∧ Below w.heap.size w (w3.setCells γ1_2 0 (cells6 0))) := ⟨H3.out.1.put 2 (off := 0) (vs := cells6 0) rfl (Nat.le_of_ble_eq_true rfl), below_setCells _ o1_2.out _ _ _ H3.out.2⟩
  clear H3
  generalize hgw : World.setCells _ _ _ _ = w4 at H4 ⊢
  clear hgw
  refine rest_nil ?_
  refine then_normal ?_
  refine wp_ret ?_
  repeat (first | refine then_ret ?_ | refine block_ret ?_)
  have c0 := H4.out.1.get 2 rfl 0 rfl
  have c1 := H4.out.1.get 2 rfl 1 rfl
  have c2 := H4.out.1.get 2 rfl 2 rfl
  have c3 := H4.out.1.get 2 rfl 3 rfl
  have c4 := H4.out.1.get 2 rfl 4 rfl
  have c5 := H4.out.1.get 2 rfl 5 rfl
  refine bodyPost_ret (v := N 0) (by simp [results, Tryd.results13, go_sem, *]) rfl ?_
  exact ⟨rfl, H4.out.2⟩
set_option maxRecDepth 100000 in
theorem add_nil (a b : Nat) (w : World) :
    Calls Tryd.prog 15 #[.pointer none, N a, N b] w fun e w' => e = .returned (N 0) ∧ Below w.heap.size w w' := by
  have H0 : Hid (_ ∧ _) := ⟨Mm.nil w, Below.refl w.heap.size w⟩
  have CM : Hid _ := made_nil
  go_enter Tryd.func15, Tryd.ntmps15
  refine wp_seq ?_
  refine walk_seq 3 [.made (cells6 a) 24, .made (cells6 b) 24, .made zero6 24] (fun w' => Mm w' []) ?pre1 ?F1 ?hpre1 (fun γ => ?hF1) (by kernel_rfl) ?hL1 ?hS1 ?ho1 ?he1
  case hpre1 =>
    simp only [List.take_succ_cons, List.take_zero]
    exact rfl
  case hF1 =>
    simp only [fill, Kind.val, Act.put, List.setIfInBounds_toArray, List.set_cons_zero, List.set_cons_succ]
    exact rfl
  case hL1 => exact trivial
  case hS1 => exact fun w' hb => H0.out.1.below hb
  case ho1 =>
    refine AllOk.cons ?_ ?_
    · exact fun γ => ⟨rfl, fun w' => ex_box6 rfl rfl⟩
    refine AllOk.cons ?_ ?_
    · exact fun γ => ⟨rfl, fun w' => ex_box6 rfl rfl⟩
    refine AllOk.cons ?_ ?_
    · exact fun γ => ⟨rfl, fun w' => exec_made6 rfl⟩
    exact trivial
  intro γ w1 l hM hl
  have M1 : Mm w1 [(γ 0, cells6 a), (γ 1, cells6 b), (γ 2, zero6)] := H0.out.1.grow hM (Nat.le_refl _) hl [0, 1, 2] rfl (by decide)
  have B1 : Below w.heap.size w w1 := H0.out.2.trans (hM.below.mono H0.out.2.size)
  have o1_0 : Hid (w.heap.size ≤ γ 0) := Nat.le_trans H0.out.2.size (hM.fin (Nat.le_refl _) hl (i := 0) rfl).2.1
  have o1_1 : Hid (w.heap.size ≤ γ 1) := Nat.le_trans H0.out.2.size (hM.fin (Nat.le_refl _) hl (i := 1) rfl).2.1
  have o1_2 : Hid (w.heap.size ≤ γ 2) := Nat.le_trans H0.out.2.size (hM.fin (Nat.le_refl _) hl (i := 2) rfl).2.1
  clear hM hl l
  generalize γ 0 = γ1_0 at M1 o1_0 ⊢
  generalize γ 1 = γ1_1 at M1 o1_1 ⊢
  generalize γ 2 = γ1_2 at M1 o1_2 ⊢
  clear γ
  have H1 : Hid (_ ∧ _) := ⟨M1, B1⟩
  clear M1 B1
  refine rest_at (l := []) rfl ?_
  refine rest_nil ?_
  refine then_normal ?_
  refine wp_seq ?_
  refine wp_seq ?_
  refine walk_seq 3 [.quiet (.pointer none), .call (.bool false), .quiet (.bool true)] (fun w' => Mm w' [(γ1_0, cells6 a), (γ1_1, cells6 b), (γ1_2, zero6)]) ?pre2 ?F2 ?hpre2 (fun γ => ?hF2) (by kernel_rfl) ?hL2 ?hS2 ?ho2 ?he2
  case hpre2 =>
    simp only [List.take_succ_cons, List.take_zero]
    exact rfl
  case hF2 =>
    simp only [fill, Kind.val, Act.put, List.setIfInBounds_toArray, List.set_cons_zero, List.set_cons_succ]
    exact rfl
  case hL2 => exact trivial
  case hS2 => exact fun w' hb => H1.out.1.below hb
  case ho2 =>
    refine AllOk.cons ?_ ?_
    · exact fun γ => ⟨rfl, fun w' _ => rfl⟩
    refine AllOk.cons ?_ ?_
    · exact fun γ => ⟨rfl, fun w' h => ⟨39, #[.pointer none], exec_call rfl call39 rfl (by simp only [List.map_toArray, List.map_cons, List.map_nil]; rfl), CM.out w'⟩⟩
    refine AllOk.cons ?_ ?_
    · (refine fun γ => ⟨rfl, fun w' h => ?_⟩; clear h; go_simp)
    exact trivial
  intro γ w2 l hM hl
  have M2 : Mm w2 [(γ1_0, cells6 a), (γ1_1, cells6 b), (γ1_2, zero6)] := H1.out.1.grow hM (Nat.le_refl _) hl [] rfl (by decide)
  have B2 : Below w.heap.size w w2 := H1.out.2.trans (hM.below.mono H1.out.2.size)
  clear hM hl l H1
  clear γ
  have H2 : Hid (_ ∧ _) := ⟨M2, B2⟩
  clear M2 B2
  refine rest_at (l := []) rfl ?_
  refine rest_nil ?_
  refine then_normal ?_
  refine wp_cond_true rfl ?_
  refine wp_seq ?_
  refine walk_seq 1 [.quiet (N 0)] (fun w' => Mm w' [(γ1_0, cells6 a), (γ1_1, cells6 b), (γ1_2, zero6)]) ?pre3 ?F3 ?hpre3 (fun γ => ?hF3) (by kernel_rfl) ?hL3 ?hS3 ?ho3 ?he3
  case hpre3 =>
    simp only [List.take_succ_cons, List.take_zero]
    exact rfl
  case hF3 =>
    simp only [fill, Kind.val, Act.put, List.setIfInBounds_toArray, List.set_cons_zero, List.set_cons_succ]
    exact rfl
  case hL3 => exact trivial
  case hS3 => exact fun w' hb => H2.out.1.below hb
  case ho3 =>
    refine AllOk.cons ?_ ?_
    · (refine fun γ => ⟨rfl, fun w' h => ?_⟩; clear h; exact ex_zero6 rfl)
    exact trivial
  intro γ w3 l hM hl
  have M3 : Mm w3 [(γ1_0, cells6 a), (γ1_1, cells6 b), (γ1_2, zero6)] := H2.out.1.grow hM (Nat.le_refl _) hl [] rfl (by decide)
  have B3 : Below w.heap.size w w3 := H2.out.2.trans (hM.below.mono H2.out.2.size)
  clear hM hl l H2
  clear γ
  have H3 : Hid (_ ∧ _) := ⟨M3, B3⟩
  clear M3 B3
  refine rest_at (l := [1]) rfl ?_
  refine rest_store rfl rfl rfl (ex_store6 H3.out.1 2 rfl rfl rfl rfl (Nat.le_of_ble_eq_true rfl)) ?_
  have H4 : Hid (Mm (w3.setCells γ1_2 0 (cells6 0)) [(γ1_0, cells6 a), (γ1_1, cells6 b), (γ1_2, cells6 0)] ∧ Below w.heap.size w (w3.setCells γ1_2 0 (cells6 0))) := ⟨H3.out.1.put 2 (off := 0) (vs := cells6 0) rfl (Nat.le_of_ble_eq_true rfl), below_setCells _ o1_2.out _ _ _ H3.out.2⟩
  clear H3
  generalize hgw : World.setCells _ _ _ _ = w4 at H4 ⊢
  clear hgw
  refine rest_nil ?_
  refine then_normal ?_
  refine wp_ret ?_
  repeat (first | refine then_ret ?_ | refine block_ret ?_)
  have c0 := H4.out.1.get 2 rfl 0 rfl
  have c1 := H4.out.1.get 2 rfl 1 rfl
  have c2 := H4.out.1.get 2 rfl 2 rfl
  have c3 := H4.out.1.get 2 rfl 3 rfl
  have c4 := H4.out.1.get 2 rfl 4 rfl
  have c5 := H4.out.1.get 2 rfl 5 rfl
  refine bodyPost_ret (v := N 0) (by simp [results, Tryd.results15, go_sem, *]) rfl ?_
  exact ⟨rfl, H4.out.2⟩
set_option maxRecDepth 100000 in
theorem sub_nil (a b : Nat) (w : World) :
    Calls Tryd.prog 17 #[.pointer none, N a, N b] w fun e w' => e = .returned (N 0) ∧ Below w.heap.size w w' := by
  have H0 : Hid (_ ∧ _) := ⟨Mm.nil w, Below.refl w.heap.size w⟩
  have CM : Hid _ := made_nil
  go_enter Tryd.func17, Tryd.ntmps17
  refine wp_seq ?_
  refine walk_seq 3 [.made (cells6 a) 24, .made (cells6 b) 24, .made zero6 24] (fun w' => Mm w' []) ?pre1 ?F1 ?hpre1 (fun γ => ?hF1) (by kernel_rfl) ?hL1 ?hS1 ?ho1 ?he1
  case hpre1 =>
    simp only [List.take_succ_cons, List.take_zero]
    exact rfl
  case hF1 =>
    simp only [fill, Kind.val, Act.put, List.setIfInBounds_toArray, List.set_cons_zero, List.set_cons_succ]
    exact rfl
  case hL1 => exact trivial
  case hS1 => exact fun w' hb => H0.out.1.below hb
  case ho1 =>
    refine AllOk.cons ?_ ?_
    · exact fun γ => ⟨rfl, fun w' => ex_box6 rfl rfl⟩
    refine AllOk.cons ?_ ?_
    · exact fun γ => ⟨rfl, fun w' => ex_box6 rfl rfl⟩
    refine AllOk.cons ?_ ?_
    · exact fun γ => ⟨rfl, fun w' => exec_made6 rfl⟩
    exact trivial
  intro γ w1 l hM hl
  have M1 : Mm w1 [(γ 0, cells6 a), (γ 1, cells6 b), (γ 2, zero6)] := H0.out.1.grow hM (Nat.le_refl _) hl [0, 1, 2] rfl (by decide)
  have B1 : Below w.heap.size w w1 := H0.out.2.trans (hM.below.mono H0.out.2.size)
  have o1_0 : Hid (w.heap.size ≤ γ 0) := Nat.le_trans H0.out.2.size (hM.fin (Nat.le_refl _) hl (i := 0) rfl).2.1
  have o1_1 : Hid (w.heap.size ≤ γ 1) := Nat.le_trans H0.out.2.size (hM.fin (Nat.le_refl _) hl (i := 1) rfl).2.1
  have o1_2 : Hid (w.heap.size ≤ γ 2) := Nat.le_trans H0.out.2.size (hM.fin (Nat.le_refl _) hl (i := 2) rfl).2.1
  clear hM hl l
  generalize γ 0 = γ1_0 at M1 o1_0 ⊢
  generalize γ 1 = γ1_1 at M1 o1_1 ⊢
  generalize γ 2 = γ1_2 at M1 o1_2 ⊢
  clear γ
  have H1 : Hid (_ ∧ _) := ⟨M1, B1⟩
  clear M1 B1
  refine rest_at (l := []) rfl ?_
  refine rest_nil ?_
  refine then_normal ?_
  refine wp_seq ?_
  refine wp_seq ?_
  refine walk_seq 3 [.quiet (.pointer none), .call (.bool false), .quiet (.bool true)] (fun w' => Mm w' [(γ1_0, cells6 a), (γ1_1, cells6 b), (γ1_2, zero6)]) ?pre2 ?F2 ?hpre2 (fun γ => ?hF2) (by kernel_rfl) ?hL2 ?hS2 ?ho2 ?he2
  case hpre2 =>
    simp only [List.take_succ_cons, List.take_zero]
    exact rfl
  case hF2 =>
    simp only [fill, Kind.val, Act.put, List.setIfInBounds_toArray, List.set_cons_zero, List.set_cons_succ]
    exact rfl
  case hL2 => exact trivial
  case hS2 => exact fun w' hb => H1.out.1.below hb
  case ho2 =>
    refine AllOk.cons ?_ ?_
    · exact fun γ => ⟨rfl, fun w' _ => rfl⟩
    refine AllOk.cons ?_ ?_
    · exact fun γ => ⟨rfl, fun w' h => ⟨39, #[.pointer none], exec_call rfl call39 rfl (by simp only [List.map_toArray, List.map_cons, List.map_nil]; rfl), CM.out w'⟩⟩
    refine AllOk.cons ?_ ?_
    · (refine fun γ => ⟨rfl, fun w' h => ?_⟩; clear h; go_simp)
    exact trivial
  intro γ w2 l hM hl
  have M2 : Mm w2 [(γ1_0, cells6 a), (γ1_1, cells6 b), (γ1_2, zero6)] := H1.out.1.grow hM (Nat.le_refl _) hl [] rfl (by decide)
  have B2 : Below w.heap.size w w2 := H1.out.2.trans (hM.below.mono H1.out.2.size)
  clear hM hl l H1
  clear γ
  have H2 : Hid (_ ∧ _) := ⟨M2, B2⟩
  clear M2 B2
  refine rest_at (l := []) rfl ?_
  refine rest_nil ?_
  refine then_normal ?_
  refine wp_cond_true rfl ?_
  refine wp_seq ?_
  refine walk_seq 1 [.quiet (N 0)] (fun w' => Mm w' [(γ1_0, cells6 a), (γ1_1, cells6 b), (γ1_2, zero6)]) ?pre3 ?F3 ?hpre3 (fun γ => ?hF3) (by kernel_rfl) ?hL3 ?hS3 ?ho3 ?he3
  case hpre3 =>
    simp only [List.take_succ_cons, List.take_zero]
    exact rfl
  case hF3 =>
    simp only [fill, Kind.val, Act.put, List.setIfInBounds_toArray, List.set_cons_zero, List.set_cons_succ]
    exact rfl
  case hL3 => exact trivial
  case hS3 => exact fun w' hb => H2.out.1.below hb
  case ho3 =>
    refine AllOk.cons ?_ ?_
    · (refine fun γ => ⟨rfl, fun w' h => ?_⟩; clear h; exact ex_zero6 rfl)
    exact trivial
  intro γ w3 l hM hl
  have M3 : Mm w3 [(γ1_0, cells6 a), (γ1_1, cells6 b), (γ1_2, zero6)] := H2.out.1.grow hM (Nat.le_refl _) hl [] rfl (by decide)
  have B3 : Below w.heap.size w w3 := H2.out.2.trans (hM.below.mono H2.out.2.size)
  clear hM hl l H2
  clear γ
  have H3 : Hid (_ ∧ _) := ⟨M3, B3⟩
  clear M3 B3
  refine rest_at (l := [1]) rfl ?_
  refine rest_store rfl rfl rfl (ex_store6 H3.out.1 2 rfl rfl rfl rfl (Nat.le_of_ble_eq_true rfl)) ?_
  have H4 : Hid (Mm (w3.setCells γ1_2 0 (cells6 0)) [(γ1_0, cells6 a), (γ1_1, cells6 b), (γ1_2, cells6 0)] ∧ Below w.heap.size w (w3.setCells γ1_2 0 (cells6 0))) := ⟨H3.out.1.put 2 (off := 0) (vs := cells6 0) rfl (Nat.le_of_ble_eq_true rfl), below_setCells _ o1_2.out _ _ _ H3.out.2⟩
  clear H3
  generalize hgw : World.setCells _ _ _ _ = w4 at H4 ⊢
  clear hgw
  refine rest_nil ?_
  refine then_normal ?_
  refine wp_ret ?_
  repeat (first | refine then_ret ?_ | refine block_ret ?_)
  have c0 := H4.out.1.get 2 rfl 0 rfl
  have c1 := H4.out.1.get 2 rfl 1 rfl
  have c2 := H4.out.1.get 2 rfl 2 rfl
  have c3 := H4.out.1.get 2 rfl 3 rfl
  have c4 := H4.out.1.get 2 rfl 4 rfl
  have c5 := H4.out.1.get 2 rfl 5 rfl
  refine bodyPost_ret (v := N 0) (by simp [results, Tryd.results17, go_sem, *]) rfl ?_
  exact ⟨rfl, H4.out.2⟩
set_option maxRecDepth 100000 in
theorem mul_nil (a b : Nat) (w : World) :
    Calls Tryd.prog 21 #[.pointer none, N a, N b] w fun e w' => e = .returned (N 0) ∧ Below w.heap.size w w' := by
  have H0 : Hid (_ ∧ _) := ⟨Mm.nil w, Below.refl w.heap.size w⟩
  have CM : Hid _ := made_nil
  go_enter Tryd.func21, Tryd.ntmps21
  refine wp_seq ?_
  refine walk_seq 3 [.made (cells6 a) 24, .made (cells6 b) 24, .made zero6 24] (fun w' => Mm w' []) ?pre1 ?F1 ?hpre1 (fun γ => ?hF1) (by kernel_rfl) ?hL1 ?hS1 ?ho1 ?he1
  case hpre1 =>
    simp only [List.take_succ_cons, List.take_zero]
    exact rfl
  case hF1 =>
    simp only [fill, Kind.val, Act.put, List.setIfInBounds_toArray, List.set_cons_zero, List.set_cons_succ]
    exact rfl
  case hL1 => exact trivial
  case hS1 => exact fun w' hb => H0.out.1.below hb
  case ho1 =>
    refine AllOk.cons ?_ ?_
    · exact fun γ => ⟨rfl, fun w' => ex_box6 rfl rfl⟩
    refine AllOk.cons ?_ ?_
    · exact fun γ => ⟨rfl, fun w' => ex_box6 rfl rfl⟩
    refine AllOk.cons ?_ ?_
    · exact fun γ => ⟨rfl, fun w' => exec_made6 rfl⟩
    exact trivial
  intro γ w1 l hM hl
  have M1 : Mm w1 [(γ 0, cells6 a), (γ 1, cells6 b), (γ 2, zero6)] := H0.out.1.grow hM (Nat.le_refl _) hl [0, 1, 2] rfl (by decide)
  have B1 : Below w.heap.size w w1 := H0.out.2.trans (hM.below.mono H0.out.2.size)
  have o1_0 : Hid (w.heap.size ≤ γ 0) := Nat.le_trans H0.out.2.size (hM.fin (Nat.le_refl _) hl (i := 0) rfl).2.1
  have o1_1 : Hid (w.heap.size ≤ γ 1) := Nat.le_trans H0.out.2.size (hM.fin (Nat.le_refl _) hl (i := 1) rfl).2.1
  have o1_2 : Hid (w.heap.size ≤ γ 2) := Nat.le_trans H0.out.2.size (hM.fin (Nat.le_refl _) hl (i := 2) rfl).2.1
  clear hM hl l
  generalize γ 0 = γ1_0 at M1 o1_0 ⊢
  generalize γ 1 = γ1_1 at M1 o1_1 ⊢
  generalize γ 2 = γ1_2 at M1 o1_2 ⊢
  clear γ
  have H1 : Hid (_ ∧ _) := ⟨M1, B1⟩
  clear M1 B1
  refine rest_at (l := []) rfl ?_
  refine rest_nil ?_
  refine then_normal ?_
  refine wp_seq ?_
  refine wp_seq ?_
  refine walk_seq 3 [.quiet (.pointer none), .call (.bool false), .quiet (.bool true)] (fun w' => Mm w' [(γ1_0, cells6 a), (γ1_1, cells6 b), (γ1_2, zero6)]) ?pre2 ?F2 ?hpre2 (fun γ => ?hF2) (by kernel_rfl) ?hL2 ?hS2 ?ho2 ?he2
  case hpre2 =>
    simp only [List.take_succ_cons, List.take_zero]
    exact rfl
  case hF2 =>
    simp only [fill, Kind.val, Act.put, List.setIfInBounds_toArray, List.set_cons_zero, List.set_cons_succ]
    exact rfl
  case hL2 => exact trivial
  case hS2 => exact fun w' hb => H1.out.1.below hb
  case ho2 =>
    refine AllOk.cons ?_ ?_
    · exact fun γ => ⟨rfl, fun w' _ => rfl⟩
    refine AllOk.cons ?_ ?_
    · exact fun γ => ⟨rfl, fun w' h => ⟨39, #[.pointer none], exec_call rfl call39 rfl (by simp only [List.map_toArray, List.map_cons, List.map_nil]; rfl), CM.out w'⟩⟩
    refine AllOk.cons ?_ ?_
    · (refine fun γ => ⟨rfl, fun w' h => ?_⟩; clear h; go_simp)
    exact trivial
  intro γ w2 l hM hl
  have M2 : Mm w2 [(γ1_0, cells6 a), (γ1_1, cells6 b), (γ1_2, zero6)] := H1.out.1.grow hM (Nat.le_refl _) hl [] rfl (by decide)
  have B2 : Below w.heap.size w w2 := H1.out.2.trans (hM.below.mono H1.out.2.size)
  clear hM hl l H1
  clear γ
  have H2 : Hid (_ ∧ _) := ⟨M2, B2⟩
  clear M2 B2
  refine rest_at (l := []) rfl ?_
  refine rest_nil ?_
  refine then_normal ?_
  refine wp_cond_true rfl ?_
  refine wp_seq ?_
  refine walk_seq 1 [.quiet (N 0)] (fun w' => Mm w' [(γ1_0, cells6 a), (γ1_1, cells6 b), (γ1_2, zero6)]) ?pre3 ?F3 ?hpre3 (fun γ => ?hF3) (by kernel_rfl) ?hL3 ?hS3 ?ho3 ?he3
  case hpre3 =>
    simp only [List.take_succ_cons, List.take_zero]
    exact rfl
  case hF3 =>
    simp only [fill, Kind.val, Act.put, List.setIfInBounds_toArray, List.set_cons_zero, List.set_cons_succ]
    exact rfl
  case hL3 => exact trivial
  case hS3 => exact fun w' hb => H2.out.1.below hb
  case ho3 =>
    refine AllOk.cons ?_ ?_
    · (refine fun γ => ⟨rfl, fun w' h => ?_⟩; clear h; exact ex_zero6 rfl)
    exact trivial
  intro γ w3 l hM hl
  have M3 : Mm w3 [(γ1_0, cells6 a), (γ1_1, cells6 b), (γ1_2, zero6)] := H2.out.1.grow hM (Nat.le_refl _) hl [] rfl (by decide)
  have B3 : Below w.heap.size w w3 := H2.out.2.trans (hM.below.mono H2.out.2.size)
  clear hM hl l H2
  clear γ
  have H3 : Hid (_ ∧ _) := ⟨M3, B3⟩
  clear M3 B3
  refine rest_at (l := [1]) rfl ?_
  refine rest_store rfl rfl rfl (ex_store6 H3.out.1 2 rfl rfl rfl rfl (Nat.le_of_ble_eq_true rfl)) ?_
  have H4 : Hid (Mm (w3.setCells γ1_2 0 (cells6 0)) [(γ1_0, cells6 a), (γ1_1, cells6 b), (γ1_2, cells6 0)] ∧ Below w.heap.size w (w3.setCells γ1_2 0 (cells6 0))) := ⟨H3.out.1.put 2 (off := 0) (vs := cells6 0) rfl (Nat.le_of_ble_eq_true rfl), below_setCells _ o1_2.out _ _ _ H3.out.2⟩
  clear H3
  generalize hgw : World.setCells _ _ _ _ = w4 at H4 ⊢
  clear hgw
  refine rest_nil ?_
  refine then_normal ?_
  refine wp_ret ?_
  repeat (first | refine then_ret ?_ | refine block_ret ?_)
  have c0 := H4.out.1.get 2 rfl 0 rfl
  have c1 := H4.out.1.get 2 rfl 1 rfl
  have c2 := H4.out.1.get 2 rfl 2 rfl
  have c3 := H4.out.1.get 2 rfl 3 rfl
  have c4 := H4.out.1.get 2 rfl 4 rfl
  have c5 := H4.out.1.get 2 rfl 5 rfl
  refine bodyPost_ret (v := N 0) (by simp [results, Tryd.results21, go_sem, *]) rfl ?_
  exact ⟨rfl, H4.out.2⟩
set_option maxRecDepth 100000 in
theorem pow_nil (a b : Nat) (w : World) :
    Calls Tryd.prog 25 #[.pointer none, N a, N b] w fun e w' => e = .returned (N 0) ∧ Below w.heap.size w w' := by
  have H0 : Hid (_ ∧ _) := ⟨Mm.nil w, Below.refl w.heap.size w⟩
  have CM : Hid _ := made_nil
  go_enter Tryd.func25, Tryd.ntmps25
  refine wp_seq ?_
  refine walk_seq 3 [.made (cells6 a) 24, .made (cells6 b) 24, .made zero6 24] (fun w' => Mm w' []) ?pre1 ?F1 ?hpre1 (fun γ => ?hF1) (by kernel_rfl) ?hL1 ?hS1 ?ho1 ?he1
  case hpre1 =>
    simp only [List.take_succ_cons, List.take_zero]
    exact rfl
  case hF1 =>
    simp only [fill, Kind.val, Act.put, List.setIfInBounds_toArray, List.set_cons_zero, List.set_cons_succ]
    exact rfl
  case hL1 => exact trivial
  case hS1 => exact fun w' hb => H0.out.1.below hb
  case ho1 =>
    refine AllOk.cons ?_ ?_
    · exact fun γ => ⟨rfl, fun w' => ex_box6 rfl rfl⟩
    refine AllOk.cons ?_ ?_
    · exact fun γ => ⟨rfl, fun w' => ex_box6 rfl rfl⟩
    refine AllOk.cons ?_ ?_
    · exact fun γ => ⟨rfl, fun w' => exec_made6 rfl⟩
    exact trivial
  intro γ w1 l hM hl
  have M1 : Mm w1 [(γ 0, cells6 a), (γ 1, cells6 b), (γ 2, zero6)] := H0.out.1.grow hM (Nat.le_refl _) hl [0, 1, 2] rfl (by decide)
  have B1 : Below w.heap.size w w1 := H0.out.2.trans (hM.below.mono H0.out.2.size)
  have o1_0 : Hid (w.heap.size ≤ γ 0) := Nat.le_trans H0.out.2.size (hM.fin (Nat.le_refl _) hl (i := 0) rfl).2.1
  have o1_1 : Hid (w.heap.size ≤ γ 1) := Nat.le_trans H0.out.2.size (hM.fin (Nat.le_refl _) hl (i := 1) rfl).2.1
  have o1_2 : Hid (w.heap.size ≤ γ 2) := Nat.le_trans H0.out.2.size (hM.fin (Nat.le_refl _) hl (i := 2) rfl).2.1
  clear hM hl l
  generalize γ 0 = γ1_0 at M1 o1_0 ⊢
  generalize γ 1 = γ1_1 at M1 o1_1 ⊢
  generalize γ 2 = γ1_2 at M1 o1_2 ⊢
  clear γ
  have H1 : Hid (_ ∧ _) := ⟨M1, B1⟩
  clear M1 B1
  refine rest_at (l := []) rfl ?_
  refine rest_nil ?_
  refine then_normal ?_
  refine wp_seq ?_
  refine wp_seq ?_
  refine walk_seq 3 [.quiet (.pointer none), .call (.bool false), .quiet (.bool true)] (fun w' => Mm w' [(γ1_0, cells6 a), (γ1_1, cells6 b), (γ1_2, zero6)]) ?pre2 ?F2 ?hpre2 (fun γ => ?hF2) (by kernel_rfl) ?hL2 ?hS2 ?ho2 ?he2
  case hpre2 =>
    simp only [List.take_succ_cons, List.take_zero]
    exact rfl
  case hF2 =>
    simp only [fill, Kind.val, Act.put, List.setIfInBounds_toArray, List.set_cons_zero, List.set_cons_succ]
    exact rfl
  case hL2 => exact trivial
  case hS2 => exact fun w' hb => H1.out.1.below hb
  case ho2 =>
    refine AllOk.cons ?_ ?_
    · exact fun γ => ⟨rfl, fun w' _ => rfl⟩
    refine AllOk.cons ?_ ?_
    · exact fun γ => ⟨rfl, fun w' h => ⟨39, #[.pointer none], exec_call rfl call39 rfl (by simp only [List.map_toArray, List.map_cons, List.map_nil]; rfl), CM.out w'⟩⟩
    refine AllOk.cons ?_ ?_
    · (refine fun γ => ⟨rfl, fun w' h => ?_⟩; clear h; go_simp)
    exact trivial
  intro γ w2 l hM hl
  have M2 : Mm w2 [(γ1_0, cells6 a), (γ1_1, cells6 b), (γ1_2, zero6)] := H1.out.1.grow hM (Nat.le_refl _) hl [] rfl (by decide)
  have B2 : Below w.heap.size w w2 := H1.out.2.trans (hM.below.mono H1.out.2.size)
  clear hM hl l H1
  clear γ
  have H2 : Hid (_ ∧ _) := ⟨M2, B2⟩
  clear M2 B2
  refine rest_at (l := []) rfl ?_
  refine rest_nil ?_
  refine then_normal ?_
  refine wp_cond_true rfl ?_
  refine wp_seq ?_
  refine walk_seq 1 [.quiet (N 0)] (fun w' => Mm w' [(γ1_0, cells6 a), (γ1_1, cells6 b), (γ1_2, zero6)]) ?pre3 ?F3 ?hpre3 (fun γ => ?hF3) (by kernel_rfl) ?hL3 ?hS3 ?ho3 ?he3
  case hpre3 =>
    simp only [List.take_succ_cons, List.take_zero]
    exact rfl
  case hF3 =>
    simp only [fill, Kind.val, Act.put, List.setIfInBounds_toArray, List.set_cons_zero, List.set_cons_succ]
    exact rfl
  case hL3 => exact trivial
  case hS3 => exact fun w' hb => H2.out.1.below hb
  case ho3 =>
    refine AllOk.cons ?_ ?_
    · (refine fun γ => ⟨rfl, fun w' h => ?_⟩; clear h; exact ex_zero6 rfl)
    exact trivial
  intro γ w3 l hM hl
  have M3 : Mm w3 [(γ1_0, cells6 a), (γ1_1, cells6 b), (γ1_2, zero6)] := H2.out.1.grow hM (Nat.le_refl _) hl [] rfl (by decide)
  have B3 : Below w.heap.size w w3 := H2.out.2.trans (hM.below.mono H2.out.2.size)
  clear hM hl l H2
  clear γ
  have H3 : Hid (_ ∧ _) := ⟨M3, B3⟩
  clear M3 B3
  refine rest_at (l := [1]) rfl ?_
  refine rest_store rfl rfl rfl (ex_store6 H3.out.1 2 rfl rfl rfl rfl (Nat.le_of_ble_eq_true rfl)) ?_
  have H4 : Hid (Mm (w3.setCells γ1_2 0 (cells6 0)) [(γ1_0, cells6 a), (γ1_1, cells6 b), (γ1_2, cells6 0)] ∧ Below w.heap.size w (w3.setCells γ1_2 0 (cells6 0))) := ⟨H3.out.1.put 2 (off := 0) (vs := cells6 0) rfl (Nat.le_of_ble_eq_true rfl), below_setCells _ o1_2.out _ _ _ H3.out.2⟩
  clear H3
  generalize hgw : World.setCells _ _ _ _ = w4 at H4 ⊢
  clear hgw
  refine rest_nil ?_
  refine then_normal ?_
  refine wp_ret ?_
  repeat (first | refine then_ret ?_ | refine block_ret ?_)
  have c0 := H4.out.1.get 2 rfl 0 rfl
  have c1 := H4.out.1.get 2 rfl 1 rfl
  have c2 := H4.out.1.get 2 rfl 2 rfl
  have c3 := H4.out.1.get 2 rfl 3 rfl
  have c4 := H4.out.1.get 2 rfl 4 rfl
  have c5 := H4.out.1.get 2 rfl 5 rfl
  refine bodyPost_ret (v := N 0) (by simp [results, Tryd.results25, go_sem, *]) rfl ?_
  exact ⟨rfl, H4.out.2⟩
set_option maxRecDepth 100000 in
theorem inv_nil (a : Nat) (w : World) :
    Calls Tryd.prog 23 #[.pointer none, N a] w fun e w' => e = .returned (.tuple #[N 0, .int .i64 1]) ∧ Below w.heap.size w w' := by
  have H0 : Hid (_ ∧ _) := ⟨Mm.nil w, Below.refl w.heap.size w⟩
  have CM : Hid _ := made_nil
  go_enter Tryd.func23, Tryd.ntmps23
  refine wp_seq ?_
  refine walk_seq 3 [.made (cells6 a) 24, .made zero6 24, .quiet (.int .i64 0)] (fun w' => Mm w' []) ?pre1 ?F1 ?hpre1 (fun γ => ?hF1) (by kernel_rfl) ?hL1 ?hS1 ?ho1 ?he1
  case hpre1 =>
    simp only [List.take_succ_cons, List.take_zero]
    exact rfl
  case hF1 =>
    simp only [fill, Kind.val, Act.put, List.setIfInBounds_toArray, List.set_cons_zero, List.set_cons_succ]
    exact rfl
  case hL1 => exact trivial
  case hS1 => exact fun w' hb => H0.out.1.below hb
  case ho1 =>
    refine AllOk.cons ?_ ?_
    · exact fun γ => ⟨rfl, fun w' => ex_box6 rfl rfl⟩
    refine AllOk.cons ?_ ?_
    · exact fun γ => ⟨rfl, fun w' => exec_made6 rfl⟩
    refine AllOk.cons ?_ ?_
    · exact fun γ => ⟨rfl, fun w' _ => rfl⟩
    exact trivial
  intro γ w1 l hM hl
  have M1 : Mm w1 [(γ 0, cells6 a), (γ 1, zero6)] := H0.out.1.grow hM (Nat.le_refl _) hl [0, 1] rfl (by decide)
  have B1 : Below w.heap.size w w1 := H0.out.2.trans (hM.below.mono H0.out.2.size)
  have o1_0 : Hid (w.heap.size ≤ γ 0) := Nat.le_trans H0.out.2.size (hM.fin (Nat.le_refl _) hl (i := 0) rfl).2.1
  have o1_1 : Hid (w.heap.size ≤ γ 1) := Nat.le_trans H0.out.2.size (hM.fin (Nat.le_refl _) hl (i := 1) rfl).2.1
  clear hM hl l
  generalize γ 0 = γ1_0 at M1 o1_0 ⊢
  generalize γ 1 = γ1_1 at M1 o1_1 ⊢
  clear γ
  have H1 : Hid (_ ∧ _) := ⟨M1, B1⟩
  clear M1 B1
  refine rest_at (l := []) rfl ?_
  refine rest_nil ?_
  refine then_normal ?_
  refine wp_seq ?_
  refine wp_seq ?_
  refine walk_seq 3 [.quiet (.pointer none), .call (.bool false), .quiet (.bool true)] (fun w' => Mm w' [(γ1_0, cells6 a), (γ1_1, zero6)]) ?pre2 ?F2 ?hpre2 (fun γ => ?hF2) (by kernel_rfl) ?hL2 ?hS2 ?ho2 ?he2
  case hpre2 =>
    simp only [List.take_succ_cons, List.take_zero]
    exact rfl
  case hF2 =>
    simp only [fill, Kind.val, Act.put, List.setIfInBounds_toArray, List.set_cons_zero, List.set_cons_succ]
    exact rfl
  case hL2 => exact trivial
  case hS2 => exact fun w' hb => H1.out.1.below hb
  case ho2 =>
    refine AllOk.cons ?_ ?_
    · exact fun γ => ⟨rfl, fun w' _ => rfl⟩
    refine AllOk.cons ?_ ?_
    · exact fun γ => ⟨rfl, fun w' h => ⟨39, #[.pointer none], exec_call rfl call39 rfl (by simp only [List.map_toArray, List.map_cons, List.map_nil]; rfl), CM.out w'⟩⟩
    refine AllOk.cons ?_ ?_
    · (refine fun γ => ⟨rfl, fun w' h => ?_⟩; clear h; go_simp)
    exact trivial
  intro γ w2 l hM hl
  have M2 : Mm w2 [(γ1_0, cells6 a), (γ1_1, zero6)] := H1.out.1.grow hM (Nat.le_refl _) hl [] rfl (by decide)
  have B2 : Below w.heap.size w w2 := H1.out.2.trans (hM.below.mono H1.out.2.size)
  clear hM hl l H1
  clear γ
  have H2 : Hid (_ ∧ _) := ⟨M2, B2⟩
  clear M2 B2
  refine rest_at (l := []) rfl ?_
  refine rest_nil ?_
  refine then_normal ?_
  refine wp_cond_true rfl ?_
  refine wp_seq ?_
  refine walk_seq 1 [.quiet (N 0)] (fun w' => Mm w' [(γ1_0, cells6 a), (γ1_1, zero6)]) ?pre3 ?F3 ?hpre3 (fun γ => ?hF3) (by kernel_rfl) ?hL3 ?hS3 ?ho3 ?he3
  case hpre3 =>
    simp only [List.take_succ_cons, List.take_zero]
    exact rfl
  case hF3 =>
    simp only [fill, Kind.val, Act.put, List.setIfInBounds_toArray, List.set_cons_zero, List.set_cons_succ]
    exact rfl
  case hL3 => exact trivial
  case hS3 => exact fun w' hb => H2.out.1.below hb
  case ho3 =>
    refine AllOk.cons ?_ ?_
    · (refine fun γ => ⟨rfl, fun w' h => ?_⟩; clear h; exact ex_zero6 rfl)
    exact trivial
  intro γ w3 l hM hl
  have M3 : Mm w3 [(γ1_0, cells6 a), (γ1_1, zero6)] := H2.out.1.grow hM (Nat.le_refl _) hl [] rfl (by decide)
  have B3 : Below w.heap.size w w3 := H2.out.2.trans (hM.below.mono H2.out.2.size)
  clear hM hl l H2
  clear γ
  have H3 : Hid (_ ∧ _) := ⟨M3, B3⟩
  clear M3 B3
  refine rest_at (l := [1, 2]) rfl ?_
  refine rest_store rfl rfl rfl (ex_store6 H3.out.1 1 rfl rfl rfl rfl (Nat.le_of_ble_eq_true rfl)) ?_
  have H4 : Hid (Mm (w3.setCells γ1_1 0 (cells6 0)) [(γ1_0, cells6 a), (γ1_1, cells6 0)] ∧ Below w.heap.size w (w3.setCells γ1_1 0 (cells6 0))) := ⟨H3.out.1.put 1 (off := 0) (vs := cells6 0) rfl (Nat.le_of_ble_eq_true rfl), below_setCells _ o1_1.out _ _ _ H3.out.2⟩
  clear H3
  generalize hgw : World.setCells _ _ _ _ = w4 at H4 ⊢
  clear hgw
  refine rest_set (d := 5) rfl rfl rfl rfl ?_
  simp only [Act.put, List.setIfInBounds_toArray, List.set_cons_zero, List.set_cons_succ]
  refine rest_nil ?_
  refine then_normal ?_
  refine wp_ret ?_
  repeat (first | refine then_ret ?_ | refine block_ret ?_)
  have c0 := H4.out.1.get 1 rfl 0 rfl
  have c1 := H4.out.1.get 1 rfl 1 rfl
  have c2 := H4.out.1.get 1 rfl 2 rfl
  have c3 := H4.out.1.get 1 rfl 3 rfl
  have c4 := H4.out.1.get 1 rfl 4 rfl
  have c5 := H4.out.1.get 1 rfl 5 rfl
  refine bodyPost_ret (v := .tuple #[N 0, .int .i64 1]) (by simp [results, Tryd.results23, go_sem, *]) rfl ?_
  exact ⟨rfl, H4.out.2⟩
set_option maxRecDepth 100000 in
theorem root_nil (a : Nat) (w : World) :
    Calls Tryd.prog 27 #[.pointer none, N a] w fun e w' => e = .returned (.tuple #[N 0, .int .i64 1]) ∧ Below w.heap.size w w' := by
  have H0 : Hid (_ ∧ _) := ⟨Mm.nil w, Below.refl w.heap.size w⟩
  have CM : Hid _ := made_nil
  go_enter Tryd.func27, Tryd.ntmps27
  refine wp_seq ?_
  refine walk_seq 3 [.made (cells6 a) 24, .made zero6 24, .quiet (.int .i64 0)] (fun w' => Mm w' []) ?pre1 ?F1 ?hpre1 (fun γ => ?hF1) (by kernel_rfl) ?hL1 ?hS1 ?ho1 ?he1
  case hpre1 =>
    simp only [List.take_succ_cons, List.take_zero]
    exact rfl
  case hF1 =>
    simp only [fill, Kind.val, Act.put, List.setIfInBounds_toArray, List.set_cons_zero, List.set_cons_succ]
    exact rfl
  case hL1 => exact trivial
  case hS1 => exact fun w' hb => H0.out.1.below hb
  case ho1 =>
    refine AllOk.cons ?_ ?_
    · exact fun γ => ⟨rfl, fun w' => ex_box6 rfl rfl⟩
    refine AllOk.cons ?_ ?_
    · exact fun γ => ⟨rfl, fun w' => exec_made6 rfl⟩
    refine AllOk.cons ?_ ?_
    · exact fun γ => ⟨rfl, fun w' _ => rfl⟩
    exact trivial
  intro γ w1 l hM hl
  have M1 : Mm w1 [(γ 0, cells6 a), (γ 1, zero6)] := H0.out.1.grow hM (Nat.le_refl _) hl [0, 1] rfl (by decide)
  have B1 : Below w.heap.size w w1 := H0.out.2.trans (hM.below.mono H0.out.2.size)
  have o1_0 : Hid (w.heap.size ≤ γ 0) := Nat.le_trans H0.out.2.size (hM.fin (Nat.le_refl _) hl (i := 0) rfl).2.1
  have o1_1 : Hid (w.heap.size ≤ γ 1) := Nat.le_trans H0.out.2.size (hM.fin (Nat.le_refl _) hl (i := 1) rfl).2.1
  clear hM hl l
  generalize γ 0 = γ1_0 at M1 o1_0 ⊢
  generalize γ 1 = γ1_1 at M1 o1_1 ⊢
  clear γ
  have H1 : Hid (_ ∧ _) := ⟨M1, B1⟩
  clear M1 B1
  refine rest_at (l := []) rfl ?_
  refine rest_nil ?_
  refine then_normal ?_
  refine wp_seq ?_
  refine wp_seq ?_
  refine walk_seq 3 [.quiet (.pointer none), .call (.bool false), .quiet (.bool true)] (fun w' => Mm w' [(γ1_0, cells6 a), (γ1_1, zero6)]) ?pre2 ?F2 ?hpre2 (fun γ => ?hF2) (by kernel_rfl) ?hL2 ?hS2 ?ho2 ?he2
  case hpre2 =>
    simp only [List.take_succ_cons, List.take_zero]
    exact rfl
  case hF2 =>
    simp only [fill, Kind.val, Act.put, List.setIfInBounds_toArray, List.set_cons_zero, List.set_cons_succ]
    exact rfl
  case hL2 => exact trivial
  case hS2 => exact fun w' hb => H1.out.1.below hb
  case ho2 =>
    refine AllOk.cons ?_ ?_
    · exact fun γ => ⟨rfl, fun w' _ => rfl⟩
    refine AllOk.cons ?_ ?_
    · exact fun γ => ⟨rfl, fun w' h => ⟨39, #[.pointer none], exec_call rfl call39 rfl (by simp only [List.map_toArray, List.map_cons, List.map_nil]; rfl), CM.out w'⟩⟩
    refine AllOk.cons ?_ ?_
    · (refine fun γ => ⟨rfl, fun w' h => ?_⟩; clear h; go_simp)
    exact trivial
  intro γ w2 l hM hl
  have M2 : Mm w2 [(γ1_0, cells6 a), (γ1_1, zero6)] := H1.out.1.grow hM (Nat.le_refl _) hl [] rfl (by decide)
  have B2 : Below w.heap.size w w2 := H1.out.2.trans (hM.below.mono H1.out.2.size)
  clear hM hl l H1
  clear γ
  have H2 : Hid (_ ∧ _) := ⟨M2, B2⟩
  clear M2 B2
  refine rest_at (l := []) rfl ?_
  refine rest_nil ?_
  refine then_normal ?_
  refine wp_cond_true rfl ?_
  refine wp_seq ?_
  refine walk_seq 1 [.quiet (N 0)] (fun w' => Mm w' [(γ1_0, cells6 a), (γ1_1, zero6)]) ?pre3 ?F3 ?hpre3 (fun γ => ?hF3) (by kernel_rfl) ?hL3 ?hS3 ?ho3 ?he3
  case hpre3 =>
    simp only [List.take_succ_cons, List.take_zero]
    exact rfl
  case hF3 =>
    simp only [fill, Kind.val, Act.put, List.setIfInBounds_toArray, List.set_cons_zero, List.set_cons_succ]
    exact rfl
  case hL3 => exact trivial
  case hS3 => exact fun w' hb => H2.out.1.below hb
  case ho3 =>
    refine AllOk.cons ?_ ?_
    · (refine fun γ => ⟨rfl, fun w' h => ?_⟩; clear h; exact ex_zero6 rfl)
    exact trivial
  intro γ w3 l hM hl
  have M3 : Mm w3 [(γ1_0, cells6 a), (γ1_1, zero6)] := H2.out.1.grow hM (Nat.le_refl _) hl [] rfl (by decide)
  have B3 : Below w.heap.size w w3 := H2.out.2.trans (hM.below.mono H2.out.2.size)
  clear hM hl l H2
  clear γ
  have H3 : Hid (_ ∧ _) := ⟨M3, B3⟩
  clear M3 B3
  refine rest_at (l := [1, 2]) rfl ?_
  refine rest_store rfl rfl rfl (ex_store6 H3.out.1 1 rfl rfl rfl rfl (Nat.le_of_ble_eq_true rfl)) ?_
  have H4 : Hid (Mm (w3.setCells γ1_1 0 (cells6 0)) [(γ1_0, cells6 a), (γ1_1, cells6 0)] ∧ Below w.heap.size w (w3.setCells γ1_1 0 (cells6 0))) := ⟨H3.out.1.put 1 (off := 0) (vs := cells6 0) rfl (Nat.le_of_ble_eq_true rfl), below_setCells _ o1_1.out _ _ _ H3.out.2⟩
  clear H3
  generalize hgw : World.setCells _ _ _ _ = w4 at H4 ⊢
  clear hgw
  refine rest_set (d := 5) rfl rfl rfl rfl ?_
  simp only [Act.put, List.setIfInBounds_toArray, List.set_cons_zero, List.set_cons_succ]
  refine rest_nil ?_
  refine then_normal ?_
  refine wp_ret ?_
  repeat (first | refine then_ret ?_ | refine block_ret ?_)
  have c0 := H4.out.1.get 1 rfl 0 rfl
  have c1 := H4.out.1.get 1 rfl 1 rfl
  have c2 := H4.out.1.get 1 rfl 2 rfl
  have c3 := H4.out.1.get 1 rfl 3 rfl
  have c4 := H4.out.1.get 1 rfl 4 rfl
  have c5 := H4.out.1.get 1 rfl 5 rfl
  refine bodyPost_ret (v := .tuple #[N 0, .int .i64 1]) (by simp [results, Tryd.results27, go_sem, *]) rfl ?_
  exact ⟨rfl, H4.out.2⟩
set_option maxRecDepth 100000 in
theorem neg_nil (a : Nat) (w : World) :
    Calls Tryd.prog 19 #[.pointer none, N a] w fun e w' => e = .returned (N 0) ∧ Below w.heap.size w w' := by
  have H0 : Hid (_ ∧ _) := ⟨Mm.nil w, Below.refl w.heap.size w⟩
  have CS : Hid _ := sub_nil 0 a
  go_enter Tryd.func19, Tryd.ntmps19
  refine wp_seq ?_
  refine walk_seq 2 [.made (cells6 a) 24, .made zero6 24] (fun w' => Mm w' []) ?pre1 ?F1 ?hpre1 (fun γ => ?hF1) (by kernel_rfl) ?hL1 ?hS1 ?ho1 ?he1
  case hpre1 =>
    simp only [List.take_succ_cons, List.take_zero]
    exact rfl
  case hF1 =>
    simp only [fill, Kind.val, Act.put, List.setIfInBounds_toArray, List.set_cons_zero, List.set_cons_succ]
    exact rfl
  case hL1 => exact trivial
  case hS1 => exact fun w' hb => H0.out.1.below hb
  case ho1 =>
    refine AllOk.cons ?_ ?_
    · exact fun γ => ⟨rfl, fun w' => ex_box6 rfl rfl⟩
    refine AllOk.cons ?_ ?_
    · exact fun γ => ⟨rfl, fun w' => exec_made6 rfl⟩
    exact trivial
  intro γ w1 l hM hl
  have M1 : Mm w1 [(γ 0, cells6 a), (γ 1, zero6)] := H0.out.1.grow hM (Nat.le_refl _) hl [0, 1] rfl (by decide)
  have B1 : Below w.heap.size w w1 := H0.out.2.trans (hM.below.mono H0.out.2.size)
  have o1_0 : Hid (w.heap.size ≤ γ 0) := Nat.le_trans H0.out.2.size (hM.fin (Nat.le_refl _) hl (i := 0) rfl).2.1
  have o1_1 : Hid (w.heap.size ≤ γ 1) := Nat.le_trans H0.out.2.size (hM.fin (Nat.le_refl _) hl (i := 1) rfl).2.1
  clear hM hl l
  generalize γ 0 = γ1_0 at M1 o1_0 ⊢
  generalize γ 1 = γ1_1 at M1 o1_1 ⊢
  clear γ
  have H1 : Hid (_ ∧ _) := ⟨M1, B1⟩
  clear M1 B1
  refine rest_at (l := []) rfl ?_
  refine rest_nil ?_
  refine then_normal ?_
  refine wp_seq ?_
  refine walk_seq 4 [.quiet (.pointer none), .quiet (N 0), .quiet (N a), .call (N 0)] (fun w' => Mm w' [(γ1_0, cells6 a), (γ1_1, zero6)]) ?pre2 ?F2 ?hpre2 (fun γ => ?hF2) (by kernel_rfl) ?hL2 ?hS2 ?ho2 ?he2
  case hpre2 =>
    simp only [List.take_succ_cons, List.take_zero]
    exact rfl
  case hF2 =>
    simp only [fill, Kind.val, Act.put, List.setIfInBounds_toArray, List.set_cons_zero, List.set_cons_succ]
    exact rfl
  case hL2 => exact trivial
  case hS2 => exact fun w' hb => H1.out.1.below hb
  case ho2 =>
    refine AllOk.cons ?_ ?_
    · exact fun γ => ⟨rfl, fun w' _ => rfl⟩
    refine AllOk.cons ?_ ?_
    · (refine fun γ => ⟨rfl, fun w' h => ?_⟩; clear h; exact ex_zero6 rfl)
    refine AllOk.cons ?_ ?_
    · exact fun γ => ⟨rfl, fun w' h => ex_load6 h 0 rfl rfl rfl rfl⟩
    refine AllOk.cons ?_ ?_
    · exact fun γ => ⟨rfl, fun w' h => ⟨17, #[.pointer none, N 0, N a], exec_call rfl call17 rfl (by simp only [List.map_toArray, List.map_cons, List.map_nil]; rfl), CS.out w'⟩⟩
    exact trivial
  intro γ w2 l hM hl
  have M2 : Mm w2 [(γ1_0, cells6 a), (γ1_1, zero6)] := H1.out.1.grow hM (Nat.le_refl _) hl [] rfl (by decide)
  have B2 : Below w.heap.size w w2 := H1.out.2.trans (hM.below.mono H1.out.2.size)
  clear hM hl l H1
  clear γ
  have H2 : Hid (_ ∧ _) := ⟨M2, B2⟩
  clear M2 B2
  refine rest_at (l := [4]) rfl ?_
  refine rest_store rfl rfl rfl (ex_store6 H2.out.1 1 rfl rfl rfl rfl (Nat.le_of_ble_eq_true rfl)) ?_
  have H3 : Hid (Mm (w2.setCells γ1_1 0 (cells6 0)) [(γ1_0, cells6 a), (γ1_1, cells6 0)] ∧ Below w.heap.size w (w2.setCells γ1_1 0 (cells6 0))) := ⟨H2.out.1.put 1 (off := 0) (vs := cells6 0) rfl (Nat.le_of_ble_eq_true rfl), below_setCells _ o1_1.out _ _ _ H2.out.2⟩
  clear H2
  generalize hgw : World.setCells _ _ _ _ = w3 at H3 ⊢
  clear hgw
  refine rest_nil ?_
  refine then_normal ?_
  refine wp_ret ?_
  repeat (first | refine then_ret ?_ | refine block_ret ?_)
  have c0 := H3.out.1.get 1 rfl 0 rfl
  have c1 := H3.out.1.get 1 rfl 1 rfl
  have c2 := H3.out.1.get 1 rfl 2 rfl
  have c3 := H3.out.1.get 1 rfl 3 rfl
  have c4 := H3.out.1.get 1 rfl 4 rfl
  have c5 := H3.out.1.get 1 rfl 5 rfl
  refine bodyPost_ret (v := N 0) (by simp [results, Tryd.results19, go_sem, *]) rfl ?_
  exact ⟨rfl, H3.out.2⟩
set_option maxRecDepth 100000 in
theorem n_zero (g  : Nat) (w : World) (hm : Mm w [(g, zero19)]) :
    Calls Tryd.prog 10 #[PT g 0] w fun e w' => e = .returned (N 0) ∧ Below w.heap.size w w' := by
  have H0 : Hid (_ ∧ _) := ⟨hm, Below.refl w.heap.size w⟩
  clear hm
  have CM : Hid _ := made_zero g
  go_enter Tryd.func10, Tryd.ntmps10
  refine wp_seq ?_
  refine walk_seq 1 [.made zero6 24] (fun w' => Mm w' [(g, zero19)]) ?pre1 ?F1 ?hpre1 (fun γ => ?hF1) (by kernel_rfl) ?hL1 ?hS1 ?ho1 ?he1
  case hpre1 =>
    simp only [List.take_succ_cons, List.take_zero]
    exact rfl
  case hF1 =>
    simp only [fill, Kind.val, Act.put, List.setIfInBounds_toArray, List.set_cons_zero, List.set_cons_succ]
    exact rfl
  case hL1 => exact trivial
  case hS1 => exact fun w' hb => H0.out.1.below hb
  case ho1 =>
    refine AllOk.cons ?_ ?_
    · exact fun γ => ⟨rfl, fun w' => exec_made6 rfl⟩
    exact trivial
  intro γ w1 l hM hl
  have M1 : Mm w1 [(γ 0, zero6), (g, zero19)] := H0.out.1.grow hM (Nat.le_refl _) hl [0] rfl (by decide)
  have B1 : Below w.heap.size w w1 := H0.out.2.trans (hM.below.mono H0.out.2.size)
  have o1_0 : Hid (w.heap.size ≤ γ 0) := Nat.le_trans H0.out.2.size (hM.fin (Nat.le_refl _) hl (i := 0) rfl).2.1
  clear hM hl l
  generalize γ 0 = γ1_0 at M1 o1_0 ⊢
  clear γ
  have H1 : Hid (_ ∧ _) := ⟨M1, B1⟩
  clear M1 B1
  refine rest_at (l := []) rfl ?_
  refine rest_nil ?_
  refine then_normal ?_
  refine wp_seq ?_
  refine wp_seq ?_
  refine walk_seq 3 [.quiet (PT g 0), .call (.bool false), .quiet (.bool true)] (fun w' => Mm w' [(γ1_0, zero6), (g, zero19)]) ?pre2 ?F2 ?hpre2 (fun γ => ?hF2) (by kernel_rfl) ?hL2 ?hS2 ?ho2 ?he2
  case hpre2 =>
    simp only [List.take_succ_cons, List.take_zero]
    exact rfl
  case hF2 =>
    simp only [fill, Kind.val, Act.put, List.setIfInBounds_toArray, List.set_cons_zero, List.set_cons_succ]
    exact rfl
  case hL2 => exact trivial
  case hS2 => exact fun w' hb => H1.out.1.below hb
  case ho2 =>
    refine AllOk.cons ?_ ?_
    · exact fun γ => ⟨rfl, fun w' _ => rfl⟩
    refine AllOk.cons ?_ ?_
    · exact fun γ => ⟨rfl, fun w' h => ⟨39, #[PT g 0], exec_call rfl call39 rfl (by simp only [List.map_toArray, List.map_cons, List.map_nil]; rfl), CM.out w' (h.one 1 rfl)⟩⟩
    refine AllOk.cons ?_ ?_
    · (refine fun γ => ⟨rfl, fun w' h => ?_⟩; clear h; go_simp)
    exact trivial
  intro γ w2 l hM hl
  have M2 : Mm w2 [(γ1_0, zero6), (g, zero19)] := H1.out.1.grow hM (Nat.le_refl _) hl [] rfl (by decide)
  have B2 : Below w.heap.size w w2 := H1.out.2.trans (hM.below.mono H1.out.2.size)
  clear hM hl l H1
  clear γ
  have H2 : Hid (_ ∧ _) := ⟨M2, B2⟩
  clear M2 B2
  refine rest_at (l := []) rfl ?_
  refine rest_nil ?_
  refine then_normal ?_
  refine wp_cond_true rfl ?_
  refine wp_seq ?_
  refine walk_seq 1 [.quiet (N 0)] (fun w' => Mm w' [(γ1_0, zero6), (g, zero19)]) ?pre3 ?F3 ?hpre3 (fun γ => ?hF3) (by kernel_rfl) ?hL3 ?hS3 ?ho3 ?he3
  case hpre3 =>
    simp only [List.take_succ_cons, List.take_zero]
    exact rfl
  case hF3 =>
    simp only [fill, Kind.val, Act.put, List.setIfInBounds_toArray, List.set_cons_zero, List.set_cons_succ]
    exact rfl
  case hL3 => exact trivial
  case hS3 => exact fun w' hb => H2.out.1.below hb
  case ho3 =>
    refine AllOk.cons ?_ ?_
    · (refine fun γ => ⟨rfl, fun w' h => ?_⟩; clear h; exact ex_zero6 rfl)
    exact trivial
  intro γ w3 l hM hl
  have M3 : Mm w3 [(γ1_0, zero6), (g, zero19)] := H2.out.1.grow hM (Nat.le_refl _) hl [] rfl (by decide)
  have B3 : Below w.heap.size w w3 := H2.out.2.trans (hM.below.mono H2.out.2.size)
  clear hM hl l H2
  clear γ
  have H3 : Hid (_ ∧ _) := ⟨M3, B3⟩
  clear M3 B3
  refine rest_at (l := [1]) rfl ?_
  refine rest_store rfl rfl rfl (ex_store6 H3.out.1 0 rfl rfl rfl rfl (Nat.le_of_ble_eq_true rfl)) ?_
  have H4 : Hid (Mm (w3.setCells γ1_0 0 (cells6 0)) [(γ1_0, cells6 0), (g, zero19)] ∧ Below w.heap.size w (w3.setCells γ1_0 0 (cells6 0))) := ⟨H3.out.1.put 0 (off := 0) (vs := cells6 0) rfl (Nat.le_of_ble_eq_true rfl), below_setCells _ o1_0.out _ _ _ H3.out.2⟩
  clear H3
  generalize hgw : World.setCells _ _ _ _ = w4 at H4 ⊢
  clear hgw
  refine rest_nil ?_
  refine then_normal ?_
  refine wp_ret ?_
  repeat (first | refine then_ret ?_ | refine block_ret ?_)
  have c0 := H4.out.1.get 0 rfl 0 rfl
  have c1 := H4.out.1.get 0 rfl 1 rfl
  have c2 := H4.out.1.get 0 rfl 2 rfl
  have c3 := H4.out.1.get 0 rfl 3 rfl
  have c4 := H4.out.1.get 0 rfl 4 rfl
  have c5 := H4.out.1.get 0 rfl 5 rfl
  refine bodyPost_ret (v := N 0) (by simp [results, Tryd.results10, go_sem, *]) rfl ?_
  exact ⟨rfl, H4.out.2⟩
set_option maxRecDepth 100000 in
theorem reduce_zero (g a : Nat) (w : World) (hm : Mm w [(g, zero19)]) :
    Calls Tryd.prog 11 #[PT g 0, N a] w fun e w' => e = .returned (N 0) ∧ Below w.heap.size w w' := by
  have H0 : Hid (_ ∧ _) := ⟨hm, Below.refl w.heap.size w⟩
  clear hm
  have CM : Hid _ := made_zero g
  go_enter Tryd.func11, Tryd.ntmps11
  refine wp_seq ?_
  refine walk_seq 2 [.made (cells6 a) 24, .made zero6 24] (fun w' => Mm w' [(g, zero19)]) ?pre1 ?F1 ?hpre1 (fun γ => ?hF1) (by kernel_rfl) ?hL1 ?hS1 ?ho1 ?he1
  case hpre1 =>
    simp only [List.take_succ_cons, List.take_zero]
    exact rfl
  case hF1 =>
    simp only [fill, Kind.val, Act.put, List.setIfInBounds_toArray, List.set_cons_zero, List.set_cons_succ]
    exact rfl
  case hL1 => exact trivial
  case hS1 => exact fun w' hb => H0.out.1.below hb
  case ho1 =>
    refine AllOk.cons ?_ ?_
    · exact fun γ => ⟨rfl, fun w' => ex_box6 rfl rfl⟩
    refine AllOk.cons ?_ ?_
    · exact fun γ => ⟨rfl, fun w' => exec_made6 rfl⟩
    exact trivial
  intro γ w1 l hM hl
  have M1 : Mm w1 [(γ 0, cells6 a), (γ 1, zero6), (g, zero19)] := H0.out.1.grow hM (Nat.le_refl _) hl [0, 1] rfl (by decide)
  have B1 : Below w.heap.size w w1 := H0.out.2.trans (hM.below.mono H0.out.2.size)
  have o1_0 : Hid (w.heap.size ≤ γ 0) := Nat.le_trans H0.out.2.size (hM.fin (Nat.le_refl _) hl (i := 0) rfl).2.1
  have o1_1 : Hid (w.heap.size ≤ γ 1) := Nat.le_trans H0.out.2.size (hM.fin (Nat.le_refl _) hl (i := 1) rfl).2.1
  clear hM hl l
  generalize γ 0 = γ1_0 at M1 o1_0 ⊢
  generalize γ 1 = γ1_1 at M1 o1_1 ⊢
  clear γ
  have H1 : Hid (_ ∧ _) := ⟨M1, B1⟩
  clear M1 B1
  refine rest_at (l := []) rfl ?_
  refine rest_nil ?_
  refine then_normal ?_
  refine wp_seq ?_
  refine wp_seq ?_
  refine walk_seq 3 [.quiet (PT g 0), .call (.bool false), .quiet (.bool true)] (fun w' => Mm w' [(γ1_0, cells6 a), (γ1_1, zero6), (g, zero19)]) ?pre2 ?F2 ?hpre2 (fun γ => ?hF2) (by kernel_rfl) ?hL2 ?hS2 ?ho2 ?he2
  case hpre2 =>
    simp only [List.take_succ_cons, List.take_zero]
    exact rfl
  case hF2 =>
    simp only [fill, Kind.val, Act.put, List.setIfInBounds_toArray, List.set_cons_zero, List.set_cons_succ]
    exact rfl
  case hL2 => exact trivial
  case hS2 => exact fun w' hb => H1.out.1.below hb
  case ho2 =>
    refine AllOk.cons ?_ ?_
    · exact fun γ => ⟨rfl, fun w' _ => rfl⟩
    refine AllOk.cons ?_ ?_
    · exact fun γ => ⟨rfl, fun w' h => ⟨39, #[PT g 0], exec_call rfl call39 rfl (by simp only [List.map_toArray, List.map_cons, List.map_nil]; rfl), CM.out w' (h.one 2 rfl)⟩⟩
    refine AllOk.cons ?_ ?_
    · (refine fun γ => ⟨rfl, fun w' h => ?_⟩; clear h; go_simp)
    exact trivial
  intro γ w2 l hM hl
  have M2 : Mm w2 [(γ1_0, cells6 a), (γ1_1, zero6), (g, zero19)] := H1.out.1.grow hM (Nat.le_refl _) hl [] rfl (by decide)
  have B2 : Below w.heap.size w w2 := H1.out.2.trans (hM.below.mono H1.out.2.size)
  clear hM hl l H1
  clear γ
  have H2 : Hid (_ ∧ _) := ⟨M2, B2⟩
  clear M2 B2
  refine rest_at (l := []) rfl ?_
  refine rest_nil ?_
  refine then_normal ?_
  refine wp_cond_true rfl ?_
  refine wp_seq ?_
  refine walk_seq 1 [.quiet (N 0)] (fun w' => Mm w' [(γ1_0, cells6 a), (γ1_1, zero6), (g, zero19)]) ?pre3 ?F3 ?hpre3 (fun γ => ?hF3) (by kernel_rfl) ?hL3 ?hS3 ?ho3 ?he3
  case hpre3 =>
    simp only [List.take_succ_cons, List.take_zero]
    exact rfl
  case hF3 =>
    simp only [fill, Kind.val, Act.put, List.setIfInBounds_toArray, List.set_cons_zero, List.set_cons_succ]
    exact rfl
  case hL3 => exact trivial
  case hS3 => exact fun w' hb => H2.out.1.below hb
  case ho3 =>
    refine AllOk.cons ?_ ?_
    · (refine fun γ => ⟨rfl, fun w' h => ?_⟩; clear h; exact ex_zero6 rfl)
    exact trivial
  intro γ w3 l hM hl
  have M3 : Mm w3 [(γ1_0, cells6 a), (γ1_1, zero6), (g, zero19)] := H2.out.1.grow hM (Nat.le_refl _) hl [] rfl (by decide)
  have B3 : Below w.heap.size w w3 := H2.out.2.trans (hM.below.mono H2.out.2.size)
  clear hM hl l H2
  clear γ
  have H3 : Hid (_ ∧ _) := ⟨M3, B3⟩
  clear M3 B3
  refine rest_at (l := [1]) rfl ?_
  refine rest_store rfl rfl rfl (ex_store6 H3.out.1 1 rfl rfl rfl rfl (Nat.le_of_ble_eq_true rfl)) ?_
  have H4 : Hid (Mm (w3.setCells γ1_1 0 (cells6 0)) [(γ1_0, cells6 a), (γ1_1, cells6 0), (g, zero19)] ∧ Below w.heap.size w (w3.setCells γ1_1 0 (cells6 0))) := ⟨H3.out.1.put 1 (off := 0) (vs := cells6 0) rfl (Nat.le_of_ble_eq_true rfl), below_setCells _ o1_1.out _ _ _ H3.out.2⟩
  clear H3
  generalize hgw : World.setCells _ _ _ _ = w4 at H4 ⊢
  clear hgw
  refine rest_nil ?_
  refine then_normal ?_
  refine wp_ret ?_
  repeat (first | refine then_ret ?_ | refine block_ret ?_)
  have c0 := H4.out.1.get 1 rfl 0 rfl
  have c1 := H4.out.1.get 1 rfl 1 rfl
  have c2 := H4.out.1.get 1 rfl 2 rfl
  have c3 := H4.out.1.get 1 rfl 3 rfl
  have c4 := H4.out.1.get 1 rfl 4 rfl
  have c5 := H4.out.1.get 1 rfl 5 rfl
  refine bodyPost_ret (v := N 0) (by simp [results, Tryd.results11, go_sem, *]) rfl ?_
  exact ⟨rfl, H4.out.2⟩
set_option maxRecDepth 100000 in
theorem wide_zero (g a b : Nat) (w : World) (hm : Mm w [(g, zero19)]) :
    Calls Tryd.prog 13 #[PT g 0, N a, N b] w fun e w' => e = .returned (N 0) ∧ Below w.heap.size w w' := by
  have H0 : Hid (_ ∧ _) := ⟨hm, Below.refl w.heap.size w⟩
  clear hm
  have CM : Hid _ := made_zero g
  go_enter Tryd.func13, Tryd.ntmps13
  refine wp_seq ?_
  refine walk_seq 3 [.made (cells6 a) 24, .made (cells6 b) 24, .made zero6 24] (fun w' => Mm w' [(g, zero19)]) ?pre1 ?F1 ?hpre1 (fun γ => ?hF1) (by kernel_rfl) ?hL1 ?hS1 ?ho1 ?he1
  case hpre1 =>
    simp only [List.take_succ_cons, List.take_zero]
    exact rfl
  case hF1 =>
    simp only [fill, Kind.val, Act.put, List.setIfInBounds_toArray, List.set_cons_zero, List.set_cons_succ]
    exact rfl
  case hL1 => exact trivial
  case hS1 => exact fun w' hb => H0.out.1.below hb
  case ho1 =>
    refine AllOk.cons ?_ ?_
    · exact fun γ => ⟨rfl, fun w' => ex_box6 rfl rfl⟩
    refine AllOk.cons ?_ ?_
    · exact fun γ => ⟨rfl, fun w' => ex_box6 rfl rfl⟩
    refine AllOk.cons ?_ ?_
    · exact fun γ => ⟨rfl, fun w' => exec_made6 rfl⟩
    exact trivial
  intro γ w1 l hM hl
  have M1 : Mm w1 [(γ 0, cells6 a), (γ 1, cells6 b), (γ 2, zero6), (g, zero19)] := H0.out.1.grow hM (Nat.le_refl _) hl [0, 1, 2] rfl (by decide)
  have B1 : Below w.heap.size w w1 := H0.out.2.trans (hM.below.mono H0.out.2.size)
  have o1_0 : Hid (w.heap.size ≤ γ 0) := Nat.le_trans H0.out.2.size (hM.fin (Nat.le_refl _) hl (i := 0) rfl).2.1
  have o1_1 : Hid (w.heap.size ≤ γ 1) := Nat.le_trans H0.out.2.size (hM.fin (Nat.le_refl _) hl (i := 1) rfl).2.1
  have o1_2 : Hid (w.heap.size ≤ γ 2) := Nat.le_trans H0.out.2.size (hM.fin (Nat.le_refl _) hl (i := 2) rfl).2.1
  clear hM hl l
  generalize γ 0 = γ1_0 at M1 o1_0 ⊢
  generalize γ 1 = γ1_1 at M1 o1_1 ⊢
  generalize γ 2 = γ1_2 at M1 o1_2 ⊢
  clear γ
  have H1 : Hid (_ ∧ _) := ⟨M1, B1⟩
  clear M1 B1
  refine rest_at (l := []) rfl ?_
  refine rest_nil ?_
  refine then_normal ?_
  refine wp_seq ?_
  refine wp_seq ?_
  refine walk_seq 3 [.quiet (PT g 0), .call (.bool false), .quiet (.bool true)] (fun w' => Mm w' [(γ1_0, cells6 a), (γ1_1, cells6 b), (γ1_2, zero6), (g, zero19)]) ?pre2 ?F2 ?hpre2 (fun γ => ?hF2) (by kernel_rfl) ?hL2 ?hS2 ?ho2 ?he2
  case hpre2 =>
    simp only [List.take_succ_cons, List.take_zero]
    exact rfl
  case hF2 =>
    simp only [fill, Kind.val, Act.put, List.setIfInBounds_toArray, List.set_cons_zero, List.set_cons_succ]
    exact rfl
  case hL2 => exact trivial
  case hS2 => exact fun w' hb => H1.out.1.below hb
  case ho2 =>
    refine AllOk.cons ?_ ?_
    · exact fun γ => ⟨rfl, fun w' _ => rfl⟩
    refine AllOk.cons ?_ ?_
    · exact fun γ => ⟨rfl, fun w' h => ⟨39, #[PT g 0], exec_call rfl call39 rfl (by simp only [List.map_toArray, List.map_cons, List.map_nil]; rfl), CM.out w' (h.one 3 rfl)⟩⟩
    refine AllOk.cons ?_ ?_
    · (refine fun γ => ⟨rfl, fun w' h => ?_⟩; clear h; go_simp)
    exact trivial
  intro γ w2 l hM hl
  have M2 : Mm w2 [(γ1_0, cells6 a), (γ1_1, cells6 b), (γ1_2, zero6), (g, zero19)] := H1.out.1.grow hM (Nat.le_refl _) hl [] rfl (by decide)
  have B2 : Below w.heap.size w w2 := H1.out.2.trans (hM.below.mono H1.out.2.size)
  clear hM hl l H1
  clear γ
  have H2 : Hid (_ ∧ _) := ⟨M2, B2⟩
  clear M2 B2
  refine rest_at (l := []) rfl ?_
  refine rest_nil ?_
  refine then_normal ?_
  refine wp_cond_true rfl ?_
  refine wp_seq ?_
  refine walk_seq 1 [.quiet (N 0)] (fun w' => Mm w' [(γ1_0, cells6 a), (γ1_1, cells6 b), (γ1_2, zero6), (g, zero19)]) ?pre3 ?F3 ?hpre3 (fun γ => ?hF3) (by kernel_rfl) ?hL3 ?hS3 ?ho3 ?he3
  case hpre3 =>
    simp only [List.take_succ_cons, List.take_zero]
    exact rfl
  case hF3 =>
    simp only [fill, Kind.val, Act.put, List.setIfInBounds_toArray, List.set_cons_zero, List.set_cons_succ]
    exact rfl
  case hL3 => exact trivial
  case hS3 => exact fun w' hb => H2.out.1.below hb
  case ho3 =>
    refine AllOk.cons ?_ ?_
    · (refine fun γ => ⟨rfl, fun w' h => ?_⟩; clear h; exact ex_zero6 rfl)
    exact trivial
  intro γ w3 l hM hl
  have M3 : Mm w3 [(γ1_0, cells6 a), (γ1_1, cells6 b), (γ1_2, zero6), (g, zero19)] := H2.out.1.grow hM (Nat.le_refl _) hl [] rfl (by decide)
  have B3 : Below w.heap.size w w3 := H2.out.2.trans (hM.below.mono H2.out.2.size)
  clear hM hl l H2
  clear γ
  have H3 : Hid (_ ∧ _) := ⟨M3, B3⟩
  clear M3 B3
  refine rest_at (l := [1]) rfl ?_
  refine rest_store rfl rfl rfl (ex_store6 H3.out.1 2 rfl rfl rfl rfl (Nat.le_of_ble_eq_true rfl)) ?_
  have H4 : Hid (Mm (w3.setCells γ1_2 0 (cells6 0)) [(γ1_0, cells6 a), (γ1_1, cells6 b), (γ1_2, cells6 0), (g, zero19)] ∧ Below w.heap.size w (w3.setCells γ1_2 0 (cells6 0))) := ⟨H3.out.1.put 2 (off := 0) (vs := cells6 0) rfl (Nat.le_of_ble_eq_true rfl), below_setCells _ o1_2.out _ _ _ H3.out.2⟩
  clear H3
  generalize hgw : World.setCells _ _ _ _ = w4 at H4 ⊢
  clear hgw
  refine rest_nil ?_
  refine then_normal ?_
  refine wp_ret ?_
  repeat (first | refine then_ret ?_ | refine block_ret ?_)
  have c0 := H4.out.1.get 2 rfl 0 rfl
  have c1 := H4.out.1.get 2 rfl 1 rfl
  have c2 := H4.out.1.get 2 rfl 2 rfl
  have c3 := H4.out.1.get 2 rfl 3 rfl
  have c4 := H4.out.1.get 2 rfl 4 rfl
  have c5 := H4.out.1.get 2 rfl 5 rfl
  refine bodyPost_ret (v := N 0) (by simp [results, Tryd.results13, go_sem, *]) rfl ?_
  exact ⟨rfl, H4.out.2⟩
set_option maxRecDepth 100000 in
theorem add_zero (g a b : Nat) (w : World) (hm : Mm w [(g, zero19)]) :
    Calls Tryd.prog 15 #[PT g 0, N a, N b] w fun e w' => e = .returned (N 0) ∧ Below w.heap.size w w' := by
  have H0 : Hid (_ ∧ _) := ⟨hm, Below.refl w.heap.size w⟩
  clear hm
  have CM : Hid _ := made_zero g
  go_enter Tryd.func15, Tryd.ntmps15
  refine wp_seq ?_
  refine walk_seq 3 [.made (cells6 a) 24, .made (cells6 b) 24, .made zero6 24] (fun w' => Mm w' [(g, zero19)]) ?pre1 ?F1 ?hpre1 (fun γ => ?hF1) (by kernel_rfl) ?hL1 ?hS1 ?ho1 ?he1
  case hpre1 =>
    simp only [List.take_succ_cons, List.take_zero]
    exact rfl
  case hF1 =>
    simp only [fill, Kind.val, Act.put, List.setIfInBounds_toArray, List.set_cons_zero, List.set_cons_succ]
    exact rfl
  case hL1 => exact trivial
  case hS1 => exact fun w' hb => H0.out.1.below hb
  case ho1 =>
    refine AllOk.cons ?_ ?_
    · exact fun γ => ⟨rfl, fun w' => ex_box6 rfl rfl⟩
    refine AllOk.cons ?_ ?_
    · exact fun γ => ⟨rfl, fun w' => ex_box6 rfl rfl⟩
    refine AllOk.cons ?_ ?_
    · exact fun γ => ⟨rfl, fun w' => exec_made6 rfl⟩
    exact trivial
  intro γ w1 l hM hl
  have M1 : Mm w1 [(γ 0, cells6 a), (γ 1, cells6 b), (γ 2, zero6), (g, zero19)] := H0.out.1.grow hM (Nat.le_refl _) hl [0, 1, 2] rfl (by decide)
  have B1 : Below w.heap.size w w1 := H0.out.2.trans (hM.below.mono H0.out.2.size)
  have o1_0 : Hid (w.heap.size ≤ γ 0) := Nat.le_trans H0.out.2.size (hM.fin (Nat.le_refl _) hl (i := 0) rfl).2.1
  have o1_1 : Hid (w.heap.size ≤ γ 1) := Nat.le_trans H0.out.2.size (hM.fin (Nat.le_refl _) hl (i := 1) rfl).2.1
  have o1_2 : Hid (w.heap.size ≤ γ 2) := Nat.le_trans H0.out.2.size (hM.fin (Nat.le_refl _) hl (i := 2) rfl).2.1
  clear hM hl l
  generalize γ 0 = γ1_0 at M1 o1_0 ⊢
  generalize γ 1 = γ1_1 at M1 o1_1 ⊢
  generalize γ 2 = γ1_2 at M1 o1_2 ⊢
  clear γ
  have H1 : Hid (_ ∧ _) := ⟨M1, B1⟩
  clear M1 B1
  refine rest_at (l := []) rfl ?_
  refine rest_nil ?_
  refine then_normal ?_
  refine wp_seq ?_
  refine wp_seq ?_
  refine walk_seq 3 [.quiet (PT g 0), .call (.bool false), .quiet (.bool true)] (fun w' => Mm w' [(γ1_0, cells6 a), (γ1_1, cells6 b), (γ1_2, zero6), (g, zero19)]) ?pre2 ?F2 ?hpre2 (fun γ => ?hF2) (by kernel_rfl) ?hL2 ?hS2 ?ho2 ?he2
  case hpre2 =>
    simp only [List.take_succ_cons, List.take_zero]
    exact rfl
  case hF2 =>
    simp only [fill, Kind.val, Act.put, List.setIfInBounds_toArray, List.set_cons_zero, List.set_cons_succ]
    exact rfl
  case hL2 => exact trivial
  case hS2 => exact fun w' hb => H1.out.1.below hb
  case ho2 =>
    refine AllOk.cons ?_ ?_
    · exact fun γ => ⟨rfl, fun w' _ => rfl⟩
    refine AllOk.cons ?_ ?_
    · exact fun γ => ⟨rfl, fun w' h => ⟨39, #[PT g 0], exec_call rfl call39 rfl (by simp only [List.map_toArray, List.map_cons, List.map_nil]; rfl), CM.out w' (h.one 3 rfl)⟩⟩
    refine AllOk.cons ?_ ?_
    · (refine fun γ => ⟨rfl, fun w' h => ?_⟩; clear h; go_simp)
    exact trivial
  intro γ w2 l hM hl
  have M2 : Mm w2 [(γ1_0, cells6 a), (γ1_1, cells6 b), (γ1_2, zero6), (g, zero19)] := H1.out.1.grow hM (Nat.le_refl _) hl [] rfl (by decide)
  have B2 : Below w.heap.size w w2 := H1.out.2.trans (hM.below.mono H1.out.2.size)
  clear hM hl l H1
  clear γ
  have H2 : Hid (_ ∧ _) := ⟨M2, B2⟩
  clear M2 B2
  refine rest_at (l := []) rfl ?_
  refine rest_nil ?_
  refine then_normal ?_
  refine wp_cond_true rfl ?_
  refine wp_seq ?_
  refine walk_seq 1 [.quiet (N 0)] (fun w' => Mm w' [(γ1_0, cells6 a), (γ1_1, cells6 b), (γ1_2, zero6), (g, zero19)]) ?pre3 ?F3 ?hpre3 (fun γ => ?hF3) (by kernel_rfl) ?hL3 ?hS3 ?ho3 ?he3
  case hpre3 =>
    simp only [List.take_succ_cons, List.take_zero]
    exact rfl
  case hF3 =>
    simp only [fill, Kind.val, Act.put, List.setIfInBounds_toArray, List.set_cons_zero, List.set_cons_succ]
    exact rfl
  case hL3 => exact trivial
  case hS3 => exact fun w' hb => H2.out.1.below hb
  case ho3 =>
    refine AllOk.cons ?_ ?_
    · (refine fun γ => ⟨rfl, fun w' h => ?_⟩; clear h; exact ex_zero6 rfl)
    exact trivial
  intro γ w3 l hM hl
  have M3 : Mm w3 [(γ1_0, cells6 a), (γ1_1, cells6 b), (γ1_2, zero6), (g, zero19)] := H2.out.1.grow hM (Nat.le_refl _) hl [] rfl (by decide)
  have B3 : Below w.heap.size w w3 := H2.out.2.trans (hM.below.mono H2.out.2.size)
  clear hM hl l H2
  clear γ
  have H3 : Hid (_ ∧ _) := ⟨M3, B3⟩
  clear M3 B3
  refine rest_at (l := [1]) rfl ?_
  refine rest_store rfl rfl rfl (ex_store6 H3.out.1 2 rfl rfl rfl rfl (Nat.le_of_ble_eq_true rfl)) ?_
  have H4 : Hid (Mm (w3.setCells γ1_2 0 (cells6 0)) [(γ1_0, cells6 a), (γ1_1, cells6 b), (γ1_2, cells6 0), (g, zero19)] ∧ Below w.heap.size w (w3.setCells γ1_2 0 (cells6 0))) := ⟨H3.out.1.put 2 (off := 0) (vs := cells6 0) rfl (Nat.le_of_ble_eq_true rfl), below_setCells _ o1_2.out _ _ _ H3.out.2⟩
  clear H3
  generalize hgw : World.setCells _ _ _ _ = w4 at H4 ⊢
  clear hgw
  refine rest_nil ?_
  refine then_normal ?_
  refine wp_ret ?_
  repeat (first | refine then_ret ?_ | refine block_ret ?_)
  have c0 := H4.out.1.get 2 rfl 0 rfl
  have c1 := H4.out.1.get 2 rfl 1 rfl
  have c2 := H4.out.1.get 2 rfl 2 rfl
  have c3 := H4.out.1.get 2 rfl 3 rfl
  have c4 := H4.out.1.get 2 rfl 4 rfl
  have c5 := H4.out.1.get 2 rfl 5 rfl
  refine bodyPost_ret (v := N 0) (by simp [results, Tryd.results15, go_sem, *]) rfl ?_
  exact ⟨rfl, H4.out.2⟩
set_option maxRecDepth 100000 in
theorem sub_zero (g a b : Nat) (w : World) (hm : Mm w [(g, zero19)]) :
    Calls Tryd.prog 17 #[PT g 0, N a, N b] w fun e w' => e = .returned (N 0) ∧ Below w.heap.size w w' := by
  have H0 : Hid (_ ∧ _) := ⟨hm, Below.refl w.heap.size w⟩
  clear hm
  have CM : Hid _ := made_zero g
  go_enter Tryd.func17, Tryd.ntmps17
  refine wp_seq ?_
  refine walk_seq 3 [.made (cells6 a) 24, .made (cells6 b) 24, .made zero6 24] (fun w' => Mm w' [(g, zero19)]) ?pre1 ?F1 ?hpre1 (fun γ => ?hF1) (by kernel_rfl) ?hL1 ?hS1 ?ho1 ?he1
  case hpre1 =>
    simp only [List.take_succ_cons, List.take_zero]
    exact rfl
  case hF1 =>
    simp only [fill, Kind.val, Act.put, List.setIfInBounds_toArray, List.set_cons_zero, List.set_cons_succ]
    exact rfl
  case hL1 => exact trivial
  case hS1 => exact fun w' hb => H0.out.1.below hb
  case ho1 =>
    refine AllOk.cons ?_ ?_
    · exact fun γ => ⟨rfl, fun w' => ex_box6 rfl rfl⟩
    refine AllOk.cons ?_ ?_
    · exact fun γ => ⟨rfl, fun w' => ex_box6 rfl rfl⟩
    refine AllOk.cons ?_ ?_
    · exact fun γ => ⟨rfl, fun w' => exec_made6 rfl⟩
    exact trivial
  intro γ w1 l hM hl
  have M1 : Mm w1 [(γ 0, cells6 a), (γ 1, cells6 b), (γ 2, zero6), (g, zero19)] := H0.out.1.grow hM (Nat.le_refl _) hl [0, 1, 2] rfl (by decide)
  have B1 : Below w.heap.size w w1 := H0.out.2.trans (hM.below.mono H0.out.2.size)
  have o1_0 : Hid (w.heap.size ≤ γ 0) := Nat.le_trans H0.out.2.size (hM.fin (Nat.le_refl _) hl (i := 0) rfl).2.1
  have o1_1 : Hid (w.heap.size ≤ γ 1) := Nat.le_trans H0.out.2.size (hM.fin (Nat.le_refl _) hl (i := 1) rfl).2.1
  have o1_2 : Hid (w.heap.size ≤ γ 2) := Nat.le_trans H0.out.2.size (hM.fin (Nat.le_refl _) hl (i := 2) rfl).2.1
  clear hM hl l
  generalize γ 0 = γ1_0 at M1 o1_0 ⊢
  generalize γ 1 = γ1_1 at M1 o1_1 ⊢
  generalize γ 2 = γ1_2 at M1 o1_2 ⊢
  clear γ
  have H1 : Hid (_ ∧ _) := ⟨M1, B1⟩
  clear M1 B1
  refine rest_at (l := []) rfl ?_
  refine rest_nil ?_
  refine then_normal ?_
  refine wp_seq ?_
  refine wp_seq ?_
  refine walk_seq 3 [.quiet (PT g 0), .call (.bool false), .quiet (.bool true)] (fun w' => Mm w' [(γ1_0, cells6 a), (γ1_1, cells6 b), (γ1_2, zero6), (g, zero19)]) ?pre2 ?F2 ?hpre2 (fun γ => ?hF2) (by kernel_rfl) ?hL2 ?hS2 ?ho2 ?he2
  case hpre2 =>
    simp only [List.take_succ_cons, List.take_zero]
    exact rfl
  case hF2 =>
    simp only [fill, Kind.val, Act.put, List.setIfInBounds_toArray, List.set_cons_zero, List.set_cons_succ]
    exact rfl
  case hL2 => exact trivial
  case hS2 => exact fun w' hb => H1.out.1.below hb
  case ho2 =>
    refine AllOk.cons ?_ ?_
    · exact fun γ => ⟨rfl, fun w' _ => rfl⟩
    refine AllOk.cons ?_ ?_
    · exact fun γ => ⟨rfl, fun w' h => ⟨39, #[PT g 0], exec_call rfl call39 rfl (by simp only [List.map_toArray, List.map_cons, List.map_nil]; rfl), CM.out w' (h.one 3 rfl)⟩⟩
    refine AllOk.cons ?_ ?_
    · (refine fun γ => ⟨rfl, fun w' h => ?_⟩; clear h; go_simp)
    exact trivial
  intro γ w2 l hM hl
  have M2 : Mm w2 [(γ1_0, cells6 a), (γ1_1, cells6 b), (γ1_2, zero6), (g, zero19)] := H1.out.1.grow hM (Nat.le_refl _) hl [] rfl (by decide)
  have B2 : Below w.heap.size w w2 := H1.out.2.trans (hM.below.mono H1.out.2.size)
  clear hM hl l H1
  clear γ
  have H2 : Hid (_ ∧ _) := ⟨M2, B2⟩
  clear M2 B2
  refine rest_at (l := []) rfl ?_
  refine rest_nil ?_
  refine then_normal ?_
  refine wp_cond_true rfl ?_
  refine wp_seq ?_
  refine walk_seq 1 [.quiet (N 0)] (fun w' => Mm w' [(γ1_0, cells6 a), (γ1_1, cells6 b), (γ1_2, zero6), (g, zero19)]) ?pre3 ?F3 ?hpre3 (fun γ => ?hF3) (by kernel_rfl) ?hL3 ?hS3 ?ho3 ?he3
  case hpre3 =>
    simp only [List.take_succ_cons, List.take_zero]
    exact rfl
  case hF3 =>
    simp only [fill, Kind.val, Act.put, List.setIfInBounds_toArray, List.set_cons_zero, List.set_cons_succ]
    exact rfl
  case hL3 => exact trivial
  case hS3 => exact fun w' hb => H2.out.1.below hb
  case ho3 =>
    refine AllOk.cons ?_ ?_
    · (refine fun γ => ⟨rfl, fun w' h => ?_⟩; clear h; exact ex_zero6 rfl)
    exact trivial
  intro γ w3 l hM hl
  have M3 : Mm w3 [(γ1_0, cells6 a), (γ1_1, cells6 b), (γ1_2, zero6), (g, zero19)] := H2.out.1.grow hM (Nat.le_refl _) hl [] rfl (by decide)
  have B3 : Below w.heap.size w w3 := H2.out.2.trans (hM.below.mono H2.out.2.size)
  clear hM hl l H2
  clear γ
  have H3 : Hid (_ ∧ _) := ⟨M3, B3⟩
  clear M3 B3
  refine rest_at (l := [1]) rfl ?_
  refine rest_store rfl rfl rfl (ex_store6 H3.out.1 2 rfl rfl rfl rfl (Nat.le_of_ble_eq_true rfl)) ?_
  have H4 : Hid (Mm (w3.setCells γ1_2 0 (cells6 0)) [(γ1_0, cells6 a), (γ1_1, cells6 b), (γ1_2, cells6 0), (g, zero19)] ∧ Below w.heap.size w (w3.setCells γ1_2 0 (cells6 0))) := ⟨H3.out.1.put 2 (off := 0) (vs := cells6 0) rfl (Nat.le_of_ble_eq_true rfl), below_setCells _ o1_2.out _ _ _ H3.out.2⟩
  clear H3
  generalize hgw : World.setCells _ _ _ _ = w4 at H4 ⊢
  clear hgw
  refine rest_nil ?_
  refine then_normal ?_
  refine wp_ret ?_
  repeat (first | refine then_ret ?_ | refine block_ret ?_)
  have c0 := H4.out.1.get 2 rfl 0 rfl
  have c1 := H4.out.1.get 2 rfl 1 rfl
  have c2 := H4.out.1.get 2 rfl 2 rfl
  have c3 := H4.out.1.get 2 rfl 3 rfl
  have c4 := H4.out.1.get 2 rfl 4 rfl
  have c5 := H4.out.1.get 2 rfl 5 rfl
  refine bodyPost_ret (v := N 0) (by simp [results, Tryd.results17, go_sem, *]) rfl ?_
  exact ⟨rfl, H4.out.2⟩
set_option maxRecDepth 100000 in
theorem mul_zero (g a b : Nat) (w : World) (hm : Mm w [(g, zero19)]) :
    Calls Tryd.prog 21 #[PT g 0, N a, N b] w fun e w' => e = .returned (N 0) ∧ Below w.heap.size w w' := by
  have H0 : Hid (_ ∧ _) := ⟨hm, Below.refl w.heap.size w⟩
  clear hm
  have CM : Hid _ := made_zero g
  go_enter Tryd.func21, Tryd.ntmps21
  refine wp_seq ?_
  refine walk_seq 3 [.made (cells6 a) 24, .made (cells6 b) 24, .made zero6 24] (fun w' => Mm w' [(g, zero19)]) ?pre1 ?F1 ?hpre1 (fun γ => ?hF1) (by kernel_rfl) ?hL1 ?hS1 ?ho1 ?he1
  case hpre1 =>
    simp only [List.take_succ_cons, List.take_zero]
    exact rfl
  case hF1 =>
    simp only [fill, Kind.val, Act.put, List.setIfInBounds_toArray, List.set_cons_zero, List.set_cons_succ]
    exact rfl
  case hL1 => exact trivial
  case hS1 => exact fun w' hb => H0.out.1.below hb
  case ho1 =>
    refine AllOk.cons ?_ ?_
    · exact fun γ => ⟨rfl, fun w' => ex_box6 rfl rfl⟩
    refine AllOk.cons ?_ ?_
    · exact fun γ => ⟨rfl, fun w' => ex_box6 rfl rfl⟩
    refine AllOk.cons ?_ ?_
    · exact fun γ => ⟨rfl, fun w' => exec_made6 rfl⟩
    exact trivial
  intro γ w1 l hM hl
  have M1 : Mm w1 [(γ 0, cells6 a), (γ 1, cells6 b), (γ 2, zero6), (g, zero19)] := H0.out.1.grow hM (Nat.le_refl _) hl [0, 1, 2] rfl (by decide)
  have B1 : Below w.heap.size w w1 := H0.out.2.trans (hM.below.mono H0.out.2.size)
  have o1_0 : Hid (w.heap.size ≤ γ 0) := Nat.le_trans H0.out.2.size (hM.fin (Nat.le_refl _) hl (i := 0) rfl).2.1
  have o1_1 : Hid (w.heap.size ≤ γ 1) := Nat.le_trans H0.out.2.size (hM.fin (Nat.le_refl _) hl (i := 1) rfl).2.1
  have o1_2 : Hid (w.heap.size ≤ γ 2) := Nat.le_trans H0.out.2.size (hM.fin (Nat.le_refl _) hl (i := 2) rfl).2.1
  clear hM hl l
  generalize γ 0 = γ1_0 at M1 o1_0 ⊢
  generalize γ 1 = γ1_1 at M1 o1_1 ⊢
  generalize γ 2 = γ1_2 at M1 o1_2 ⊢
  clear γ
  have H1 : Hid (_ ∧ _) := ⟨M1, B1⟩
  clear M1 B1
  refine rest_at (l := []) rfl ?_
  refine rest_nil ?_
  refine then_normal ?_
  refine wp_seq ?_
  refine wp_seq ?_
  refine walk_seq 3 [.quiet (PT g 0), .call (.bool false), .quiet (.bool true)] (fun w' => Mm w' [(γ1_0, cells6 a), (γ1_1, cells6 b), (γ1_2, zero6), (g, zero19)]) ?pre2 ?F2 ?hpre2 (fun γ => ?hF2) (by kernel_rfl) ?hL2 ?hS2 ?ho2 ?he2
  case hpre2 =>
    simp only [List.take_succ_cons, List.take_zero]
    exact rfl
  case hF2 =>
    simp only [fill, Kind.val, Act.put, List.setIfInBounds_toArray, List.set_cons_zero, List.set_cons_succ]
    exact rfl
  case hL2 => exact trivial
  case hS2 => exact fun w' hb => H1.out.1.below hb
  case ho2 =>
    refine AllOk.cons ?_ ?_
    · exact fun γ => ⟨rfl, fun w' _ => rfl⟩
    refine AllOk.cons ?_ ?_
    · exact fun γ => ⟨rfl, fun w' h => ⟨39, #[PT g 0], exec_call rfl call39 rfl (by simp only [List.map_toArray, List.map_cons, List.map_nil]; rfl), CM.out w' (h.one 3 rfl)⟩⟩
    refine AllOk.cons ?_ ?_
    · (refine fun γ => ⟨rfl, fun w' h => ?_⟩; clear h; go_simp)
    exact trivial
  intro γ w2 l hM hl
  have M2 : Mm w2 [(γ1_0, cells6 a), (γ1_1, cells6 b), (γ1_2, zero6), (g, zero19)] := H1.out.1.grow hM (Nat.le_refl _) hl [] rfl (by decide)
  have B2 : Below w.heap.size w w2 := H1.out.2.trans (hM.below.mono H1.out.2.size)
  clear hM hl l H1
  clear γ
  have H2 : Hid (_ ∧ _) := ⟨M2, B2⟩
  clear M2 B2
  refine rest_at (l := []) rfl ?_
  refine rest_nil ?_
  refine then_normal ?_
  refine wp_cond_true rfl ?_
  refine wp_seq ?_
  refine walk_seq 1 [.quiet (N 0)] (fun w' => Mm w' [(γ1_0, cells6 a), (γ1_1, cells6 b), (γ1_2, zero6), (g, zero19)]) ?pre3 ?F3 ?hpre3 (fun γ => ?hF3) (by kernel_rfl) ?hL3 ?hS3 ?ho3 ?he3
  case hpre3 =>
    simp only [List.take_succ_cons, List.take_zero]
    exact rfl
  case hF3 =>
    simp only [fill, Kind.val, Act.put, List.setIfInBounds_toArray, List.set_cons_zero, List.set_cons_succ]
    exact rfl
  case hL3 => exact trivial
  case hS3 => exact fun w' hb => H2.out.1.below hb
  case ho3 =>
    refine AllOk.cons ?_ ?_
    · (refine fun γ => ⟨rfl, fun w' h => ?_⟩; clear h; exact ex_zero6 rfl)
    exact trivial
  intro γ w3 l hM hl
  have M3 : Mm w3 [(γ1_0, cells6 a), (γ1_1, cells6 b), (γ1_2, zero6), (g, zero19)] := H2.out.1.grow hM (Nat.le_refl _) hl [] rfl (by decide)
  have B3 : Below w.heap.size w w3 := H2.out.2.trans (hM.below.mono H2.out.2.size)
  clear hM hl l H2
  clear γ
  have H3 : Hid (_ ∧ _) := ⟨M3, B3⟩
  clear M3 B3
  refine rest_at (l := [1]) rfl ?_
  refine rest_store rfl rfl rfl (ex_store6 H3.out.1 2 rfl rfl rfl rfl (Nat.le_of_ble_eq_true rfl)) ?_
  have H4 : Hid (Mm (w3.setCells γ1_2 0 (cells6 0)) [(γ1_0, cells6 a), (γ1_1, cells6 b), (γ1_2, cells6 0), (g, zero19)] ∧ Below w.heap.size w (w3.setCells γ1_2 0 (cells6 0))) := ⟨H3.out.1.put 2 (off := 0) (vs := cells6 0) rfl (Nat.le_of_ble_eq_true rfl), below_setCells _ o1_2.out _ _ _ H3.out.2⟩
  clear H3
  generalize hgw : World.setCells _ _ _ _ = w4 at H4 ⊢
  clear hgw
  refine rest_nil ?_
  refine then_normal ?_
  refine wp_ret ?_
  repeat (first | refine then_ret ?_ | refine block_ret ?_)
  have c0 := H4.out.1.get 2 rfl 0 rfl
  have c1 := H4.out.1.get 2 rfl 1 rfl
  have c2 := H4.out.1.get 2 rfl 2 rfl
  have c3 := H4.out.1.get 2 rfl 3 rfl
  have c4 := H4.out.1.get 2 rfl 4 rfl
  have c5 := H4.out.1.get 2 rfl 5 rfl
  refine bodyPost_ret (v := N 0) (by simp [results, Tryd.results21, go_sem, *]) rfl ?_
  exact ⟨rfl, H4.out.2⟩
set_option maxRecDepth 100000 in
theorem pow_zero (g a b : Nat) (w : World) (hm : Mm w [(g, zero19)]) :
    Calls Tryd.prog 25 #[PT g 0, N a, N b] w fun e w' => e = .returned (N 0) ∧ Below w.heap.size w w' := by
  have H0 : Hid (_ ∧ _) := ⟨hm, Below.refl w.heap.size w⟩
  clear hm
  have CM : Hid _ := made_zero g
  go_enter Tryd.func25, Tryd.ntmps25
  refine wp_seq ?_
  refine walk_seq 3 [.made (cells6 a) 24, .made (cells6 b) 24, .made zero6 24] (fun w' => Mm w' [(g, zero19)]) ?pre1 ?F1 ?hpre1 (fun γ => ?hF1) (by kernel_rfl) ?hL1 ?hS1 ?ho1 ?he1
  case hpre1 =>
    simp only [List.take_succ_cons, List.take_zero]
    exact rfl
  case hF1 =>
    simp only [fill, Kind.val, Act.put, List.setIfInBounds_toArray, List.set_cons_zero, List.set_cons_succ]
    exact rfl
  case hL1 => exact trivial
  case hS1 => exact fun w' hb => H0.out.1.below hb
  case ho1 =>
    refine AllOk.cons ?_ ?_
    · exact fun γ => ⟨rfl, fun w' => ex_box6 rfl rfl⟩
    refine AllOk.cons ?_ ?_
    · exact fun γ => ⟨rfl, fun w' => ex_box6 rfl rfl⟩
    refine AllOk.cons ?_ ?_
    · exact fun γ => ⟨rfl, fun w' => exec_made6 rfl⟩
    exact trivial
  intro γ w1 l hM hl
  have M1 : Mm w1 [(γ 0, cells6 a), (γ 1, cells6 b), (γ 2, zero6), (g, zero19)] := H0.out.1.grow hM (Nat.le_refl _) hl [0, 1, 2] rfl (by decide)
  have B1 : Below w.heap.size w w1 := H0.out.2.trans (hM.below.mono H0.out.2.size)
  have o1_0 : Hid (w.heap.size ≤ γ 0) := Nat.le_trans H0.out.2.size (hM.fin (Nat.le_refl _) hl (i := 0) rfl).2.1
  have o1_1 : Hid (w.heap.size ≤ γ 1) := Nat.le_trans H0.out.2.size (hM.fin (Nat.le_refl _) hl (i := 1) rfl).2.1
  have o1_2 : Hid (w.heap.size ≤ γ 2) := Nat.le_trans H0.out.2.size (hM.fin (Nat.le_refl _) hl (i := 2) rfl).2.1
  clear hM hl l
  generalize γ 0 = γ1_0 at M1 o1_0 ⊢
  generalize γ 1 = γ1_1 at M1 o1_1 ⊢
  generalize γ 2 = γ1_2 at M1 o1_2 ⊢
  clear γ
  have H1 : Hid (_ ∧ _) := ⟨M1, B1⟩
  clear M1 B1
  refine rest_at (l := []) rfl ?_
  refine rest_nil ?_
  refine then_normal ?_
  refine wp_seq ?_
  refine wp_seq ?_
  refine walk_seq 3 [.quiet (PT g 0), .call (.bool false), .quiet (.bool true)] (fun w' => Mm w' [(γ1_0, cells6 a), (γ1_1, cells6 b), (γ1_2, zero6), (g, zero19)]) ?pre2 ?F2 ?hpre2 (fun γ => ?hF2) (by kernel_rfl) ?hL2 ?hS2 ?ho2 ?he2
  case hpre2 =>
    simp only [List.take_succ_cons, List.take_zero]
    exact rfl
  case hF2 =>
    simp only [fill, Kind.val, Act.put, List.setIfInBounds_toArray, List.set_cons_zero, List.set_cons_succ]
    exact rfl
  case hL2 => exact trivial
  case hS2 => exact fun w' hb => H1.out.1.below hb
  case ho2 =>
    refine AllOk.cons ?_ ?_
    · exact fun γ => ⟨rfl, fun w' _ => rfl⟩
    refine AllOk.cons ?_ ?_
    · exact fun γ => ⟨rfl, fun w' h => ⟨39, #[PT g 0], exec_call rfl call39 rfl (by simp only [List.map_toArray, List.map_cons, List.map_nil]; rfl), CM.out w' (h.one 3 rfl)⟩⟩
    refine AllOk.cons ?_ ?_
    · (refine fun γ => ⟨rfl, fun w' h => ?_⟩; clear h; go_simp)
    exact trivial
  intro γ w2 l hM hl
  have M2 : Mm w2 [(γ1_0, cells6 a), (γ1_1, cells6 b), (γ1_2, zero6), (g, zero19)] := H1.out.1.grow hM (Nat.le_refl _) hl [] rfl (by decide)
  have B2 : Below w.heap.size w w2 := H1.out.2.trans (hM.below.mono H1.out.2.size)
  clear hM hl l H1
  clear γ
  have H2 : Hid (_ ∧ _) := ⟨M2, B2⟩
  clear M2 B2
  refine rest_at (l := []) rfl ?_
  refine rest_nil ?_
  refine then_normal ?_
  refine wp_cond_true rfl ?_
  refine wp_seq ?_
  refine walk_seq 1 [.quiet (N 0)] (fun w' => Mm w' [(γ1_0, cells6 a), (γ1_1, cells6 b), (γ1_2, zero6), (g, zero19)]) ?pre3 ?F3 ?hpre3 (fun γ => ?hF3) (by kernel_rfl) ?hL3 ?hS3 ?ho3 ?he3
  case hpre3 =>
    simp only [List.take_succ_cons, List.take_zero]
    exact rfl
  case hF3 =>
    simp only [fill, Kind.val, Act.put, List.setIfInBounds_toArray, List.set_cons_zero, List.set_cons_succ]
    exact rfl
  case hL3 => exact trivial
  case hS3 => exact fun w' hb => H2.out.1.below hb
  case ho3 =>
    refine AllOk.cons ?_ ?_
    · (refine fun γ => ⟨rfl, fun w' h => ?_⟩; clear h; exact ex_zero6 rfl)
    exact trivial
  intro γ w3 l hM hl
  have M3 : Mm w3 [(γ1_0, cells6 a), (γ1_1, cells6 b), (γ1_2, zero6), (g, zero19)] := H2.out.1.grow hM (Nat.le_refl _) hl [] rfl (by decide)
  have B3 : Below w.heap.size w w3 := H2.out.2.trans (hM.below.mono H2.out.2.size)
  clear hM hl l H2
  clear γ
  have H3 : Hid (_ ∧ _) := ⟨M3, B3⟩
  clear M3 B3
  refine rest_at (l := [1]) rfl ?_
  refine rest_store rfl rfl rfl (ex_store6 H3.out.1 2 rfl rfl rfl rfl (Nat.le_of_ble_eq_true rfl)) ?_
  have H4 : Hid (Mm (w3.setCells γ1_2 0 (cells6 0)) [(γ1_0, cells6 a), (γ1_1, cells6 b), (γ1_2, cells6 0), (g, zero19)] ∧ Below w.heap.size w (w3.setCells γ1_2 0 (cells6 0))) := ⟨H3.out.1.put 2 (off := 0) (vs := cells6 0) rfl (Nat.le_of_ble_eq_true rfl), below_setCells _ o1_2.out _ _ _ H3.out.2⟩
  clear H3
  generalize hgw : World.setCells _ _ _ _ = w4 at H4 ⊢
  clear hgw
  refine rest_nil ?_
  refine then_normal ?_
  refine wp_ret ?_
  repeat (first | refine then_ret ?_ | refine block_ret ?_)
  have c0 := H4.out.1.get 2 rfl 0 rfl
  have c1 := H4.out.1.get 2 rfl 1 rfl
  have c2 := H4.out.1.get 2 rfl 2 rfl
  have c3 := H4.out.1.get 2 rfl 3 rfl
  have c4 := H4.out.1.get 2 rfl 4 rfl
  have c5 := H4.out.1.get 2 rfl 5 rfl
  refine bodyPost_ret (v := N 0) (by simp [results, Tryd.results25, go_sem, *]) rfl ?_
  exact ⟨rfl, H4.out.2⟩
set_option maxRecDepth 100000 in
theorem inv_zero (g a : Nat) (w : World) (hm : Mm w [(g, zero19)]) :
    Calls Tryd.prog 23 #[PT g 0, N a] w fun e w' => e = .returned (.tuple #[N 0, .int .i64 1]) ∧ Below w.heap.size w w' := by
  have H0 : Hid (_ ∧ _) := ⟨hm, Below.refl w.heap.size w⟩
  clear hm
  have CM : Hid _ := made_zero g
  go_enter Tryd.func23, Tryd.ntmps23
  refine wp_seq ?_
  refine walk_seq 3 [.made (cells6 a) 24, .made zero6 24, .quiet (.int .i64 0)] (fun w' => Mm w' [(g, zero19)]) ?pre1 ?F1 ?hpre1 (fun γ => ?hF1) (by kernel_rfl) ?hL1 ?hS1 ?ho1 ?he1
  case hpre1 =>
    simp only [List.take_succ_cons, List.take_zero]
    exact rfl
  case hF1 =>
    simp only [fill, Kind.val, Act.put, List.setIfInBounds_toArray, List.set_cons_zero, List.set_cons_succ]
    exact rfl
  case hL1 => exact trivial
  case hS1 => exact fun w' hb => H0.out.1.below hb
  case ho1 =>
    refine AllOk.cons ?_ ?_
    · exact fun γ => ⟨rfl, fun w' => ex_box6 rfl rfl⟩
    refine AllOk.cons ?_ ?_
    · exact fun γ => ⟨rfl, fun w' => exec_made6 rfl⟩
    refine AllOk.cons ?_ ?_
    · exact fun γ => ⟨rfl, fun w' _ => rfl⟩
    exact trivial
  intro γ w1 l hM hl
  have M1 : Mm w1 [(γ 0, cells6 a), (γ 1, zero6), (g, zero19)] := H0.out.1.grow hM (Nat.le_refl _) hl [0, 1] rfl (by decide)
  have B1 : Below w.heap.size w w1 := H0.out.2.trans (hM.below.mono H0.out.2.size)
  have o1_0 : Hid (w.heap.size ≤ γ 0) := Nat.le_trans H0.out.2.size (hM.fin (Nat.le_refl _) hl (i := 0) rfl).2.1
  have o1_1 : Hid (w.heap.size ≤ γ 1) := Nat.le_trans H0.out.2.size (hM.fin (Nat.le_refl _) hl (i := 1) rfl).2.1
  clear hM hl l
  generalize γ 0 = γ1_0 at M1 o1_0 ⊢
  generalize γ 1 = γ1_1 at M1 o1_1 ⊢
  clear γ
  have H1 : Hid (_ ∧ _) := ⟨M1, B1⟩
  clear M1 B1
  refine rest_at (l := []) rfl ?_
  refine rest_nil ?_
  refine then_normal ?_
  refine wp_seq ?_
  refine wp_seq ?_
  refine walk_seq 3 [.quiet (PT g 0), .call (.bool false), .quiet (.bool true)] (fun w' => Mm w' [(γ1_0, cells6 a), (γ1_1, zero6), (g, zero19)]) ?pre2 ?F2 ?hpre2 (fun γ => ?hF2) (by kernel_rfl) ?hL2 ?hS2 ?ho2 ?he2
  case hpre2 =>
    simp only [List.take_succ_cons, List.take_zero]
    exact rfl
  case hF2 =>
    simp only [fill, Kind.val, Act.put, List.setIfInBounds_toArray, List.set_cons_zero, List.set_cons_succ]
    exact rfl
  case hL2 => exact trivial
  case hS2 => exact fun w' hb => H1.out.1.below hb
  case ho2 =>
    refine AllOk.cons ?_ ?_
    · exact fun γ => ⟨rfl, fun w' _ => rfl⟩
    refine AllOk.cons ?_ ?_
    · exact fun γ => ⟨rfl, fun w' h => ⟨39, #[PT g 0], exec_call rfl call39 rfl (by simp only [List.map_toArray, List.map_cons, List.map_nil]; rfl), CM.out w' (h.one 2 rfl)⟩⟩
    refine AllOk.cons ?_ ?_
    · (refine fun γ => ⟨rfl, fun w' h => ?_⟩; clear h; go_simp)
    exact trivial
  intro γ w2 l hM hl
  have M2 : Mm w2 [(γ1_0, cells6 a), (γ1_1, zero6), (g, zero19)] := H1.out.1.grow hM (Nat.le_refl _) hl [] rfl (by decide)
  have B2 : Below w.heap.size w w2 := H1.out.2.trans (hM.below.mono H1.out.2.size)
  clear hM hl l H1
  clear γ
  have H2 : Hid (_ ∧ _) := ⟨M2, B2⟩
  clear M2 B2
  refine rest_at (l := []) rfl ?_
  refine rest_nil ?_
  refine then_normal ?_
  refine wp_cond_true rfl ?_
  refine wp_seq ?_
  refine walk_seq 1 [.quiet (N 0)] (fun w' => Mm w' [(γ1_0, cells6 a), (γ1_1, zero6), (g, zero19)]) ?pre3 ?F3 ?hpre3 (fun γ => ?hF3) (by kernel_rfl) ?hL3 ?hS3 ?ho3 ?he3
  case hpre3 =>
    simp only [List.take_succ_cons, List.take_zero]
    exact rfl
  case hF3 =>
    simp only [fill, Kind.val, Act.put, List.setIfInBounds_toArray, List.set_cons_zero, List.set_cons_succ]
    exact rfl
  case hL3 => exact trivial
  case hS3 => exact fun w' hb => H2.out.1.below hb
  case ho3 =>
    refine AllOk.cons ?_ ?_
    · (refine fun γ => ⟨rfl, fun w' h => ?_⟩; clear h; exact ex_zero6 rfl)
    exact trivial
  intro γ w3 l hM hl
  have M3 : Mm w3 [(γ1_0, cells6 a), (γ1_1, zero6), (g, zero19)] := H2.out.1.grow hM (Nat.le_refl _) hl [] rfl (by decide)
  have B3 : Below w.heap.size w w3 := H2.out.2.trans (hM.below.mono H2.out.2.size)
  clear hM hl l H2
  clear γ
  have H3 : Hid (_ ∧ _) := ⟨M3, B3⟩
  clear M3 B3
  refine rest_at (l := [1, 2]) rfl ?_
  refine rest_store rfl rfl rfl (ex_store6 H3.out.1 1 rfl rfl rfl rfl (Nat.le_of_ble_eq_true rfl)) ?_
  have H4 : Hid (Mm (w3.setCells γ1_1 0 (cells6 0)) [(γ1_0, cells6 a), (γ1_1, cells6 0), (g, zero19)] ∧ Below w.heap.size w (w3.setCells γ1_1 0 (cells6 0))) := ⟨H3.out.1.put 1 (off := 0) (vs := cells6 0) rfl (Nat.le_of_ble_eq_true rfl), below_setCells _ o1_1.out _ _ _ H3.out.2⟩
  clear H3
  generalize hgw : World.setCells _ _ _ _ = w4 at H4 ⊢
  clear hgw
  refine rest_set (d := 5) rfl rfl rfl rfl ?_
  simp only [Act.put, List.setIfInBounds_toArray, List.set_cons_zero, List.set_cons_succ]
  refine rest_nil ?_
  refine then_normal ?_
  refine wp_ret ?_
  repeat (first | refine then_ret ?_ | refine block_ret ?_)
  have c0 := H4.out.1.get 1 rfl 0 rfl
  have c1 := H4.out.1.get 1 rfl 1 rfl
  have c2 := H4.out.1.get 1 rfl 2 rfl
  have c3 := H4.out.1.get 1 rfl 3 rfl
  have c4 := H4.out.1.get 1 rfl 4 rfl
  have c5 := H4.out.1.get 1 rfl 5 rfl
  refine bodyPost_ret (v := .tuple #[N 0, .int .i64 1]) (by simp [results, Tryd.results23, go_sem, *]) rfl ?_
  exact ⟨rfl, H4.out.2⟩
set_option maxRecDepth 100000 in
theorem root_zero (g a : Nat) (w : World) (hm : Mm w [(g, zero19)]) :
    Calls Tryd.prog 27 #[PT g 0, N a] w fun e w' => e = .returned (.tuple #[N 0, .int .i64 1]) ∧ Below w.heap.size w w' := by
  have H0 : Hid (_ ∧ _) := ⟨hm, Below.refl w.heap.size w⟩
  clear hm
  have CM : Hid _ := made_zero g
  go_enter Tryd.func27, Tryd.ntmps27
  refine wp_seq ?_
  refine walk_seq 3 [.made (cells6 a) 24, .made zero6 24, .quiet (.int .i64 0)] (fun w' => Mm w' [(g, zero19)]) ?pre1 ?F1 ?hpre1 (fun γ => ?hF1) (by kernel_rfl) ?hL1 ?hS1 ?ho1 ?he1
  case hpre1 =>
    simp only [List.take_succ_cons, List.take_zero]
    exact rfl
  case hF1 =>
    simp only [fill, Kind.val, Act.put, List.setIfInBounds_toArray, List.set_cons_zero, List.set_cons_succ]
    exact rfl
  case hL1 => exact trivial
  case hS1 => exact fun w' hb => H0.out.1.below hb
  case ho1 =>
    refine AllOk.cons ?_ ?_
    · exact fun γ => ⟨rfl, fun w' => ex_box6 rfl rfl⟩
    refine AllOk.cons ?_ ?_
    · exact fun γ => ⟨rfl, fun w' => exec_made6 rfl⟩
    refine AllOk.cons ?_ ?_
    · exact fun γ => ⟨rfl, fun w' _ => rfl⟩
    exact trivial
  intro γ w1 l hM hl
  have M1 : Mm w1 [(γ 0, cells6 a), (γ 1, zero6), (g, zero19)] := H0.out.1.grow hM (Nat.le_refl _) hl [0, 1] rfl (by decide)
  have B1 : Below w.heap.size w w1 := H0.out.2.trans (hM.below.mono H0.out.2.size)
  have o1_0 : Hid (w.heap.size ≤ γ 0) := Nat.le_trans H0.out.2.size (hM.fin (Nat.le_refl _) hl (i := 0) rfl).2.1
  have o1_1 : Hid (w.heap.size ≤ γ 1) := Nat.le_trans H0.out.2.size (hM.fin (Nat.le_refl _) hl (i := 1) rfl).2.1
  clear hM hl l
  generalize γ 0 = γ1_0 at M1 o1_0 ⊢
  generalize γ 1 = γ1_1 at M1 o1_1 ⊢
  clear γ
  have H1 : Hid (_ ∧ _) := ⟨M1, B1⟩
  clear M1 B1
  refine rest_at (l := []) rfl ?_
  refine rest_nil ?_
  refine then_normal ?_
  refine wp_seq ?_
  refine wp_seq ?_
  refine walk_seq 3 [.quiet (PT g 0), .call (.bool false), .quiet (.bool true)] (fun w' => Mm w' [(γ1_0, cells6 a), (γ1_1, zero6), (g, zero19)]) ?pre2 ?F2 ?hpre2 (fun γ => ?hF2) (by kernel_rfl) ?hL2 ?hS2 ?ho2 ?he2
  case hpre2 =>
    simp only [List.take_succ_cons, List.take_zero]
    exact rfl
  case hF2 =>
    simp only [fill, Kind.val, Act.put, List.setIfInBounds_toArray, List.set_cons_zero, List.set_cons_succ]
    exact rfl
  case hL2 => exact trivial
  case hS2 => exact fun w' hb => H1.out.1.below hb
  case ho2 =>
    refine AllOk.cons ?_ ?_
    · exact fun γ => ⟨rfl, fun w' _ => rfl⟩
    refine AllOk.cons ?_ ?_
    · exact fun γ => ⟨rfl, fun w' h => ⟨39, #[PT g 0], exec_call rfl call39 rfl (by simp only [List.map_toArray, List.map_cons, List.map_nil]; rfl), CM.out w' (h.one 2 rfl)⟩⟩
    refine AllOk.cons ?_ ?_
    · (refine fun γ => ⟨rfl, fun w' h => ?_⟩; clear h; go_simp)
    exact trivial
  intro γ w2 l hM hl
  have M2 : Mm w2 [(γ1_0, cells6 a), (γ1_1, zero6), (g, zero19)] := H1.out.1.grow hM (Nat.le_refl _) hl [] rfl (by decide)
  have B2 : Below w.heap.size w w2 := H1.out.2.trans (hM.below.mono H1.out.2.size)
  clear hM hl l H1
  clear γ
  have H2 : Hid (_ ∧ _) := ⟨M2, B2⟩
  clear M2 B2
  refine rest_at (l := []) rfl ?_
  refine rest_nil ?_
  refine then_normal ?_
  refine wp_cond_true rfl ?_
  refine wp_seq ?_
  refine walk_seq 1 [.quiet (N 0)] (fun w' => Mm w' [(γ1_0, cells6 a), (γ1_1, zero6), (g, zero19)]) ?pre3 ?F3 ?hpre3 (fun γ => ?hF3) (by kernel_rfl) ?hL3 ?hS3 ?ho3 ?he3
  case hpre3 =>
    simp only [List.take_succ_cons, List.take_zero]
    exact rfl
  case hF3 =>
    simp only [fill, Kind.val, Act.put, List.setIfInBounds_toArray, List.set_cons_zero, List.set_cons_succ]
    exact rfl
  case hL3 => exact trivial
  case hS3 => exact fun w' hb => H2.out.1.below hb
  case ho3 =>
    refine AllOk.cons ?_ ?_
    · (refine fun γ => ⟨rfl, fun w' h => ?_⟩; clear h; exact ex_zero6 rfl)
    exact trivial
  intro γ w3 l hM hl
  have M3 : Mm w3 [(γ1_0, cells6 a), (γ1_1, zero6), (g, zero19)] := H2.out.1.grow hM (Nat.le_refl _) hl [] rfl (by decide)
  have B3 : Below w.heap.size w w3 := H2.out.2.trans (hM.below.mono H2.out.2.size)
  clear hM hl l H2
  clear γ
  have H3 : Hid (_ ∧ _) := ⟨M3, B3⟩
  clear M3 B3
  refine rest_at (l := [1, 2]) rfl ?_
  refine rest_store rfl rfl rfl (ex_store6 H3.out.1 1 rfl rfl rfl rfl (Nat.le_of_ble_eq_true rfl)) ?_
  have H4 : Hid (Mm (w3.setCells γ1_1 0 (cells6 0)) [(γ1_0, cells6 a), (γ1_1, cells6 0), (g, zero19)] ∧ Below w.heap.size w (w3.setCells γ1_1 0 (cells6 0))) := ⟨H3.out.1.put 1 (off := 0) (vs := cells6 0) rfl (Nat.le_of_ble_eq_true rfl), below_setCells _ o1_1.out _ _ _ H3.out.2⟩
  clear H3
  generalize hgw : World.setCells _ _ _ _ = w4 at H4 ⊢
  clear hgw
  refine rest_set (d := 5) rfl rfl rfl rfl ?_
  simp only [Act.put, List.setIfInBounds_toArray, List.set_cons_zero, List.set_cons_succ]
  refine rest_nil ?_
  refine then_normal ?_
  refine wp_ret ?_
  repeat (first | refine then_ret ?_ | refine block_ret ?_)
  have c0 := H4.out.1.get 1 rfl 0 rfl
  have c1 := H4.out.1.get 1 rfl 1 rfl
  have c2 := H4.out.1.get 1 rfl 2 rfl
  have c3 := H4.out.1.get 1 rfl 3 rfl
  have c4 := H4.out.1.get 1 rfl 4 rfl
  have c5 := H4.out.1.get 1 rfl 5 rfl
  refine bodyPost_ret (v := .tuple #[N 0, .int .i64 1]) (by simp [results, Tryd.results27, go_sem, *]) rfl ?_
  exact ⟨rfl, H4.out.2⟩
set_option maxRecDepth 100000 in
theorem neg_zero (g a : Nat) (w : World) (hm : Mm w [(g, zero19)]) :
    Calls Tryd.prog 19 #[PT g 0, N a] w fun e w' => e = .returned (N 0) ∧ Below w.heap.size w w' := by
  have H0 : Hid (_ ∧ _) := ⟨hm, Below.refl w.heap.size w⟩
  clear hm
  have CS : Hid _ := sub_zero g 0 a
  go_enter Tryd.func19, Tryd.ntmps19
  refine wp_seq ?_
  refine walk_seq 2 [.made (cells6 a) 24, .made zero6 24] (fun w' => Mm w' [(g, zero19)]) ?pre1 ?F1 ?hpre1 (fun γ => ?hF1) (by kernel_rfl) ?hL1 ?hS1 ?ho1 ?he1
  case hpre1 =>
    simp only [List.take_succ_cons, List.take_zero]
    exact rfl
  case hF1 =>
    simp only [fill, Kind.val, Act.put, List.setIfInBounds_toArray, List.set_cons_zero, List.set_cons_succ]
    exact rfl
  case hL1 => exact trivial
  case hS1 => exact fun w' hb => H0.out.1.below hb
  case ho1 =>
    refine AllOk.cons ?_ ?_
    · exact fun γ => ⟨rfl, fun w' => ex_box6 rfl rfl⟩
    refine AllOk.cons ?_ ?_
    · exact fun γ => ⟨rfl, fun w' => exec_made6 rfl⟩
    exact trivial
  intro γ w1 l hM hl
  have M1 : Mm w1 [(γ 0, cells6 a), (γ 1, zero6), (g, zero19)] := H0.out.1.grow hM (Nat.le_refl _) hl [0, 1] rfl (by decide)
  have B1 : Below w.heap.size w w1 := H0.out.2.trans (hM.below.mono H0.out.2.size)
  have o1_0 : Hid (w.heap.size ≤ γ 0) := Nat.le_trans H0.out.2.size (hM.fin (Nat.le_refl _) hl (i := 0) rfl).2.1
  have o1_1 : Hid (w.heap.size ≤ γ 1) := Nat.le_trans H0.out.2.size (hM.fin (Nat.le_refl _) hl (i := 1) rfl).2.1
  clear hM hl l
  generalize γ 0 = γ1_0 at M1 o1_0 ⊢
  generalize γ 1 = γ1_1 at M1 o1_1 ⊢
  clear γ
  have H1 : Hid (_ ∧ _) := ⟨M1, B1⟩
  clear M1 B1
  refine rest_at (l := []) rfl ?_
  refine rest_nil ?_
  refine then_normal ?_
  refine wp_seq ?_
  refine walk_seq 4 [.quiet (PT g 0), .quiet (N 0), .quiet (N a), .call (N 0)] (fun w' => Mm w' [(γ1_0, cells6 a), (γ1_1, zero6), (g, zero19)]) ?pre2 ?F2 ?hpre2 (fun γ => ?hF2) (by kernel_rfl) ?hL2 ?hS2 ?ho2 ?he2
  case hpre2 =>
    simp only [List.take_succ_cons, List.take_zero]
    exact rfl
  case hF2 =>
    simp only [fill, Kind.val, Act.put, List.setIfInBounds_toArray, List.set_cons_zero, List.set_cons_succ]
    exact rfl
  case hL2 => exact trivial
  case hS2 => exact fun w' hb => H1.out.1.below hb
  case ho2 =>
    refine AllOk.cons ?_ ?_
    · exact fun γ => ⟨rfl, fun w' _ => rfl⟩
    refine AllOk.cons ?_ ?_
    · (refine fun γ => ⟨rfl, fun w' h => ?_⟩; clear h; exact ex_zero6 rfl)
    refine AllOk.cons ?_ ?_
    · exact fun γ => ⟨rfl, fun w' h => ex_load6 h 0 rfl rfl rfl rfl⟩
    refine AllOk.cons ?_ ?_
    · exact fun γ => ⟨rfl, fun w' h => ⟨17, #[PT g 0, N 0, N a], exec_call rfl call17 rfl (by simp only [List.map_toArray, List.map_cons, List.map_nil]; rfl), CS.out w' (h.one 2 rfl)⟩⟩
    exact trivial
  intro γ w2 l hM hl
  have M2 : Mm w2 [(γ1_0, cells6 a), (γ1_1, zero6), (g, zero19)] := H1.out.1.grow hM (Nat.le_refl _) hl [] rfl (by decide)
  have B2 : Below w.heap.size w w2 := H1.out.2.trans (hM.below.mono H1.out.2.size)
  clear hM hl l H1
  clear γ
  have H2 : Hid (_ ∧ _) := ⟨M2, B2⟩
  clear M2 B2
  refine rest_at (l := [4]) rfl ?_
  refine rest_store rfl rfl rfl (ex_store6 H2.out.1 1 rfl rfl rfl rfl (Nat.le_of_ble_eq_true rfl)) ?_
  have H3 : Hid (Mm (w2.setCells γ1_1 0 (cells6 0)) [(γ1_0, cells6 a), (γ1_1, cells6 0), (g, zero19)] ∧ Below w.heap.size w (w2.setCells γ1_1 0 (cells6 0))) := ⟨H2.out.1.put 1 (off := 0) (vs := cells6 0) rfl (Nat.le_of_ble_eq_true rfl), below_setCells _ o1_1.out _ _ _ H2.out.2⟩
  clear H2
  generalize hgw : World.setCells _ _ _ _ = w3 at H3 ⊢
  clear hgw
  refine rest_nil ?_
  refine then_normal ?_
  refine wp_ret ?_
  repeat (first | refine then_ret ?_ | refine block_ret ?_)
  have c0 := H3.out.1.get 1 rfl 0 rfl
  have c1 := H3.out.1.get 1 rfl 1 rfl
  have c2 := H3.out.1.get 1 rfl 2 rfl
  have c3 := H3.out.1.get 1 rfl 3 rfl
  have c4 := H3.out.1.get 1 rfl 4 rfl
  have c5 := H3.out.1.get 1 rfl 5 rfl
  refine bodyPost_ret (v := N 0) (by simp [results, Tryd.results19, go_sem, *]) rfl ?_
  exact ⟨rfl, H3.out.2⟩
end Rg
end Go.Proofs.YtkfannhbnbgloaaDoor
