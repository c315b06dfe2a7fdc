/- Wide of the document -/
import Derived.Test.YtoagmdgmbkpghaaM21
import Derived.Test.YtoagmdgmbkpghaaD0
namespace Go.Proofs.Ytoagmdgmbkpghaa
open Go.RowKit
namespace Rg
theorem call49 : ∀ args w, (callFunc 49 args).run Try.prog w = .ok (.enter 49 args) w := by intro args w; go_simp
theorem call9 : ∀ args w, (callFunc 9 args).run Try.prog w = .ok (.enter 9 args) w := by intro args w; go_simp
set_option maxHeartbeats 1000000 in
set_option maxRecDepth 100000 in
theorem rwide_gen (n a b z0 L : Nat) (hL : L = 384) (hz : z0 = 0) (f h : Nat → Nat) (bh bl' : Nat → Int) (fl : f L = z0) (hl : h L = f 0)
    (cb : ∀ k, k < 384 → ∀ w, Calls Try.prog 9 #[N b, .int .i64 (((k + 1 : Nat) : Int) - 1)] w fun e w' => e = .returned (.int .i64 (bh k)) ∧ Below w.heap.size w w')
    (cl : ∀ k, k < 384 → ∀ w, Calls Try.prog 9 #[N a, .int .i64 (((k + 1 : Nat) : Int) - 1)] w fun e w' => e = .returned (.int .i64 (bl' k)) ∧ Below w.heap.size w w')
    (cf : ∀ k, k < 384 → ∀ w, Calls Try.prog 49 #[N n, N (f (k + 1)), .int .i64 (bh k)] w fun e w' => e = .returned (N (f k)) ∧ Below w.heap.size w w')
    (ch : ∀ k, k < 384 → ∀ w, Calls Try.prog 49 #[N n, N (h (k + 1)), .int .i64 (bl' k)] w fun e w' => e = .returned (N (h k)) ∧ Below w.heap.size w w') (w : World) :
    Calls Try.prog 39 #[N n, N a, N b] w fun e w' => e = .returned (N (h 0)) ∧ Below w.heap.size w w' := by
  have H0 : Hid (_ ∧ _) := ⟨Mm.nil w, Below.refl w.heap.size w⟩
  have CB : Hid _ := cb
  have CL : Hid _ := cl
  have CF : Hid _ := cf
  have CH : Hid _ := ch
  have FL : Hid (zero6 = cells6 (f L)) := (by rw [fl, hz]; exact cells_zero.symm : zero6 = cells6 (f L))
  have HL : Hid (f 0 = h L) := hl.symm
  clear cb cl cf ch fl hl hz
  go_enter Try.func39, Try.ntmps39
  refine wp_seq ?_
  refine walk_seq 4 [.made (cells6 n) 24, .made (cells6 a) 24, .made (cells6 b) 24, .made zero6 24] (fun w' => Mm w' []) ?pre1 ?F1 ?hpre1 (fun γ => ?hF1) (by kernel_rfl) ?hL1 ?hS1 ?ho1 ?he1
  case hpre1 =>
    simp only [List.take_succ_cons, List.take_zero]
    exact rfl
  case hF1 =>
    simp only [fill, Kind.val, Act.put, List.setIfInBounds_toArray, List.set_cons_zero, List.set_cons_succ]
    exact rfl
  case hL1 => exact trivial
  case hS1 => exact fun w' hb => H0.out.1.below hb
  case ho1 =>
    refine AllOk.cons ?_ ?_
    · exact fun γ => ⟨rfl, fun w' => ex_box6 rfl rfl⟩
    refine AllOk.cons ?_ ?_
    · exact fun γ => ⟨rfl, fun w' => ex_box6 rfl rfl⟩
    refine AllOk.cons ?_ ?_
    · exact fun γ => ⟨rfl, fun w' => ex_box6 rfl rfl⟩
    refine AllOk.cons ?_ ?_
    · exact fun γ => ⟨rfl, fun w' => exec_made6 rfl⟩
    exact trivial
  intro γ w1 l hM hl
  have M1 : Mm w1 [(γ 0, cells6 n), (γ 1, cells6 a), (γ 2, cells6 b), (γ 3, zero6)] := H0.out.1.grow hM (Nat.le_refl _) hl [0, 1, 2, 3] rfl (by decide)
  have B1 : Below w.heap.size w w1 := H0.out.2.trans (hM.below.mono H0.out.2.size)
  have o1_0 : Hid (w.heap.size ≤ γ 0) := Nat.le_trans H0.out.2.size (hM.fin (Nat.le_refl _) hl (i := 0) rfl).2.1
  have o1_1 : Hid (w.heap.size ≤ γ 1) := Nat.le_trans H0.out.2.size (hM.fin (Nat.le_refl _) hl (i := 1) rfl).2.1
  have o1_2 : Hid (w.heap.size ≤ γ 2) := Nat.le_trans H0.out.2.size (hM.fin (Nat.le_refl _) hl (i := 2) rfl).2.1
  have o1_3 : Hid (w.heap.size ≤ γ 3) := Nat.le_trans H0.out.2.size (hM.fin (Nat.le_refl _) hl (i := 3) rfl).2.1
  clear hM hl l
  generalize γ 0 = γ1_0 at M1 o1_0 ⊢
  generalize γ 1 = γ1_1 at M1 o1_1 ⊢
  generalize γ 2 = γ1_2 at M1 o1_2 ⊢
  generalize γ 3 = γ1_3 at M1 o1_3 ⊢
  clear γ
  have H1 : Hid (_ ∧ _) := ⟨M1, B1⟩
  clear M1 B1
  refine rest_at (l := []) rfl ?_
  refine rest_nil ?_
  refine then_normal ?_
  refine wp_seq ?_
  refine walk_seq 1 [.made zero6 24] (fun w' => Mm w' [(γ1_0, cells6 n), (γ1_1, cells6 a), (γ1_2, cells6 b), (γ1_3, zero6)]) ?pre2 ?F2 ?hpre2 (fun γ => ?hF2) (by kernel_rfl) ?hL2 ?hS2 ?ho2 ?he2
  case hpre2 =>
    simp only [List.take_succ_cons, List.take_zero]
    exact rfl
  case hF2 =>
    simp only [fill, Kind.val, Act.put, List.setIfInBounds_toArray, List.set_cons_zero, List.set_cons_succ]
    exact rfl
  case hL2 => exact trivial
  case hS2 => exact fun w' hb => H1.out.1.below hb
  case ho2 =>
    refine AllOk.cons ?_ ?_
    · exact fun γ => ⟨rfl, fun w' => exec_made6 rfl⟩
    exact trivial
  intro γ w2 l hM hl
  have M2 : Mm w2 [(γ 0, zero6), (γ1_0, cells6 n), (γ1_1, cells6 a), (γ1_2, cells6 b), (γ1_3, zero6)] := H1.out.1.grow hM (Nat.le_refl _) hl [0] rfl (by decide)
  have B2 : Below w.heap.size w w2 := H1.out.2.trans (hM.below.mono H1.out.2.size)
  have o2_0 : Hid (w.heap.size ≤ γ 0) := Nat.le_trans H1.out.2.size (hM.fin (Nat.le_refl _) hl (i := 0) rfl).2.1
  clear hM hl l H1
  generalize γ 0 = γ2_0 at M2 o2_0 ⊢
  clear γ
  have H2 : Hid (_ ∧ _) := ⟨M2, B2⟩
  clear M2 B2
  refine rest_at (l := []) rfl ?_
  refine rest_nil ?_
  refine then_normal ?_
  refine wp_seq ?_
  refine wp_seq ?_
  refine walk_seq 1 [.quiet (.int .i64 383)] (fun w' => Mm w' [(γ2_0, zero6), (γ1_0, cells6 n), (γ1_1, cells6 a), (γ1_2, cells6 b), (γ1_3, zero6)]) ?pre3 ?F3 ?hpre3 (fun γ => ?hF3) (by kernel_rfl) ?hL3 ?hS3 ?ho3 ?he3
  case hpre3 =>
    simp only [List.take_succ_cons, List.take_zero]
    exact rfl
  case hF3 =>
    simp only [fill, Kind.val, Act.put, List.setIfInBounds_toArray, List.set_cons_zero, List.set_cons_succ]
    exact rfl
  case hL3 => exact trivial
  case hS3 => exact fun w' hb => H2.out.1.below hb
  case ho3 =>
    refine AllOk.cons ?_ ?_
    · exact fun γ => ⟨rfl, fun w' _ => rfl⟩
    exact trivial
  intro γ w3 l hM hl
  have M3 : Mm w3 [(γ2_0, zero6), (γ1_0, cells6 n), (γ1_1, cells6 a), (γ1_2, cells6 b), (γ1_3, zero6)] := H2.out.1.grow hM (Nat.le_refl _) hl [] rfl (by decide)
  have B3 : Below w.heap.size w w3 := H2.out.2.trans (hM.below.mono H2.out.2.size)
  clear hM hl l H2
  clear γ
  have H3 : Hid (_ ∧ _) := ⟨M3, B3⟩
  clear M3 B3
  refine rest_at (l := []) rfl ?_
  refine rest_nil ?_
  refine then_normal ?_
  refine wp_block ?_
  refine loop_ghost (α := Nat) (fun k a' w' => ∃ s0 : Nat → Value, a' = ⟨#[N n, N a, N b, PT γ1_0 0, PT γ1_1 0, PT γ1_2 0, PT γ1_3 0, PT γ2_0 0, .int .i64 (((k : Nat) : Int) - 1), undef, s0 10, s0 11, s0 12, s0 13, s0 14, s0 15, s0 16, s0 17, s0 18, s0 19, undef, undef, undef, undef, undef, undef, undef, undef, undef, undef, undef], []⟩ ∧ (Mm w' [(γ2_0, cells6 (f k)), (γ1_0, cells6 n), (γ1_1, cells6 a), (γ1_2, cells6 b), (γ1_3, zero6)] ∧ Below w.heap.size w w') ∧ k ≤ L) (fun k => k) L ?st0 ?rd0
  case st0 => exact ⟨(slotfn [undef, undef, undef, undef, undef, undef, undef, undef, undef, undef, undef, undef, undef, undef, undef, undef, undef, undef, undef, undef]), (by rw [hL]; rfl), ⟨H3.out.1.at0 (by rw [FL.out]), H3.out.2⟩, by omega⟩
  intro k a' w4 hI
  obtain ⟨s0, rfl, hMB, hk0⟩ := hI
  have H4 : Hid (_ ∧ _) := hMB
  clear hMB H3
  by_cases hltk : 1 ≤ k
  · have hrd : True := trivial
    clear hrd
    obtain ⟨j, rfl⟩ : ∃ j, k = j + 1 := ⟨k - 1, by omega⟩
    refine wp_seq ?_
    refine wp_seq ?_
    refine walk_seq 2 [.quiet (.int .i64 (((j + 1 : Nat) : Int) - 1)), .quiet (.bool true)] (fun w' => Mm w' [(γ2_0, cells6 (f (j + 1))), (γ1_0, cells6 n), (γ1_1, cells6 a), (γ1_2, cells6 b), (γ1_3, zero6)]) ?pre4 ?F4 ?hpre4 (fun γ => ?hF4) (by kernel_rfl) ?hL4 ?hS4 ?ho4 ?he4
    case hpre4 =>
      simp only [List.take_succ_cons, List.take_zero]
      exact rfl
    case hF4 =>
      simp only [fill, Kind.val, Act.put, List.setIfInBounds_toArray, List.set_cons_zero, List.set_cons_succ]
      exact rfl
    case hL4 => exact trivial
    case hS4 => exact fun w' hb => H4.out.1.below hb
    case ho4 =>
      refine AllOk.cons ?_ ?_
      · exact fun γ => ⟨rfl, fun w' _ => rfl⟩
      refine AllOk.cons ?_ ?_
      · (refine fun γ => ⟨rfl, fun w' h' => ?_⟩; clear h'; go_simp <;> omega)
      exact trivial
    intro γ w5 l hM hl
    have M5 : Mm w5 [(γ2_0, cells6 (f (j + 1))), (γ1_0, cells6 n), (γ1_1, cells6 a), (γ1_2, cells6 b), (γ1_3, zero6)] := H4.out.1.grow hM (Nat.le_refl _) hl [] rfl (by decide)
    have B5 : Below w.heap.size w w5 := H4.out.2.trans (hM.below.mono H4.out.2.size)
    clear hM hl l H4
    clear γ
    have H5 : Hid (_ ∧ _) := ⟨M5, B5⟩
    clear M5 B5
    refine rest_at (l := []) rfl ?_
    refine rest_nil ?_
    refine then_normal ?_
    refine wp_cond_true rfl ?_
    refine wp_skip ?_
    refine then_normal ?_
    refine wp_seq ?_
    refine wp_block ?_
    refine walk_any (by kernel_rfl) 6 [.quiet (N n), .quiet (N (f (j + 1))), .quiet (N b), .quiet (.int .i64 (((j + 1 : Nat) : Int) - 1)), .call (.int .i64 (bh j)), .call (N (f j))] (fun w' => Mm w' [(γ2_0, cells6 (f (j + 1))), (γ1_0, cells6 n), (γ1_1, cells6 a), (γ1_2, cells6 b), (γ1_3, zero6)]) ?pre5 ?F5 ?hpre5 (fun γ => ?hF5) (by kernel_rfl) ?hL5 ?hS5 ?ho5 ?he5
    case hpre5 =>
      simp only [List.take_succ_cons, List.take_zero]
      exact rfl
    case hF5 =>
      simp only [fill, Kind.val, Act.put, List.setIfInBounds_toArray, List.set_cons_zero, List.set_cons_succ]
      exact rfl
    case hL5 => exact trivial
    case hS5 => exact fun w' hb => H5.out.1.below hb
    case ho5 =>
      refine AllOk.cons ?_ ?_
      · exact fun γ => ⟨rfl, fun w' h' => ex_load6 h' 1 rfl rfl rfl rfl⟩
      refine AllOk.cons ?_ ?_
      · exact fun γ => ⟨rfl, fun w' h' => ex_load6 h' 0 rfl rfl rfl rfl⟩
      refine AllOk.cons ?_ ?_
      · exact fun γ => ⟨rfl, fun w' h' => ex_load6 h' 3 rfl rfl rfl rfl⟩
      refine AllOk.cons ?_ ?_
      · exact fun γ => ⟨rfl, fun w' _ => rfl⟩
      refine AllOk.cons ?_ ?_
      · exact fun γ => ⟨rfl, fun w' h' => ⟨9, #[N b, .int .i64 (((j + 1 : Nat) : Int) - 1)], exec_call rfl call9 rfl (by simp only [List.map_toArray, List.map_cons, List.map_nil]; rfl), CB.out j (by omega) w'⟩⟩
      refine AllOk.cons ?_ ?_
      · exact fun γ => ⟨rfl, fun w' h' => ⟨49, #[N n, N (f (j + 1)), .int .i64 (bh j)], exec_call rfl call49 rfl (by simp only [List.map_toArray, List.map_cons, List.map_nil]; rfl), CF.out j (by omega) w'⟩⟩
      exact trivial
    intro γ w6 l hM hl
    have M6 : Mm w6 [(γ2_0, cells6 (f (j + 1))), (γ1_0, cells6 n), (γ1_1, cells6 a), (γ1_2, cells6 b), (γ1_3, zero6)] := H5.out.1.grow hM (Nat.le_refl _) hl [] rfl (by decide)
    have B6 : Below w.heap.size w w6 := H5.out.2.trans (hM.below.mono H5.out.2.size)
    clear hM hl l H5
    clear γ
    have H6 : Hid (_ ∧ _) := ⟨M6, B6⟩
    clear M6 B6
    refine rest_at (l := [6]) rfl ?_
    refine rest_store rfl rfl rfl (ex_store6 H6.out.1 0 rfl rfl rfl rfl (Nat.le_of_ble_eq_true rfl)) ?_
    have H7 : Hid (Mm (w6.setCells γ2_0 0 (cells6 (f j))) [(γ2_0, cells6 (f j)), (γ1_0, cells6 n), (γ1_1, cells6 a), (γ1_2, cells6 b), (γ1_3, zero6)] ∧ Below w.heap.size w (w6.setCells γ2_0 0 (cells6 (f j)))) := ⟨H6.out.1.put 0 (off := 0) (vs := cells6 (f j)) rfl (Nat.le_of_ble_eq_true rfl), below_setCells _ o2_0.out _ _ _ H6.out.2⟩
    clear H6
    generalize hgw : World.setCells _ _ _ _ = w7 at H7 ⊢
    clear hgw
    refine rest_nil ?_
    refine block_normal ?_
    refine then_normal ?_
    refine walk_seq 2 [.quiet (.int .i64 (((j + 1 : Nat) : Int) - 1)), .quiet (.int .i64 (((j : Nat) : Int) - 1))] (fun w' => Mm w' [(γ2_0, cells6 (f j)), (γ1_0, cells6 n), (γ1_1, cells6 a), (γ1_2, cells6 b), (γ1_3, zero6)]) ?pre6 ?F6 ?hpre6 (fun γ => ?hF6) (by kernel_rfl) ?hL6 ?hS6 ?ho6 ?he6
    case hpre6 =>
      simp only [List.take_succ_cons, List.take_zero]
      exact rfl
    case hF6 =>
      simp only [fill, Kind.val, Act.put, List.setIfInBounds_toArray, List.set_cons_zero, List.set_cons_succ]
      exact rfl
    case hL6 => exact trivial
    case hS6 => exact fun w' hb => H7.out.1.below hb
    case ho6 =>
      refine AllOk.cons ?_ ?_
      · exact fun γ => ⟨rfl, fun w' _ => rfl⟩
      refine AllOk.cons ?_ ?_
      · (refine fun γ => ⟨rfl, fun w' h' => ?_⟩; clear h'; go_simp; rw [IntKind.wrap_i64]; omega)
      exact trivial
    intro γ w8 l hM hl
    have M8 : Mm w8 [(γ2_0, cells6 (f j)), (γ1_0, cells6 n), (γ1_1, cells6 a), (γ1_2, cells6 b), (γ1_3, zero6)] := H7.out.1.grow hM (Nat.le_refl _) hl [] rfl (by decide)
    have B8 : Below w.heap.size w w8 := H7.out.2.trans (hM.below.mono H7.out.2.size)
    clear hM hl l H7
    clear γ
    have H8 : Hid (_ ∧ _) := ⟨M8, B8⟩
    clear M8 B8
    refine rest_at (l := [2]) rfl ?_
    refine rest_set (d := 8) rfl rfl rfl rfl ?_
    simp only [Act.put, List.setIfInBounds_toArray, List.set_cons_zero, List.set_cons_succ]
    refine rest_nil ?_
    refine then_normal ?_
    exact ⟨j, ⟨(slotfn [undef, undef, undef, undef, undef, undef, undef, undef, undef, undef, .int .i64 (((j + 1 : Nat) : Int) - 1), .bool true, .int .i64 (((j + 1 : Nat) : Int) - 1), .int .i64 (((j : Nat) : Int) - 1), N n, N (f (j + 1)), N b, .int .i64 (((j + 1 : Nat) : Int) - 1), .int .i64 (bh j), N (f j)]), rfl, ⟨H8.out.1, H8.out.2⟩, by omega⟩, by omega⟩
  have hk0 : k = 0 := by omega
  subst hk0
  refine wp_seq ?_
  refine wp_seq ?_
  refine walk_seq 2 [.quiet (.int .i64 (((0 : Nat) : Int) - 1)), .quiet (.bool false)] (fun w' => Mm w' [(γ2_0, cells6 (f 0)), (γ1_0, cells6 n), (γ1_1, cells6 a), (γ1_2, cells6 b), (γ1_3, zero6)]) ?pre7 ?F7 ?hpre7 (fun γ => ?hF7) (by kernel_rfl) ?hL7 ?hS7 ?ho7 ?he7
  case hpre7 =>
    simp only [List.take_succ_cons, List.take_zero]
    exact rfl
  case hF7 =>
    simp only [fill, Kind.val, Act.put, List.setIfInBounds_toArray, List.set_cons_zero, List.set_cons_succ]
    exact rfl
  case hL7 => exact trivial
  case hS7 => exact fun w' hb => H4.out.1.below hb
  case ho7 =>
    refine AllOk.cons ?_ ?_
    · exact fun γ => ⟨rfl, fun w' _ => rfl⟩
    refine AllOk.cons ?_ ?_
    · (refine fun γ => ⟨rfl, fun w' h' => ?_⟩; clear h'; go_simp <;> omega)
    exact trivial
  intro γ w9 l hM hl
  have M9 : Mm w9 [(γ2_0, cells6 (f 0)), (γ1_0, cells6 n), (γ1_1, cells6 a), (γ1_2, cells6 b), (γ1_3, zero6)] := H4.out.1.grow hM (Nat.le_refl _) hl [] rfl (by decide)
  have B9 : Below w.heap.size w w9 := H4.out.2.trans (hM.below.mono H4.out.2.size)
  clear hM hl l H4
  clear γ
  have H9 : Hid (_ ∧ _) := ⟨M9, B9⟩
  clear M9 B9
  refine rest_at (l := []) rfl ?_
  refine rest_nil ?_
  refine then_normal ?_
  refine wp_cond_false rfl ?_
  refine wp_exit ?_
  repeat refine then_exit ?_
  refine block_exit ?_
  refine then_normal ?_
  refine wp_seq ?_
  refine wp_seq ?_
  refine walk_seq 1 [.quiet (.int .i64 383)] (fun w' => Mm w' [(γ2_0, cells6 (f 0)), (γ1_0, cells6 n), (γ1_1, cells6 a), (γ1_2, cells6 b), (γ1_3, zero6)]) ?pre8 ?F8 ?hpre8 (fun γ => ?hF8) (by kernel_rfl) ?hL8 ?hS8 ?ho8 ?he8
  case hpre8 =>
    simp only [List.take_succ_cons, List.take_zero]
    exact rfl
  case hF8 =>
    simp only [fill, Kind.val, Act.put, List.setIfInBounds_toArray, List.set_cons_zero, List.set_cons_succ]
    exact rfl
  case hL8 => exact trivial
  case hS8 => exact fun w' hb => H9.out.1.below hb
  case ho8 =>
    refine AllOk.cons ?_ ?_
    · exact fun γ => ⟨rfl, fun w' _ => rfl⟩
    exact trivial
  intro γ w10 l hM hl
  have M10 : Mm w10 [(γ2_0, cells6 (f 0)), (γ1_0, cells6 n), (γ1_1, cells6 a), (γ1_2, cells6 b), (γ1_3, zero6)] := H9.out.1.grow hM (Nat.le_refl _) hl [] rfl (by decide)
  have B10 : Below w.heap.size w w10 := H9.out.2.trans (hM.below.mono H9.out.2.size)
  clear hM hl l H9
  clear γ
  have H10 : Hid (_ ∧ _) := ⟨M10, B10⟩
  clear M10 B10
  refine rest_at (l := []) rfl ?_
  refine rest_nil ?_
  refine then_normal ?_
  refine wp_block ?_
  refine loop_ghost (α := Nat) (fun m a' w' => ∃ s2 : Nat → Value, a' = ⟨#[N n, N a, N b, PT γ1_0 0, PT γ1_1 0, PT γ1_2 0, PT γ1_3 0, PT γ2_0 0, .int .i64 (((0 : Nat) : Int) - 1), .int .i64 (((m : Nat) : Int) - 1), .int .i64 (((0 : Nat) : Int) - 1), .bool false, s0 12, s0 13, s0 14, s0 15, s0 16, s0 17, s0 18, s0 19, s2 20, s2 21, s2 22, s2 23, s2 24, s2 25, s2 26, s2 27, s2 28, s2 29, undef], []⟩ ∧ (Mm w' [(γ2_0, cells6 (h m)), (γ1_0, cells6 n), (γ1_1, cells6 a), (γ1_2, cells6 b), (γ1_3, zero6)] ∧ Below w.heap.size w w') ∧ m ≤ L) (fun m => m) L ?st2 ?rd2
  case st2 => exact ⟨(slotfn [undef, undef, undef, undef, undef, undef, undef, undef, undef, undef, undef, undef, undef, undef, undef, undef, undef, undef, undef, undef, undef, undef, undef, undef, undef, undef, undef, undef, undef, undef]), (by rw [hL]; rfl), ⟨H10.out.1.at0 (by rw [HL.out]), H10.out.2⟩, by omega⟩
  intro m a' w11 hI
  obtain ⟨s2, rfl, hMB, hk2⟩ := hI
  have H11 : Hid (_ ∧ _) := hMB
  clear hMB H10
  by_cases hltm : 1 ≤ m
  · have hrd : True := trivial
    clear hrd
    obtain ⟨j, rfl⟩ : ∃ j, m = j + 1 := ⟨m - 1, by omega⟩
    refine wp_seq ?_
    refine wp_seq ?_
    refine walk_seq 2 [.quiet (.int .i64 (((j + 1 : Nat) : Int) - 1)), .quiet (.bool true)] (fun w' => Mm w' [(γ2_0, cells6 (h (j + 1))), (γ1_0, cells6 n), (γ1_1, cells6 a), (γ1_2, cells6 b), (γ1_3, zero6)]) ?pre9 ?F9 ?hpre9 (fun γ => ?hF9) (by kernel_rfl) ?hL9 ?hS9 ?ho9 ?he9
    case hpre9 =>
      simp only [List.take_succ_cons, List.take_zero]
      exact rfl
    case hF9 =>
      simp only [fill, Kind.val, Act.put, List.setIfInBounds_toArray, List.set_cons_zero, List.set_cons_succ]
      exact rfl
    case hL9 => exact trivial
    case hS9 => exact fun w' hb => H11.out.1.below hb
    case ho9 =>
      refine AllOk.cons ?_ ?_
      · exact fun γ => ⟨rfl, fun w' _ => rfl⟩
      refine AllOk.cons ?_ ?_
      · (refine fun γ => ⟨rfl, fun w' h' => ?_⟩; clear h'; go_simp <;> omega)
      exact trivial
    intro γ w12 l hM hl
    have M12 : Mm w12 [(γ2_0, cells6 (h (j + 1))), (γ1_0, cells6 n), (γ1_1, cells6 a), (γ1_2, cells6 b), (γ1_3, zero6)] := H11.out.1.grow hM (Nat.le_refl _) hl [] rfl (by decide)
    have B12 : Below w.heap.size w w12 := H11.out.2.trans (hM.below.mono H11.out.2.size)
    clear hM hl l H11
    clear γ
    have H12 : Hid (_ ∧ _) := ⟨M12, B12⟩
    clear M12 B12
    refine rest_at (l := []) rfl ?_
    refine rest_nil ?_
    refine then_normal ?_
    refine wp_cond_true rfl ?_
    refine wp_skip ?_
    refine then_normal ?_
    refine wp_seq ?_
    refine wp_block ?_
    refine walk_any (by kernel_rfl) 6 [.quiet (N n), .quiet (N (h (j + 1))), .quiet (N a), .quiet (.int .i64 (((j + 1 : Nat) : Int) - 1)), .call (.int .i64 (bl' j)), .call (N (h j))] (fun w' => Mm w' [(γ2_0, cells6 (h (j + 1))), (γ1_0, cells6 n), (γ1_1, cells6 a), (γ1_2, cells6 b), (γ1_3, zero6)]) ?pre10 ?F10 ?hpre10 (fun γ => ?hF10) (by kernel_rfl) ?hL10 ?hS10 ?ho10 ?he10
    case hpre10 =>
      simp only [List.take_succ_cons, List.take_zero]
      exact rfl
    case hF10 =>
      simp only [fill, Kind.val, Act.put, List.setIfInBounds_toArray, List.set_cons_zero, List.set_cons_succ]
      exact rfl
    case hL10 => exact trivial
    case hS10 => exact fun w' hb => H12.out.1.below hb
    case ho10 =>
      refine AllOk.cons ?_ ?_
      · exact fun γ => ⟨rfl, fun w' h' => ex_load6 h' 1 rfl rfl rfl rfl⟩
      refine AllOk.cons ?_ ?_
      · exact fun γ => ⟨rfl, fun w' h' => ex_load6 h' 0 rfl rfl rfl rfl⟩
      refine AllOk.cons ?_ ?_
      · exact fun γ => ⟨rfl, fun w' h' => ex_load6 h' 2 rfl rfl rfl rfl⟩
      refine AllOk.cons ?_ ?_
      · exact fun γ => ⟨rfl, fun w' _ => rfl⟩
      refine AllOk.cons ?_ ?_
      · exact fun γ => ⟨rfl, fun w' h' => ⟨9, #[N a, .int .i64 (((j + 1 : Nat) : Int) - 1)], exec_call rfl call9 rfl (by simp only [List.map_toArray, List.map_cons, List.map_nil]; rfl), CL.out j (by omega) w'⟩⟩
      refine AllOk.cons ?_ ?_
      · exact fun γ => ⟨rfl, fun w' h' => ⟨49, #[N n, N (h (j + 1)), .int .i64 (bl' j)], exec_call rfl call49 rfl (by simp only [List.map_toArray, List.map_cons, List.map_nil]; rfl), CH.out j (by omega) w'⟩⟩
      exact trivial
    intro γ w13 l hM hl
    have M13 : Mm w13 [(γ2_0, cells6 (h (j + 1))), (γ1_0, cells6 n), (γ1_1, cells6 a), (γ1_2, cells6 b), (γ1_3, zero6)] := H12.out.1.grow hM (Nat.le_refl _) hl [] rfl (by decide)
    have B13 : Below w.heap.size w w13 := H12.out.2.trans (hM.below.mono H12.out.2.size)
    clear hM hl l H12
    clear γ
    have H13 : Hid (_ ∧ _) := ⟨M13, B13⟩
    clear M13 B13
    refine rest_at (l := [6]) rfl ?_
    refine rest_store rfl rfl rfl (ex_store6 H13.out.1 0 rfl rfl rfl rfl (Nat.le_of_ble_eq_true rfl)) ?_
    have H14 : Hid (Mm (w13.setCells γ2_0 0 (cells6 (h j))) [(γ2_0, cells6 (h j)), (γ1_0, cells6 n), (γ1_1, cells6 a), (γ1_2, cells6 b), (γ1_3, zero6)] ∧ Below w.heap.size w (w13.setCells γ2_0 0 (cells6 (h j)))) := ⟨H13.out.1.put 0 (off := 0) (vs := cells6 (h j)) rfl (Nat.le_of_ble_eq_true rfl), below_setCells _ o2_0.out _ _ _ H13.out.2⟩
    clear H13
    generalize hgw : World.setCells _ _ _ _ = w14 at H14 ⊢
    clear hgw
    refine rest_nil ?_
    refine block_normal ?_
    refine then_normal ?_
    refine walk_seq 2 [.quiet (.int .i64 (((j + 1 : Nat) : Int) - 1)), .quiet (.int .i64 (((j : Nat) : Int) - 1))] (fun w' => Mm w' [(γ2_0, cells6 (h j)), (γ1_0, cells6 n), (γ1_1, cells6 a), (γ1_2, cells6 b), (γ1_3, zero6)]) ?pre11 ?F11 ?hpre11 (fun γ => ?hF11) (by kernel_rfl) ?hL11 ?hS11 ?ho11 ?he11
    case hpre11 =>
      simp only [List.take_succ_cons, List.take_zero]
      exact rfl
    case hF11 =>
      simp only [fill, Kind.val, Act.put, List.setIfInBounds_toArray, List.set_cons_zero, List.set_cons_succ]
      exact rfl
    case hL11 => exact trivial
    case hS11 => exact fun w' hb => H14.out.1.below hb
    case ho11 =>
      refine AllOk.cons ?_ ?_
      · exact fun γ => ⟨rfl, fun w' _ => rfl⟩
      refine AllOk.cons ?_ ?_
      · (refine fun γ => ⟨rfl, fun w' h' => ?_⟩; clear h'; go_simp; rw [IntKind.wrap_i64]; omega)
      exact trivial
    intro γ w15 l hM hl
    have M15 : Mm w15 [(γ2_0, cells6 (h j)), (γ1_0, cells6 n), (γ1_1, cells6 a), (γ1_2, cells6 b), (γ1_3, zero6)] := H14.out.1.grow hM (Nat.le_refl _) hl [] rfl (by decide)
    have B15 : Below w.heap.size w w15 := H14.out.2.trans (hM.below.mono H14.out.2.size)
    clear hM hl l H14
    clear γ
    have H15 : Hid (_ ∧ _) := ⟨M15, B15⟩
    clear M15 B15
    refine rest_at (l := [2]) rfl ?_
    refine rest_set (d := 9) rfl rfl rfl rfl ?_
    simp only [Act.put, List.setIfInBounds_toArray, List.set_cons_zero, List.set_cons_succ]
    refine rest_nil ?_
    refine then_normal ?_
    exact ⟨j, ⟨(slotfn [undef, undef, undef, undef, undef, undef, undef, undef, undef, undef, undef, undef, undef, undef, undef, undef, undef, undef, undef, undef, .int .i64 (((j + 1 : Nat) : Int) - 1), .bool true, .int .i64 (((j + 1 : Nat) : Int) - 1), .int .i64 (((j : Nat) : Int) - 1), N n, N (h (j + 1)), N a, .int .i64 (((j + 1 : Nat) : Int) - 1), .int .i64 (bl' j), N (h j)]), rfl, ⟨H15.out.1, H15.out.2⟩, by omega⟩, by omega⟩
  have hm0 : m = 0 := by omega
  subst hm0
  refine wp_seq ?_
  refine wp_seq ?_
  refine walk_seq 2 [.quiet (.int .i64 (((0 : Nat) : Int) - 1)), .quiet (.bool false)] (fun w' => Mm w' [(γ2_0, cells6 (h 0)), (γ1_0, cells6 n), (γ1_1, cells6 a), (γ1_2, cells6 b), (γ1_3, zero6)]) ?pre12 ?F12 ?hpre12 (fun γ => ?hF12) (by kernel_rfl) ?hL12 ?hS12 ?ho12 ?he12
  case hpre12 =>
    simp only [List.take_succ_cons, List.take_zero]
    exact rfl
  case hF12 =>
    simp only [fill, Kind.val, Act.put, List.setIfInBounds_toArray, List.set_cons_zero, List.set_cons_succ]
    exact rfl
  case hL12 => exact trivial
  case hS12 => exact fun w' hb => H11.out.1.below hb
  case ho12 =>
    refine AllOk.cons ?_ ?_
    · exact fun γ => ⟨rfl, fun w' _ => rfl⟩
    refine AllOk.cons ?_ ?_
    · (refine fun γ => ⟨rfl, fun w' h' => ?_⟩; clear h'; go_simp <;> omega)
    exact trivial
  intro γ w16 l hM hl
  have M16 : Mm w16 [(γ2_0, cells6 (h 0)), (γ1_0, cells6 n), (γ1_1, cells6 a), (γ1_2, cells6 b), (γ1_3, zero6)] := H11.out.1.grow hM (Nat.le_refl _) hl [] rfl (by decide)
  have B16 : Below w.heap.size w w16 := H11.out.2.trans (hM.below.mono H11.out.2.size)
  clear hM hl l H11
  clear γ
  have H16 : Hid (_ ∧ _) := ⟨M16, B16⟩
  clear M16 B16
  refine rest_at (l := []) rfl ?_
  refine rest_nil ?_
  refine then_normal ?_
  refine wp_cond_false rfl ?_
  refine wp_exit ?_
  repeat refine then_exit ?_
  refine block_exit ?_
  refine then_normal ?_
  refine wp_seq ?_
  refine walk_seq 1 [.quiet (N (h 0))] (fun w' => Mm w' [(γ2_0, cells6 (h 0)), (γ1_0, cells6 n), (γ1_1, cells6 a), (γ1_2, cells6 b), (γ1_3, zero6)]) ?pre13 ?F13 ?hpre13 (fun γ => ?hF13) (by kernel_rfl) ?hL13 ?hS13 ?ho13 ?he13
  case hpre13 =>
    simp only [List.take_succ_cons, List.take_zero]
    exact rfl
  case hF13 =>
    simp only [fill, Kind.val, Act.put, List.setIfInBounds_toArray, List.set_cons_zero, List.set_cons_succ]
    exact rfl
  case hL13 => exact trivial
  case hS13 => exact fun w' hb => H16.out.1.below hb
  case ho13 =>
    refine AllOk.cons ?_ ?_
    · exact fun γ => ⟨rfl, fun w' h' => ex_load6 h' 0 rfl rfl rfl rfl⟩
    exact trivial
  intro γ w17 l hM hl
  have M17 : Mm w17 [(γ2_0, cells6 (h 0)), (γ1_0, cells6 n), (γ1_1, cells6 a), (γ1_2, cells6 b), (γ1_3, zero6)] := H16.out.1.grow hM (Nat.le_refl _) hl [] rfl (by decide)
  have B17 : Below w.heap.size w w17 := H16.out.2.trans (hM.below.mono H16.out.2.size)
  clear hM hl l H16
  clear γ
  have H17 : Hid (_ ∧ _) := ⟨M17, B17⟩
  clear M17 B17
  refine rest_at (l := [1]) rfl ?_
  refine rest_store rfl rfl rfl (ex_store6 H17.out.1 4 rfl rfl rfl rfl (Nat.le_of_ble_eq_true rfl)) ?_
  have H18 : Hid (Mm (w17.setCells γ1_3 0 (cells6 (h 0))) [(γ2_0, cells6 (h 0)), (γ1_0, cells6 n), (γ1_1, cells6 a), (γ1_2, cells6 b), (γ1_3, cells6 (h 0))] ∧ Below w.heap.size w (w17.setCells γ1_3 0 (cells6 (h 0)))) := ⟨H17.out.1.put 4 (off := 0) (vs := cells6 (h 0)) rfl (Nat.le_of_ble_eq_true rfl), below_setCells _ o1_3.out _ _ _ H17.out.2⟩
  clear H17
  generalize hgw : World.setCells _ _ _ _ = w18 at H18 ⊢
  clear hgw
  refine rest_nil ?_
  refine then_normal ?_
  refine wp_ret ?_
  repeat (first | refine then_ret ?_ | refine block_ret ?_)
  have c0 := H18.out.1.get 4 rfl 0 rfl
  have c1 := H18.out.1.get 4 rfl 1 rfl
  have c2 := H18.out.1.get 4 rfl 2 rfl
  have c3 := H18.out.1.get 4 rfl 3 rfl
  have c4 := H18.out.1.get 4 rfl 4 rfl
  have c5 := H18.out.1.get 4 rfl 5 rfl
  refine bodyPost_ret (v := N (h 0)) (by simp [results, Try.results39, go_sem, *]) rfl ?_
  exact ⟨rfl, H18.out.2⟩

theorem rwide_any {n a b : Nat} (ok : Ok n) (ha : a < big) (hb : b < big) (w : World) :
    Calls Try.prog 39 #[N n, N a, N b] w fun e w' => e = .returned (N ((a + b * big) % n)) ∧ Below w.heap.size w w' := by
  have hp := ok.pos
  have h := rwide_gen n a b 0 384 rfl rfl (fun k => b / 2 ^ k % n) (fun k => (a + b * big) / 2 ^ k % n) (fun k => bitv b k) (fun k => bitv a k) ?_ ?_ ?_ ?_ ?_ ?_ w
  · rw [Nat.pow_zero, Nat.div_one] at h
    exact h
  · obtain ⟨m, hm, e⟩ := big_pow
    obtain ⟨l, hl⟩ : ∃ l, l = 384 := ⟨_, rfl⟩
    rw [← hl]
    have : b / 2 ^ l = 0 := Nat.div_eq_of_lt (by rw [show l = 64 * m by omega, ← e]; exact hb)
    simp only [this, Nat.zero_mod]
  · obtain ⟨m, hm, e⟩ := big_pow
    obtain ⟨l, hl⟩ : ∃ l, l = 384 := ⟨_, rfl⟩
    rw [← hl]
    have e2 : 2 ^ l = big := by rw [show l = 64 * m by omega, ← e]
    simp only [e2, Nat.pow_zero, Nat.div_one, Nat.add_mul_div_right _ _ big_pos, Nat.div_eq_of_lt ha, Nat.zero_add]
  · intro k hk w
    have h := bit_ref_in b k hk w
    rw [show (((k + 1 : Nat) : Int) - 1) = ((k : Nat) : Int) by omega]
    exact h
  · intro k hk w
    have h := bit_ref_in a k hk w
    rw [show (((k + 1 : Nat) : Int) - 1) = ((k : Nat) : Int) by omega]
    exact h
  · intro k hk w
    have h := twice_any n (b / 2 ^ (k + 1) % n) (b / 2 ^ k % 2) ok (Nat.mod_lt _ hp) (by omega) w
    have e := half_step b k
    have e2 : (2 * (b / 2 ^ (k + 1) % n) + b / 2 ^ k % 2) % n = b / 2 ^ k % n := by
      conv => rhs; rw [e]
      exact ((Cg.mod n (b / 2 ^ (k + 1))).mulL 2).addR _
    rw [e2] at h
    exact h
  · intro k hk w
    have h := twice_any n ((a + b * big) / 2 ^ (k + 1) % n) ((a + b * big) / 2 ^ k % 2) ok (Nat.mod_lt _ hp) (by omega) w
    have e := half_step (a + b * big) k
    have e2 : (2 * ((a + b * big) / 2 ^ (k + 1) % n) + (a + b * big) / 2 ^ k % 2) % n = (a + b * big) / 2 ^ k % n := by
      conv => rhs; rw [e]
      exact ((Cg.mod n ((a + b * big) / 2 ^ (k + 1))).mulL 2).addR _
    have e3 : (a + b * big) / 2 ^ k % 2 = a / 2 ^ k % 2 := by
      obtain ⟨m, hm, eb⟩ := big_pow
      have e4 : big = 2 ^ k * (2 * 2 ^ (64 * m - k - 1)) := by
        rw [eb, ← Nat.pow_succ', ← Nat.pow_add]
        congr 1
        omega
      rw [e4, Nat.mul_left_comm, Nat.add_mul_div_left _ _ (Nat.two_pow_pos k), Nat.mul_left_comm, Nat.add_mul_mod_self_left]
    rw [e2, e3] at h
    exact h
end Rg
end Go.Proofs.Ytoagmdgmbkpghaa
