/- Texts of the proof, joined. -/
import Derived.Test.YtfmjfgkgoenhnaaDoorP5
import Derived.Laws.Bits64b
section
namespace Go.Proofs.YtfmjfgkgoenhnaaDoor
open Go.RowKit
namespace Rg
theorem call36 : ∀ args w, (callFunc 36 args).run Tryd.prog w = .ok (.enter 36 args) w := by intro args w; go_simp
theorem call37 : ∀ args w, (callFunc 37 args).run Tryd.prog w = .ok (.enter 37 args) w := by intro args w; go_simp
set_option maxHeartbeats 1000000 in
set_option maxRecDepth 100000 in
theorem rwide_gen (n a b z0 L : Nat) (hL : L = 384) (hz : z0 = 0) (f h : Nat → Nat) (bh bl' : Nat → Int) (fl : f L = z0) (hl : h L = f 0)
    (cb : ∀ k, k < 384 → ∀ w, Calls Tryd.prog 37 #[N b, .int .i64 (((k + 1 : Nat) : Int) - 1)] w fun e w' => e = .returned (.int .i64 (bh k)) ∧ Below w.heap.size w w')
    (cl : ∀ k, k < 384 → ∀ w, Calls Tryd.prog 37 #[N a, .int .i64 (((k + 1 : Nat) : Int) - 1)] w fun e w' => e = .returned (.int .i64 (bl' k)) ∧ Below w.heap.size w w')
    (cf : ∀ k, k < 384 → ∀ w, Calls Tryd.prog 36 #[N n, N (f (k + 1)), .int .i64 (bh k)] w fun e w' => e = .returned (N (f k)) ∧ Below w.heap.size w w')
    (ch : ∀ k, k < 384 → ∀ w, Calls Tryd.prog 36 #[N n, N (h (k + 1)), .int .i64 (bl' k)] w fun e w' => e = .returned (N (h k)) ∧ Below w.heap.size w w') (w : World) :
    Calls Tryd.prog 10 #[N n, N a, N b] w fun e w' => e = .returned (N (h 0)) ∧ Below w.heap.size w w' := by
  have H0 : Hid (_ ∧ _) := ⟨Mm.nil w, Below.refl w.heap.size w⟩
  have CB : Hid _ := cb
  have CL : Hid _ := cl
  have CF : Hid _ := cf
  have CH : Hid _ := ch
  have FL : Hid (zero6 = cells6 (f L)) := (by rw [fl, hz]; exact cells_zero.symm : zero6 = cells6 (f L))
  have HL : Hid (f 0 = h L) := hl.symm
  clear cb cl cf ch fl hl hz
  go_enter Tryd.func10, Tryd.ntmps10
  refine wp_seq ?_
  refine walk_seq 4 [.made (cells6 n) 24, .made (cells6 a) 24, .made (cells6 b) 24, .made zero6 24] (fun w' => Mm w' []) ?pre1 ?F1 ?hpre1 (fun γ => ?hF1) (by kernel_rfl) ?hL1 ?hS1 ?ho1 ?he1
  case hpre1 =>
    simp only [List.take_succ_cons, List.take_zero]
    exact rfl
  case hF1 =>
    simp only [fill, Kind.val, Act.put, List.setIfInBounds_toArray, List.set_cons_zero, List.set_cons_succ]
    exact rfl
  case hL1 => exact trivial
  case hS1 => exact fun w' hb => H0.out.1.below hb
  case ho1 =>
    refine AllOk.cons ?_ ?_
    · exact fun γ => ⟨rfl, fun w' => ex_box6 rfl rfl⟩
    refine AllOk.cons ?_ ?_
    · exact fun γ => ⟨rfl, fun w' => ex_box6 rfl rfl⟩
    refine AllOk.cons ?_ ?_
    · exact fun γ => ⟨rfl, fun w' => ex_box6 rfl rfl⟩
    refine AllOk.cons ?_ ?_
    · exact fun γ => ⟨rfl, fun w' => exec_made6 rfl⟩
    exact trivial
  intro γ w1 l hM hl
  have M1 : Mm w1 [(γ 0, cells6 n), (γ 1, cells6 a), (γ 2, cells6 b), (γ 3, zero6)] := H0.out.1.grow hM (Nat.le_refl _) hl [0, 1, 2, 3] rfl (by decide)
  have B1 : Below w.heap.size w w1 := H0.out.2.trans (hM.below.mono H0.out.2.size)
  have o1_0 : Hid (w.heap.size ≤ γ 0) := Nat.le_trans H0.out.2.size (hM.fin (Nat.le_refl _) hl (i := 0) rfl).2.1
  have o1_1 : Hid (w.heap.size ≤ γ 1) := Nat.le_trans H0.out.2.size (hM.fin (Nat.le_refl _) hl (i := 1) rfl).2.1
  have o1_2 : Hid (w.heap.size ≤ γ 2) := Nat.le_trans H0.out.2.size (hM.fin (Nat.le_refl _) hl (i := 2) rfl).2.1
  have o1_3 : Hid (w.heap.size ≤ γ 3) := Nat.le_trans H0.out.2.size (hM.fin (Nat.le_refl _) hl (i := 3) rfl).2.1
  clear hM hl l
  generalize γ 0 = γ1_0 at M1 o1_0 ⊢
  generalize γ 1 = γ1_1 at M1 o1_1 ⊢
  generalize γ 2 = γ1_2 at M1 o1_2 ⊢
  generalize γ 3 = γ1_3 at M1 o1_3 ⊢
  clear γ
  have H1 : Hid (_ ∧ _) := ⟨M1, B1⟩
  clear M1 B1
  refine rest_at (l := []) rfl ?_
  refine rest_nil ?_
  refine then_normal ?_
  refine wp_seq ?_
  refine walk_seq 1 [.made zero6 24] (fun w' => Mm w' [(γ1_0, cells6 n), (γ1_1, cells6 a), (γ1_2, cells6 b), (γ1_3, zero6)]) ?pre2 ?F2 ?hpre2 (fun γ => ?hF2) (by kernel_rfl) ?hL2 ?hS2 ?ho2 ?he2
  case hpre2 =>
    simp only [List.take_succ_cons, List.take_zero]
    exact rfl
  case hF2 =>
    simp only [fill, Kind.val, Act.put, List.setIfInBounds_toArray, List.set_cons_zero, List.set_cons_succ]
    exact rfl
  case hL2 => exact trivial
  case hS2 => exact fun w' hb => H1.out.1.below hb
  case ho2 =>
    refine AllOk.cons ?_ ?_
    · exact fun γ => ⟨rfl, fun w' => exec_made6 rfl⟩
    exact trivial
  intro γ w2 l hM hl
  have M2 : Mm w2 [(γ 0, zero6), (γ1_0, cells6 n), (γ1_1, cells6 a), (γ1_2, cells6 b), (γ1_3, zero6)] := H1.out.1.grow hM (Nat.le_refl _) hl [0] rfl (by decide)
  have B2 : Below w.heap.size w w2 := H1.out.2.trans (hM.below.mono H1.out.2.size)
  have o2_0 : Hid (w.heap.size ≤ γ 0) := Nat.le_trans H1.out.2.size (hM.fin (Nat.le_refl _) hl (i := 0) rfl).2.1
  clear hM hl l H1
  generalize γ 0 = γ2_0 at M2 o2_0 ⊢
  clear γ
  have H2 : Hid (_ ∧ _) := ⟨M2, B2⟩
  clear M2 B2
  refine rest_at (l := []) rfl ?_
  refine rest_nil ?_
  refine then_normal ?_
  refine wp_seq ?_
  refine wp_seq ?_
  refine walk_seq 1 [.quiet (.int .i64 383)] (fun w' => Mm w' [(γ2_0, zero6), (γ1_0, cells6 n), (γ1_1, cells6 a), (γ1_2, cells6 b), (γ1_3, zero6)]) ?pre3 ?F3 ?hpre3 (fun γ => ?hF3) (by kernel_rfl) ?hL3 ?hS3 ?ho3 ?he3
  case hpre3 =>
    simp only [List.take_succ_cons, List.take_zero]
    exact rfl
  case hF3 =>
    simp only [fill, Kind.val, Act.put, List.setIfInBounds_toArray, List.set_cons_zero, List.set_cons_succ]
    exact rfl
  case hL3 => exact trivial
  case hS3 => exact fun w' hb => H2.out.1.below hb
  case ho3 =>
    refine AllOk.cons ?_ ?_
    · exact fun γ => ⟨rfl, fun w' _ => rfl⟩
    exact trivial
  intro γ w3 l hM hl
  have M3 : Mm w3 [(γ2_0, zero6), (γ1_0, cells6 n), (γ1_1, cells6 a), (γ1_2, cells6 b), (γ1_3, zero6)] := H2.out.1.grow hM (Nat.le_refl _) hl [] rfl (by decide)
  have B3 : Below w.heap.size w w3 := H2.out.2.trans (hM.below.mono H2.out.2.size)
  clear hM hl l H2
  clear γ
  have H3 : Hid (_ ∧ _) := ⟨M3, B3⟩
  clear M3 B3
  refine rest_at (l := []) rfl ?_
  refine rest_nil ?_
  refine then_normal ?_
  refine wp_block ?_
  refine loop_ghost (α := Nat) (fun k a' w' => ∃ s0 : Nat → Value, a' = ⟨#[N n, N a, N b, PT γ1_0 0, PT γ1_1 0, PT γ1_2 0, PT γ1_3 0, PT γ2_0 0, .int .i64 (((k : Nat) : Int) - 1), undef, s0 10, s0 11, s0 12, s0 13, s0 14, s0 15, s0 16, s0 17, s0 18, s0 19, undef, undef, undef, undef, undef, undef, undef, undef, undef, undef, undef], []⟩ ∧ (Mm w' [(γ2_0, cells6 (f k)), (γ1_0, cells6 n), (γ1_1, cells6 a), (γ1_2, cells6 b), (γ1_3, zero6)] ∧ Below w.heap.size w w') ∧ k ≤ L) (fun k => k) L ?st0 ?rd0
  case st0 => exact ⟨(slotfn [undef, undef, undef, undef, undef, undef, undef, undef, undef, undef, undef, undef, undef, undef, undef, undef, undef, undef, undef, undef]), (by rw [hL]; rfl), ⟨H3.out.1.at0 (by rw [FL.out]), H3.out.2⟩, by omega⟩
  intro k a' w4 hI
  obtain ⟨s0, rfl, hMB, hk0⟩ := hI
  have H4 : Hid (_ ∧ _) := hMB
  clear hMB H3
  by_cases hltk : 1 ≤ k
  · have hrd : True := trivial
    clear hrd
    obtain ⟨j, rfl⟩ : ∃ j, k = j + 1 := ⟨k - 1, by omega⟩
    refine wp_seq ?_
    refine wp_seq ?_
    refine walk_seq 2 [.quiet (.int .i64 (((j + 1 : Nat) : Int) - 1)), .quiet (.bool true)] (fun w' => Mm w' [(γ2_0, cells6 (f (j + 1))), (γ1_0, cells6 n), (γ1_1, cells6 a), (γ1_2, cells6 b), (γ1_3, zero6)]) ?pre4 ?F4 ?hpre4 (fun γ => ?hF4) (by kernel_rfl) ?hL4 ?hS4 ?ho4 ?he4
    case hpre4 =>
      simp only [List.take_succ_cons, List.take_zero]
      exact rfl
    case hF4 =>
      simp only [fill, Kind.val, Act.put, List.setIfInBounds_toArray, List.set_cons_zero, List.set_cons_succ]
      exact rfl
    case hL4 => exact trivial
    case hS4 => exact fun w' hb => H4.out.1.below hb
    case ho4 =>
      refine AllOk.cons ?_ ?_
      · exact fun γ => ⟨rfl, fun w' _ => rfl⟩
      refine AllOk.cons ?_ ?_
      · (refine fun γ => ⟨rfl, fun w' h' => ?_⟩; clear h'; go_simp <;> omega)
      exact trivial
    intro γ w5 l hM hl
    have M5 : Mm w5 [(γ2_0, cells6 (f (j + 1))), (γ1_0, cells6 n), (γ1_1, cells6 a), (γ1_2, cells6 b), (γ1_3, zero6)] := H4.out.1.grow hM (Nat.le_refl _) hl [] rfl (by decide)
    have B5 : Below w.heap.size w w5 := H4.out.2.trans (hM.below.mono H4.out.2.size)
    clear hM hl l H4
    clear γ
    have H5 : Hid (_ ∧ _) := ⟨M5, B5⟩
    clear M5 B5
    refine rest_at (l := []) rfl ?_
    refine rest_nil ?_
    refine then_normal ?_
    refine wp_cond_true rfl ?_
    refine wp_skip ?_
    refine then_normal ?_
    refine wp_seq ?_
    refine wp_block ?_
    refine walk_any (by kernel_rfl) 6 [.quiet (N n), .quiet (N (f (j + 1))), .quiet (N b), .quiet (.int .i64 (((j + 1 : Nat) : Int) - 1)), .call (.int .i64 (bh j)), .call (N (f j))] (fun w' => Mm w' [(γ2_0, cells6 (f (j + 1))), (γ1_0, cells6 n), (γ1_1, cells6 a), (γ1_2, cells6 b), (γ1_3, zero6)]) ?pre5 ?F5 ?hpre5 (fun γ => ?hF5) (by kernel_rfl) ?hL5 ?hS5 ?ho5 ?he5
    case hpre5 =>
      simp only [List.take_succ_cons, List.take_zero]
      exact rfl
    case hF5 =>
      simp only [fill, Kind.val, Act.put, List.setIfInBounds_toArray, List.set_cons_zero, List.set_cons_succ]
      exact rfl
    case hL5 => exact trivial
    case hS5 => exact fun w' hb => H5.out.1.below hb
    case ho5 =>
      refine AllOk.cons ?_ ?_
      · exact fun γ => ⟨rfl, fun w' h' => ex_load6 h' 1 rfl rfl rfl rfl⟩
      refine AllOk.cons ?_ ?_
      · exact fun γ => ⟨rfl, fun w' h' => ex_load6 h' 0 rfl rfl rfl rfl⟩
      refine AllOk.cons ?_ ?_
      · exact fun γ => ⟨rfl, fun w' h' => ex_load6 h' 3 rfl rfl rfl rfl⟩
      refine AllOk.cons ?_ ?_
      · exact fun γ => ⟨rfl, fun w' _ => rfl⟩
      refine AllOk.cons ?_ ?_
      · exact fun γ => ⟨rfl, fun w' h' => ⟨37, #[N b, .int .i64 (((j + 1 : Nat) : Int) - 1)], exec_call rfl call37 rfl (by simp only [List.map_toArray, List.map_cons, List.map_nil]; rfl), CB.out j (by omega) w'⟩⟩
      refine AllOk.cons ?_ ?_
      · exact fun γ => ⟨rfl, fun w' h' => ⟨36, #[N n, N (f (j + 1)), .int .i64 (bh j)], exec_call rfl call36 rfl (by simp only [List.map_toArray, List.map_cons, List.map_nil]; rfl), CF.out j (by omega) w'⟩⟩
      exact trivial
    intro γ w6 l hM hl
    have M6 : Mm w6 [(γ2_0, cells6 (f (j + 1))), (γ1_0, cells6 n), (γ1_1, cells6 a), (γ1_2, cells6 b), (γ1_3, zero6)] := H5.out.1.grow hM (Nat.le_refl _) hl [] rfl (by decide)
    have B6 : Below w.heap.size w w6 := H5.out.2.trans (hM.below.mono H5.out.2.size)
    clear hM hl l H5
    clear γ
    have H6 : Hid (_ ∧ _) := ⟨M6, B6⟩
    clear M6 B6
    refine rest_at (l := [6]) rfl ?_
    refine rest_store rfl rfl rfl (ex_store6 H6.out.1 0 rfl rfl rfl rfl (Nat.le_of_ble_eq_true rfl)) ?_
    have H7 : Hid (Mm (w6.setCells γ2_0 0 (cells6 (f j))) [(γ2_0, cells6 (f j)), (γ1_0, cells6 n), (γ1_1, cells6 a), (γ1_2, cells6 b), (γ1_3, zero6)] ∧ Below w.heap.size w (w6.setCells γ2_0 0 (cells6 (f j)))) := ⟨H6.out.1.put 0 (off := 0) (vs := cells6 (f j)) rfl (Nat.le_of_ble_eq_true rfl), below_setCells _ o2_0.out _ _ _ H6.out.2⟩
    clear H6
    generalize hgw : World.setCells _ _ _ _ = w7 at H7 ⊢
    clear hgw
    refine rest_nil ?_
    refine block_normal ?_
    refine then_normal ?_
    refine walk_seq 2 [.quiet (.int .i64 (((j + 1 : Nat) : Int) - 1)), .quiet (.int .i64 (((j : Nat) : Int) - 1))] (fun w' => Mm w' [(γ2_0, cells6 (f j)), (γ1_0, cells6 n), (γ1_1, cells6 a), (γ1_2, cells6 b), (γ1_3, zero6)]) ?pre6 ?F6 ?hpre6 (fun γ => ?hF6) (by kernel_rfl) ?hL6 ?hS6 ?ho6 ?he6
    case hpre6 =>
      simp only [List.take_succ_cons, List.take_zero]
      exact rfl
    case hF6 =>
      simp only [fill, Kind.val, Act.put, List.setIfInBounds_toArray, List.set_cons_zero, List.set_cons_succ]
      exact rfl
    case hL6 => exact trivial
    case hS6 => exact fun w' hb => H7.out.1.below hb
    case ho6 =>
      refine AllOk.cons ?_ ?_
      · exact fun γ => ⟨rfl, fun w' _ => rfl⟩
      refine AllOk.cons ?_ ?_
      · (refine fun γ => ⟨rfl, fun w' h' => ?_⟩; clear h'; go_simp; rw [IntKind.wrap_i64]; omega)
      exact trivial
    intro γ w8 l hM hl
    have M8 : Mm w8 [(γ2_0, cells6 (f j)), (γ1_0, cells6 n), (γ1_1, cells6 a), (γ1_2, cells6 b), (γ1_3, zero6)] := H7.out.1.grow hM (Nat.le_refl _) hl [] rfl (by decide)
    have B8 : Below w.heap.size w w8 := H7.out.2.trans (hM.below.mono H7.out.2.size)
    clear hM hl l H7
    clear γ
    have H8 : Hid (_ ∧ _) := ⟨M8, B8⟩
    clear M8 B8
    refine rest_at (l := [2]) rfl ?_
    refine rest_set (d := 8) rfl rfl rfl rfl ?_
    simp only [Act.put, List.setIfInBounds_toArray, List.set_cons_zero, List.set_cons_succ]
    refine rest_nil ?_
    refine then_normal ?_
    exact ⟨j, ⟨(slotfn [undef, undef, undef, undef, undef, undef, undef, undef, undef, undef, .int .i64 (((j + 1 : Nat) : Int) - 1), .bool true, .int .i64 (((j + 1 : Nat) : Int) - 1), .int .i64 (((j : Nat) : Int) - 1), N n, N (f (j + 1)), N b, .int .i64 (((j + 1 : Nat) : Int) - 1), .int .i64 (bh j), N (f j)]), rfl, ⟨H8.out.1, H8.out.2⟩, by omega⟩, by omega⟩
  have hk0 : k = 0 := by omega
  subst hk0
  refine wp_seq ?_
  refine wp_seq ?_
  refine walk_seq 2 [.quiet (.int .i64 (((0 : Nat) : Int) - 1)), .quiet (.bool false)] (fun w' => Mm w' [(γ2_0, cells6 (f 0)), (γ1_0, cells6 n), (γ1_1, cells6 a), (γ1_2, cells6 b), (γ1_3, zero6)]) ?pre7 ?F7 ?hpre7 (fun γ => ?hF7) (by kernel_rfl) ?hL7 ?hS7 ?ho7 ?he7
  case hpre7 =>
    simp only [List.take_succ_cons, List.take_zero]
    exact rfl
  case hF7 =>
    simp only [fill, Kind.val, Act.put, List.setIfInBounds_toArray, List.set_cons_zero, List.set_cons_succ]
    exact rfl
  case hL7 => exact trivial
  case hS7 => exact fun w' hb => H4.out.1.below hb
  case ho7 =>
    refine AllOk.cons ?_ ?_
    · exact fun γ => ⟨rfl, fun w' _ => rfl⟩
    refine AllOk.cons ?_ ?_
    · (refine fun γ => ⟨rfl, fun w' h' => ?_⟩; clear h'; go_simp <;> omega)
    exact trivial
  intro γ w9 l hM hl
  have M9 : Mm w9 [(γ2_0, cells6 (f 0)), (γ1_0, cells6 n), (γ1_1, cells6 a), (γ1_2, cells6 b), (γ1_3, zero6)] := H4.out.1.grow hM (Nat.le_refl _) hl [] rfl (by decide)
  have B9 : Below w.heap.size w w9 := H4.out.2.trans (hM.below.mono H4.out.2.size)
  clear hM hl l H4
  clear γ
  have H9 : Hid (_ ∧ _) := ⟨M9, B9⟩
  clear M9 B9
  refine rest_at (l := []) rfl ?_
  refine rest_nil ?_
  refine then_normal ?_
  refine wp_cond_false rfl ?_
  refine wp_exit ?_
  repeat refine then_exit ?_
  refine block_exit ?_
  refine then_normal ?_
  refine wp_seq ?_
  refine wp_seq ?_
  refine walk_seq 1 [.quiet (.int .i64 383)] (fun w' => Mm w' [(γ2_0, cells6 (f 0)), (γ1_0, cells6 n), (γ1_1, cells6 a), (γ1_2, cells6 b), (γ1_3, zero6)]) ?pre8 ?F8 ?hpre8 (fun γ => ?hF8) (by kernel_rfl) ?hL8 ?hS8 ?ho8 ?he8
  case hpre8 =>
    simp only [List.take_succ_cons, List.take_zero]
    exact rfl
  case hF8 =>
    simp only [fill, Kind.val, Act.put, List.setIfInBounds_toArray, List.set_cons_zero, List.set_cons_succ]
    exact rfl
  case hL8 => exact trivial
  case hS8 => exact fun w' hb => H9.out.1.below hb
  case ho8 =>
    refine AllOk.cons ?_ ?_
    · exact fun γ => ⟨rfl, fun w' _ => rfl⟩
    exact trivial
  intro γ w10 l hM hl
  have M10 : Mm w10 [(γ2_0, cells6 (f 0)), (γ1_0, cells6 n), (γ1_1, cells6 a), (γ1_2, cells6 b), (γ1_3, zero6)] := H9.out.1.grow hM (Nat.le_refl _) hl [] rfl (by decide)
  have B10 : Below w.heap.size w w10 := H9.out.2.trans (hM.below.mono H9.out.2.size)
  clear hM hl l H9
  clear γ
  have H10 : Hid (_ ∧ _) := ⟨M10, B10⟩
  clear M10 B10
  refine rest_at (l := []) rfl ?_
  refine rest_nil ?_
  refine then_normal ?_
  refine wp_block ?_
  refine loop_ghost (α := Nat) (fun m a' w' => ∃ s2 : Nat → Value, a' = ⟨#[N n, N a, N b, PT γ1_0 0, PT γ1_1 0, PT γ1_2 0, PT γ1_3 0, PT γ2_0 0, .int .i64 (((0 : Nat) : Int) - 1), .int .i64 (((m : Nat) : Int) - 1), .int .i64 (((0 : Nat) : Int) - 1), .bool false, s0 12, s0 13, s0 14, s0 15, s0 16, s0 17, s0 18, s0 19, s2 20, s2 21, s2 22, s2 23, s2 24, s2 25, s2 26, s2 27, s2 28, s2 29, undef], []⟩ ∧ (Mm w' [(γ2_0, cells6 (h m)), (γ1_0, cells6 n), (γ1_1, cells6 a), (γ1_2, cells6 b), (γ1_3, zero6)] ∧ Below w.heap.size w w') ∧ m ≤ L) (fun m => m) L ?st2 ?rd2
  case st2 => exact ⟨(slotfn [undef, undef, undef, undef, undef, undef, undef, undef, undef, undef, undef, undef, undef, undef, undef, undef, undef, undef, undef, undef, undef, undef, undef, undef, undef, undef, undef, undef, undef, undef]), (by rw [hL]; rfl), ⟨H10.out.1.at0 (by rw [HL.out]), H10.out.2⟩, by omega⟩
  intro m a' w11 hI
  obtain ⟨s2, rfl, hMB, hk2⟩ := hI
  have H11 : Hid (_ ∧ _) := hMB
  clear hMB H10
  by_cases hltm : 1 ≤ m
  · have hrd : True := trivial
    clear hrd
    obtain ⟨j, rfl⟩ : ∃ j, m = j + 1 := ⟨m - 1, by omega⟩
    refine wp_seq ?_
    refine wp_seq ?_
    refine walk_seq 2 [.quiet (.int .i64 (((j + 1 : Nat) : Int) - 1)), .quiet (.bool true)] (fun w' => Mm w' [(γ2_0, cells6 (h (j + 1))), (γ1_0, cells6 n), (γ1_1, cells6 a), (γ1_2, cells6 b), (γ1_3, zero6)]) ?pre9 ?F9 ?hpre9 (fun γ => ?hF9) (by kernel_rfl) ?hL9 ?hS9 ?ho9 ?he9
    case hpre9 =>
      simp only [List.take_succ_cons, List.take_zero]
      exact rfl
    case hF9 =>
      simp only [fill, Kind.val, Act.put, List.setIfInBounds_toArray, List.set_cons_zero, List.set_cons_succ]
      exact rfl
    case hL9 => exact trivial
    case hS9 => exact fun w' hb => H11.out.1.below hb
    case ho9 =>
      refine AllOk.cons ?_ ?_
      · exact fun γ => ⟨rfl, fun w' _ => rfl⟩
      refine AllOk.cons ?_ ?_
      · (refine fun γ => ⟨rfl, fun w' h' => ?_⟩; clear h'; go_simp <;> omega)
      exact trivial
    intro γ w12 l hM hl
    have M12 : Mm w12 [(γ2_0, cells6 (h (j + 1))), (γ1_0, cells6 n), (γ1_1, cells6 a), (γ1_2, cells6 b), (γ1_3, zero6)] := H11.out.1.grow hM (Nat.le_refl _) hl [] rfl (by decide)
    have B12 : Below w.heap.size w w12 := H11.out.2.trans (hM.below.mono H11.out.2.size)
    clear hM hl l H11
    clear γ
    have H12 : Hid (_ ∧ _) := ⟨M12, B12⟩
    clear M12 B12
    refine rest_at (l := []) rfl ?_
    refine rest_nil ?_
    refine then_normal ?_
    refine wp_cond_true rfl ?_
    refine wp_skip ?_
    refine then_normal ?_
    refine wp_seq ?_
    refine wp_block ?_
    refine walk_any (by kernel_rfl) 6 [.quiet (N n), .quiet (N (h (j + 1))), .quiet (N a), .quiet (.int .i64 (((j + 1 : Nat) : Int) - 1)), .call (.int .i64 (bl' j)), .call (N (h j))] (fun w' => Mm w' [(γ2_0, cells6 (h (j + 1))), (γ1_0, cells6 n), (γ1_1, cells6 a), (γ1_2, cells6 b), (γ1_3, zero6)]) ?pre10 ?F10 ?hpre10 (fun γ => ?hF10) (by kernel_rfl) ?hL10 ?hS10 ?ho10 ?he10
    case hpre10 =>
      simp only [List.take_succ_cons, List.take_zero]
      exact rfl
    case hF10 =>
      simp only [fill, Kind.val, Act.put, List.setIfInBounds_toArray, List.set_cons_zero, List.set_cons_succ]
      exact rfl
    case hL10 => exact trivial
    case hS10 => exact fun w' hb => H12.out.1.below hb
    case ho10 =>
      refine AllOk.cons ?_ ?_
      · exact fun γ => ⟨rfl, fun w' h' => ex_load6 h' 1 rfl rfl rfl rfl⟩
      refine AllOk.cons ?_ ?_
      · exact fun γ => ⟨rfl, fun w' h' => ex_load6 h' 0 rfl rfl rfl rfl⟩
      refine AllOk.cons ?_ ?_
      · exact fun γ => ⟨rfl, fun w' h' => ex_load6 h' 2 rfl rfl rfl rfl⟩
      refine AllOk.cons ?_ ?_
      · exact fun γ => ⟨rfl, fun w' _ => rfl⟩
      refine AllOk.cons ?_ ?_
      · exact fun γ => ⟨rfl, fun w' h' => ⟨37, #[N a, .int .i64 (((j + 1 : Nat) : Int) - 1)], exec_call rfl call37 rfl (by simp only [List.map_toArray, List.map_cons, List.map_nil]; rfl), CL.out j (by omega) w'⟩⟩
      refine AllOk.cons ?_ ?_
      · exact fun γ => ⟨rfl, fun w' h' => ⟨36, #[N n, N (h (j + 1)), .int .i64 (bl' j)], exec_call rfl call36 rfl (by simp only [List.map_toArray, List.map_cons, List.map_nil]; rfl), CH.out j (by omega) w'⟩⟩
      exact trivial
    intro γ w13 l hM hl
    have M13 : Mm w13 [(γ2_0, cells6 (h (j + 1))), (γ1_0, cells6 n), (γ1_1, cells6 a), (γ1_2, cells6 b), (γ1_3, zero6)] := H12.out.1.grow hM (Nat.le_refl _) hl [] rfl (by decide)
    have B13 : Below w.heap.size w w13 := H12.out.2.trans (hM.below.mono H12.out.2.size)
    clear hM hl l H12
    clear γ
    have H13 : Hid (_ ∧ _) := ⟨M13, B13⟩
    clear M13 B13
    refine rest_at (l := [6]) rfl ?_
    refine rest_store rfl rfl rfl (ex_store6 H13.out.1 0 rfl rfl rfl rfl (Nat.le_of_ble_eq_true rfl)) ?_
    have H14 : Hid (Mm (w13.setCells γ2_0 0 (cells6 (h j))) [(γ2_0, cells6 (h j)), (γ1_0, cells6 n), (γ1_1, cells6 a), (γ1_2, cells6 b), (γ1_3, zero6)] ∧ Below w.heap.size w (w13.setCells γ2_0 0 (cells6 (h j)))) := ⟨H13.out.1.put 0 (off := 0) (vs := cells6 (h j)) rfl (Nat.le_of_ble_eq_true rfl), below_setCells _ o2_0.out _ _ _ H13.out.2⟩
    clear H13
    generalize hgw : World.setCells _ _ _ _ = w14 at H14 ⊢
    clear hgw
    refine rest_nil ?_
    refine block_normal ?_
    refine then_normal ?_
    refine walk_seq 2 [.quiet (.int .i64 (((j + 1 : Nat) : Int) - 1)), .quiet (.int .i64 (((j : Nat) : Int) - 1))] (fun w' => Mm w' [(γ2_0, cells6 (h j)), (γ1_0, cells6 n), (γ1_1, cells6 a), (γ1_2, cells6 b), (γ1_3, zero6)]) ?pre11 ?F11 ?hpre11 (fun γ => ?hF11) (by kernel_rfl) ?hL11 ?hS11 ?ho11 ?he11
    case hpre11 =>
      simp only [List.take_succ_cons, List.take_zero]
      exact rfl
    case hF11 =>
      simp only [fill, Kind.val, Act.put, List.setIfInBounds_toArray, List.set_cons_zero, List.set_cons_succ]
      exact rfl
    case hL11 => exact trivial
    case hS11 => exact fun w' hb => H14.out.1.below hb
    case ho11 =>
      refine AllOk.cons ?_ ?_
      · exact fun γ => ⟨rfl, fun w' _ => rfl⟩
      refine AllOk.cons ?_ ?_
      · (refine fun γ => ⟨rfl, fun w' h' => ?_⟩; clear h'; go_simp; rw [IntKind.wrap_i64]; omega)
      exact trivial
    intro γ w15 l hM hl
    have M15 : Mm w15 [(γ2_0, cells6 (h j)), (γ1_0, cells6 n), (γ1_1, cells6 a), (γ1_2, cells6 b), (γ1_3, zero6)] := H14.out.1.grow hM (Nat.le_refl _) hl [] rfl (by decide)
    have B15 : Below w.heap.size w w15 := H14.out.2.trans (hM.below.mono H14.out.2.size)
    clear hM hl l H14
    clear γ
    have H15 : Hid (_ ∧ _) := ⟨M15, B15⟩
    clear M15 B15
    refine rest_at (l := [2]) rfl ?_
    refine rest_set (d := 9) rfl rfl rfl rfl ?_
    simp only [Act.put, List.setIfInBounds_toArray, List.set_cons_zero, List.set_cons_succ]
    refine rest_nil ?_
    refine then_normal ?_
    exact ⟨j, ⟨(slotfn [undef, undef, undef, undef, undef, undef, undef, undef, undef, undef, undef, undef, undef, undef, undef, undef, undef, undef, undef, undef, .int .i64 (((j + 1 : Nat) : Int) - 1), .bool true, .int .i64 (((j + 1 : Nat) : Int) - 1), .int .i64 (((j : Nat) : Int) - 1), N n, N (h (j + 1)), N a, .int .i64 (((j + 1 : Nat) : Int) - 1), .int .i64 (bl' j), N (h j)]), rfl, ⟨H15.out.1, H15.out.2⟩, by omega⟩, by omega⟩
  have hm0 : m = 0 := by omega
  subst hm0
  refine wp_seq ?_
  refine wp_seq ?_
  refine walk_seq 2 [.quiet (.int .i64 (((0 : Nat) : Int) - 1)), .quiet (.bool false)] (fun w' => Mm w' [(γ2_0, cells6 (h 0)), (γ1_0, cells6 n), (γ1_1, cells6 a), (γ1_2, cells6 b), (γ1_3, zero6)]) ?pre12 ?F12 ?hpre12 (fun γ => ?hF12) (by kernel_rfl) ?hL12 ?hS12 ?ho12 ?he12
  case hpre12 =>
    simp only [List.take_succ_cons, List.take_zero]
    exact rfl
  case hF12 =>
    simp only [fill, Kind.val, Act.put, List.setIfInBounds_toArray, List.set_cons_zero, List.set_cons_succ]
    exact rfl
  case hL12 => exact trivial
  case hS12 => exact fun w' hb => H11.out.1.below hb
  case ho12 =>
    refine AllOk.cons ?_ ?_
    · exact fun γ => ⟨rfl, fun w' _ => rfl⟩
    refine AllOk.cons ?_ ?_
    · (refine fun γ => ⟨rfl, fun w' h' => ?_⟩; clear h'; go_simp <;> omega)
    exact trivial
  intro γ w16 l hM hl
  have M16 : Mm w16 [(γ2_0, cells6 (h 0)), (γ1_0, cells6 n), (γ1_1, cells6 a), (γ1_2, cells6 b), (γ1_3, zero6)] := H11.out.1.grow hM (Nat.le_refl _) hl [] rfl (by decide)
  have B16 : Below w.heap.size w w16 := H11.out.2.trans (hM.below.mono H11.out.2.size)
  clear hM hl l H11
  clear γ
  have H16 : Hid (_ ∧ _) := ⟨M16, B16⟩
  clear M16 B16
  refine rest_at (l := []) rfl ?_
  refine rest_nil ?_
  refine then_normal ?_
  refine wp_cond_false rfl ?_
  refine wp_exit ?_
  repeat refine then_exit ?_
  refine block_exit ?_
  refine then_normal ?_
  refine wp_seq ?_
  refine walk_seq 1 [.quiet (N (h 0))] (fun w' => Mm w' [(γ2_0, cells6 (h 0)), (γ1_0, cells6 n), (γ1_1, cells6 a), (γ1_2, cells6 b), (γ1_3, zero6)]) ?pre13 ?F13 ?hpre13 (fun γ => ?hF13) (by kernel_rfl) ?hL13 ?hS13 ?ho13 ?he13
  case hpre13 =>
    simp only [List.take_succ_cons, List.take_zero]
    exact rfl
  case hF13 =>
    simp only [fill, Kind.val, Act.put, List.setIfInBounds_toArray, List.set_cons_zero, List.set_cons_succ]
    exact rfl
  case hL13 => exact trivial
  case hS13 => exact fun w' hb => H16.out.1.below hb
  case ho13 =>
    refine AllOk.cons ?_ ?_
    · exact fun γ => ⟨rfl, fun w' h' => ex_load6 h' 0 rfl rfl rfl rfl⟩
    exact trivial
  intro γ w17 l hM hl
  have M17 : Mm w17 [(γ2_0, cells6 (h 0)), (γ1_0, cells6 n), (γ1_1, cells6 a), (γ1_2, cells6 b), (γ1_3, zero6)] := H16.out.1.grow hM (Nat.le_refl _) hl [] rfl (by decide)
  have B17 : Below w.heap.size w w17 := H16.out.2.trans (hM.below.mono H16.out.2.size)
  clear hM hl l H16
  clear γ
  have H17 : Hid (_ ∧ _) := ⟨M17, B17⟩
  clear M17 B17
  refine rest_at (l := [1]) rfl ?_
  refine rest_store rfl rfl rfl (ex_store6 H17.out.1 4 rfl rfl rfl rfl (Nat.le_of_ble_eq_true rfl)) ?_
  have H18 : Hid (Mm (w17.setCells γ1_3 0 (cells6 (h 0))) [(γ2_0, cells6 (h 0)), (γ1_0, cells6 n), (γ1_1, cells6 a), (γ1_2, cells6 b), (γ1_3, cells6 (h 0))] ∧ Below w.heap.size w (w17.setCells γ1_3 0 (cells6 (h 0)))) := ⟨H17.out.1.put 4 (off := 0) (vs := cells6 (h 0)) rfl (Nat.le_of_ble_eq_true rfl), below_setCells _ o1_3.out _ _ _ H17.out.2⟩
  clear H17
  generalize hgw : World.setCells _ _ _ _ = w18 at H18 ⊢
  clear hgw
  refine rest_nil ?_
  refine then_normal ?_
  refine wp_ret ?_
  repeat (first | refine then_ret ?_ | refine block_ret ?_)
  have c0 := H18.out.1.get 4 rfl 0 rfl
  have c1 := H18.out.1.get 4 rfl 1 rfl
  have c2 := H18.out.1.get 4 rfl 2 rfl
  have c3 := H18.out.1.get 4 rfl 3 rfl
  have c4 := H18.out.1.get 4 rfl 4 rfl
  have c5 := H18.out.1.get 4 rfl 5 rfl
  refine bodyPost_ret (v := N (h 0)) (by simp [results, Tryd.results10, go_sem, *]) rfl ?_
  exact ⟨rfl, H18.out.2⟩
theorem rwide_any {n a b : Nat} (ok : Ok n) (ha : a < big) (hb : b < big) (w : World) :
    Calls Tryd.prog 10 #[N n, N a, N b] w fun e w' => e = .returned (N ((a + b * big) % n)) ∧ Below w.heap.size w w' := by
  have hp := ok.pos
  have h := rwide_gen n a b 0 384 rfl rfl (fun k => b / 2 ^ k % n) (fun k => (a + b * big) / 2 ^ k % n) (fun k => bitv b k) (fun k => bitv a k) ?_ ?_ ?_ ?_ ?_ ?_ w
  · rw [Nat.pow_zero, Nat.div_one] at h
    exact h
  · obtain ⟨m, hm, e⟩ := big_pow
    obtain ⟨l, hl⟩ : ∃ l, l = 384 := ⟨_, rfl⟩
    rw [← hl]
    have : b / 2 ^ l = 0 := Nat.div_eq_of_lt (by rw [show l = 64 * m by omega, ← e]; exact hb)
    simp only [this, Nat.zero_mod]
  · obtain ⟨m, hm, e⟩ := big_pow
    obtain ⟨l, hl⟩ : ∃ l, l = 384 := ⟨_, rfl⟩
    rw [← hl]
    have e2 : 2 ^ l = big := by rw [show l = 64 * m by omega, ← e]
    simp only [e2, Nat.pow_zero, Nat.div_one, Nat.add_mul_div_right _ _ big_pos, Nat.div_eq_of_lt ha, Nat.zero_add]
  · intro k hk w
    have h := bit_ref_in b k hk w
    rw [show (((k + 1 : Nat) : Int) - 1) = ((k : Nat) : Int) by omega]
    exact h
  · intro k hk w
    have h := bit_ref_in a k hk w
    rw [show (((k + 1 : Nat) : Int) - 1) = ((k : Nat) : Int) by omega]
    exact h
  · intro k hk w
    have h := twice_any n (b / 2 ^ (k + 1) % n) (b / 2 ^ k % 2) ok (Nat.mod_lt _ hp) (by omega) w
    have e := half_step b k
    have e2 : (2 * (b / 2 ^ (k + 1) % n) + b / 2 ^ k % 2) % n = b / 2 ^ k % n := by
      conv => rhs; rw [e]
      exact ((Cg.mod n (b / 2 ^ (k + 1))).mulL 2).addR _
    rw [e2] at h
    exact h
  · intro k hk w
    have h := twice_any n ((a + b * big) / 2 ^ (k + 1) % n) ((a + b * big) / 2 ^ k % 2) ok (Nat.mod_lt _ hp) (by omega) w
    have e := half_step (a + b * big) k
    have e2 : (2 * ((a + b * big) / 2 ^ (k + 1) % n) + (a + b * big) / 2 ^ k % 2) % n = (a + b * big) / 2 ^ k % n := by
      conv => rhs; rw [e]
      exact ((Cg.mod n ((a + b * big) / 2 ^ (k + 1))).mulL 2).addR _
    have e3 : (a + b * big) / 2 ^ k % 2 = a / 2 ^ k % 2 := by
      obtain ⟨m, hm, eb⟩ := big_pow
      have e4 : big = 2 ^ k * (2 * 2 ^ (64 * m - k - 1)) := by
        rw [eb, ← Nat.pow_succ', ← Nat.pow_add]
        congr 1
        omega
      rw [e4, Nat.mul_left_comm, Nat.add_mul_div_left _ _ (Nat.two_pow_pos k), Nat.mul_left_comm, Nat.add_mul_mod_self_left]
    rw [e2, e3] at h
    exact h
end Rg
end Go.Proofs.YtfmjfgkgoenhnaaDoor
end
section
namespace Go.Proofs.YtfmjfgkgoenhnaaDoor
open Go.RowKit
namespace Rg
theorem call14 : ∀ args w, (callFunc 14 args).run Tryd.prog w = .ok (.enter 14 args) w := by intro args w; go_simp
theorem call18 : ∀ args w, (callFunc 18 args).run Tryd.prog w = .ok (.enter 18 args) w := by intro args w; go_simp
theorem call27 : ∀ args w, (callFunc 27 args).run Tryd.prog w = .ok (.enter 27 args) w := by intro args w; go_simp
theorem ex_build1' {ρ : Operand → Value} {o : Oper} {w : World} {c : Nat} (hc : c = 1) (ho : o.op = .build 24 #[(0, .const (.int .u64 1))]) (hx : ρ (.const (.int .u64 1)) = .int .u64 1) : (execOp ρ o).run Tryd.prog w = .ok (.value (N c)) w := by
  subst hc
  have h1 : wd 1 1 = 0 := wd_small 1 0 (by decide)
  have h2 : wd 1 2 = 0 := wd_small 1 1 (by decide)
  have h3 : wd 1 3 = 0 := wd_small 1 2 (by decide)
  have h4 : wd 1 4 = 0 := wd_small 1 3 (by decide)
  have h5 : wd 1 5 = 0 := wd_small 1 4 (by decide)
  have h0 : wd 1 0 = 1 := wd_small0 1 (by decide)
  unfold N
  rw [h0, h1, h2, h3, h4, h5]
  simp only [execOp, ho]
  clear h0 h1 h2 h3 h4 h5
  go_simp
set_option maxHeartbeats 1000000 in
set_option maxRecDepth 100000 in
theorem rpow_gen (n a e k1 o l : Nat) (hk1 : k1 = 1) (hl : l ≤ 384) (f q : Nat → Nat) (bv : Nat → Int) (fl : f l = o) (hbv : ∀ k, bv k = 1 ∨ bv k = 0) (fq : ∀ k, bv k = 0 → q k = f k)
    (co : ∀ w, Calls Tryd.prog 8 #[N n, N k1] w fun e w' => e = .returned (N o) ∧ Below w.heap.size w w')
    (cl : ∀ w, Calls Tryd.prog 27 #[N e] w fun e w' => e = .returned (.int .i64 ((l : Nat) : Int)) ∧ Below w.heap.size w w')
    (cs : ∀ k w, Calls Tryd.prog 18 #[N n, N (f (k + 1)), N (f (k + 1))] w fun e w' => e = .returned (N (q k)) ∧ Below w.heap.size w w')
    (ci : ∀ k w, k + 1 ≤ 384 → Calls Tryd.prog 37 #[N e, .int .i64 (((k + 1 : Nat) : Int) - 1)] w fun e w' => e = .returned (.int .i64 (bv k)) ∧ Below w.heap.size w w')
    (cu : ∀ k, bv k = 1 → ∀ w, Calls Tryd.prog 18 #[N n, N (q k), N a] w fun e w' => e = .returned (N (f k)) ∧ Below w.heap.size w w') (w : World) :
    Calls Tryd.prog 22 #[N n, N a, N e] w fun e w' => e = .returned (N (f 0)) ∧ Below w.heap.size w w' := by
  have H0 : Hid (_ ∧ _) := ⟨Mm.nil w, Below.refl w.heap.size w⟩
  have CO : Hid _ := co
  have CL : Hid _ := cl
  have CS : Hid _ := cs
  have CI : Hid _ := ci
  have CM : Hid _ := cu
  have FL : Hid _ := fl
  have HB : Hid _ := hbv
  have FQ : Hid _ := fq
  have HK : Hid _ := hk1
  clear co cl cs ci cu fl hbv fq hk1
  go_enter Tryd.func22, Tryd.ntmps22
  refine wp_seq ?_
  refine walk_seq 4 [.made (cells6 n) 24, .made (cells6 a) 24, .made (cells6 e) 24, .made zero6 24] (fun w' => Mm w' []) ?pre1 ?F1 ?hpre1 (fun γ => ?hF1) (by kernel_rfl) ?hL1 ?hS1 ?ho1 ?he1
  case hpre1 =>
    simp only [List.take_succ_cons, List.take_zero]
    exact rfl
  case hF1 =>
    simp only [fill, Kind.val, Act.put, List.setIfInBounds_toArray, List.set_cons_zero, List.set_cons_succ]
    exact rfl
  case hL1 => exact trivial
  case hS1 => exact fun w' hb => H0.out.1.below hb
  case ho1 =>
    refine AllOk.cons ?_ ?_
    · exact fun γ => ⟨rfl, fun w' => ex_box6 rfl rfl⟩
    refine AllOk.cons ?_ ?_
    · exact fun γ => ⟨rfl, fun w' => ex_box6 rfl rfl⟩
    refine AllOk.cons ?_ ?_
    · exact fun γ => ⟨rfl, fun w' => ex_box6 rfl rfl⟩
    refine AllOk.cons ?_ ?_
    · exact fun γ => ⟨rfl, fun w' => exec_made6 rfl⟩
    exact trivial
  intro γ w1 l hM hl
  have M1 : Mm w1 [(γ 0, cells6 n), (γ 1, cells6 a), (γ 2, cells6 e), (γ 3, zero6)] := H0.out.1.grow hM (Nat.le_refl _) hl [0, 1, 2, 3] rfl (by decide)
  have B1 : Below w.heap.size w w1 := H0.out.2.trans (hM.below.mono H0.out.2.size)
  have o1_0 : Hid (w.heap.size ≤ γ 0) := Nat.le_trans H0.out.2.size (hM.fin (Nat.le_refl _) hl (i := 0) rfl).2.1
  have o1_1 : Hid (w.heap.size ≤ γ 1) := Nat.le_trans H0.out.2.size (hM.fin (Nat.le_refl _) hl (i := 1) rfl).2.1
  have o1_2 : Hid (w.heap.size ≤ γ 2) := Nat.le_trans H0.out.2.size (hM.fin (Nat.le_refl _) hl (i := 2) rfl).2.1
  have o1_3 : Hid (w.heap.size ≤ γ 3) := Nat.le_trans H0.out.2.size (hM.fin (Nat.le_refl _) hl (i := 3) rfl).2.1
  clear hM hl l
  generalize γ 0 = γ1_0 at M1 o1_0 ⊢
  generalize γ 1 = γ1_1 at M1 o1_1 ⊢
  generalize γ 2 = γ1_2 at M1 o1_2 ⊢
  generalize γ 3 = γ1_3 at M1 o1_3 ⊢
  clear γ
  have H1 : Hid (_ ∧ _) := ⟨M1, B1⟩
  clear M1 B1
  refine rest_at (l := []) rfl ?_
  refine rest_nil ?_
  refine then_normal ?_
  refine wp_seq ?_
  refine walk_seq 5 [.quiet (N n), .quiet (N k1), .call (N o), .made zero6 24, .laid 3 zero6 (cells6 o)] (fun w' => Mm w' [(γ1_0, cells6 n), (γ1_1, cells6 a), (γ1_2, cells6 e), (γ1_3, zero6)]) ?pre2 ?F2 ?hpre2 (fun γ => ?hF2) (by kernel_rfl) ?hL2 ?hS2 ?ho2 ?he2
  case hpre2 =>
    simp only [List.take_succ_cons, List.take_zero]
    exact rfl
  case hF2 =>
    simp only [fill, Kind.val, Act.put, List.setIfInBounds_toArray, List.set_cons_zero, List.set_cons_succ]
    exact rfl
  case hL2 => exact ⟨⟨_, rfl⟩, trivial⟩
  case hS2 => exact fun w' hb => H1.out.1.below hb
  case ho2 =>
    refine AllOk.cons ?_ ?_
    · exact fun γ => ⟨rfl, fun w' h => ex_load6 h 0 rfl rfl rfl rfl⟩
    refine AllOk.cons ?_ ?_
    · exact fun γ => ⟨rfl, fun w' _ => ex_build1' HK.out rfl rfl⟩
    refine AllOk.cons ?_ ?_
    · exact fun γ => ⟨rfl, fun w' h => ⟨8, #[N n, N k1], exec_call rfl call8 rfl (by simp only [List.map_toArray, List.map_cons, List.map_nil]; rfl), CO.out w'⟩⟩
    refine AllOk.cons ?_ ?_
    · exact fun γ => ⟨rfl, fun w' => exec_made6 rfl⟩
    refine AllOk.cons ?_ ?_
    · exact fun γ => ⟨rfl, rfl, rfl, fun w' h => exec_laid6 h rfl rfl rfl⟩
    exact trivial
  intro γ w2 l hM hl
  have M2 : Mm w2 [(γ 3, cells6 o), (γ1_0, cells6 n), (γ1_1, cells6 a), (γ1_2, cells6 e), (γ1_3, zero6)] := H1.out.1.grow hM (Nat.le_refl _) hl [3] rfl (by decide)
  have B2 : Below w.heap.size w w2 := H1.out.2.trans (hM.below.mono H1.out.2.size)
  have o2_3 : Hid (w.heap.size ≤ γ 3) := Nat.le_trans H1.out.2.size (hM.fin (Nat.le_refl _) hl (i := 3) rfl).2.1
  clear hM hl l H1
  generalize γ 3 = γ2_3 at M2 o2_3 ⊢
  clear γ
  have H2 : Hid (_ ∧ _) := ⟨M2, B2⟩
  clear M2 B2
  refine rest_at (l := []) rfl ?_
  refine rest_nil ?_
  refine then_normal ?_
  refine wp_seq ?_
  refine wp_seq ?_
  refine walk_seq 4 [.quiet (N e), .call (.int .i64 ((l : Nat) : Int)), .quiet (.int .i64 (((l : Nat) : Int) - 1)), .quiet (.int .i64 (((l : Nat) : Int) - 1))] (fun w' => Mm w' [(γ2_3, cells6 o), (γ1_0, cells6 n), (γ1_1, cells6 a), (γ1_2, cells6 e), (γ1_3, zero6)]) ?pre3 ?F3 ?hpre3 (fun γ => ?hF3) (by kernel_rfl) ?hL3 ?hS3 ?ho3 ?he3
  case hpre3 =>
    simp only [List.take_succ_cons, List.take_zero]
    exact rfl
  case hF3 =>
    simp only [fill, Kind.val, Act.put, List.setIfInBounds_toArray, List.set_cons_zero, List.set_cons_succ]
    exact rfl
  case hL3 => exact trivial
  case hS3 => exact fun w' hb => H2.out.1.below hb
  case ho3 =>
    refine AllOk.cons ?_ ?_
    · exact fun γ => ⟨rfl, fun w' h => ex_load6 h 3 rfl rfl rfl rfl⟩
    refine AllOk.cons ?_ ?_
    · exact fun γ => ⟨rfl, fun w' h => ⟨27, #[N e], exec_call rfl call27 rfl (by simp only [List.map_toArray, List.map_cons, List.map_nil]; rfl), CL.out w'⟩⟩
    refine AllOk.cons ?_ ?_
    · (refine fun γ => ⟨rfl, fun w' h => ?_⟩; clear h; go_simp; rw [IntKind.wrap_i64]; omega)
    refine AllOk.cons ?_ ?_
    · exact fun γ => ⟨rfl, fun w' _ => rfl⟩
    exact trivial
  intro γ w3 l hM hl
  have M3 : Mm w3 [(γ2_3, cells6 o), (γ1_0, cells6 n), (γ1_1, cells6 a), (γ1_2, cells6 e), (γ1_3, zero6)] := H2.out.1.grow hM (Nat.le_refl _) hl [] rfl (by decide)
  have B3 : Below w.heap.size w w3 := H2.out.2.trans (hM.below.mono H2.out.2.size)
  clear hM hl l H2
  clear γ
  have H3 : Hid (_ ∧ _) := ⟨M3, B3⟩
  clear M3 B3
  refine rest_at (l := []) rfl ?_
  refine rest_nil ?_
  refine then_normal ?_
  refine wp_block ?_
  refine loop_ghost (α := Nat) (fun k a' w' => ∃ s0 : Nat → Value, a' = ⟨#[N n, N a, N e, PT γ1_0 0, PT γ1_1 0, PT γ1_2 0, PT γ1_3 0, PT γ2_3 0, .int .i64 (((k : Nat) : Int) - 1), N n, N k1, N o, N e, .int .i64 ((l : Nat) : Int), .int .i64 (((l : Nat) : Int) - 1), s0 15, s0 16, s0 17, s0 18, s0 19, s0 20, s0 21, s0 22, s0 23, s0 24, s0 25, s0 26, s0 27, s0 28, s0 29, s0 30, undef], []⟩ ∧ (Mm w' [(γ2_3, cells6 (f k)), (γ1_0, cells6 n), (γ1_1, cells6 a), (γ1_2, cells6 e), (γ1_3, zero6)] ∧ Below w.heap.size w w') ∧ k ≤ l) (fun k => k) l ?st0 ?rd0
  case st0 => exact ⟨(slotfn [undef, undef, undef, undef, undef, undef, undef, undef, undef, undef, undef, undef, undef, undef, undef, undef, undef, undef, undef, undef, undef, undef, undef, undef, undef, undef, undef, undef, undef, undef, undef]), rfl, ⟨H3.out.1.at0 (by rw [FL.out]), H3.out.2⟩, by omega⟩
  intro k a' w4 hI
  obtain ⟨s0, rfl, hMB, hk0⟩ := hI
  have H4 : Hid (_ ∧ _) := hMB
  clear hMB H3
  by_cases hlt : 1 ≤ k
  · have hrd : True := trivial
    clear hrd
    obtain ⟨j, rfl⟩ : ∃ j, k = j + 1 := ⟨k - 1, by omega⟩
    by_cases hb : bv j = 1
    · have hrd : True := trivial
      clear hrd
      have hb' : bv j = 1 := hb
      refine wp_seq ?_
      refine wp_seq ?_
      refine walk_seq 2 [.quiet (.int .i64 (((j + 1 : Nat) : Int) - 1)), .quiet (.bool true)] (fun w' => Mm w' [(γ2_3, cells6 (f (j + 1))), (γ1_0, cells6 n), (γ1_1, cells6 a), (γ1_2, cells6 e), (γ1_3, zero6)]) ?pre4 ?F4 ?hpre4 (fun γ => ?hF4) (by kernel_rfl) ?hL4 ?hS4 ?ho4 ?he4
      case hpre4 =>
        simp only [List.take_succ_cons, List.take_zero]
        exact rfl
      case hF4 =>
        simp only [fill, Kind.val, Act.put, List.setIfInBounds_toArray, List.set_cons_zero, List.set_cons_succ]
        exact rfl
      case hL4 => exact trivial
      case hS4 => exact fun w' hb => H4.out.1.below hb
      case ho4 =>
        refine AllOk.cons ?_ ?_
        · exact fun γ => ⟨rfl, fun w' _ => rfl⟩
        refine AllOk.cons ?_ ?_
        · (refine fun γ => ⟨rfl, fun w' h => ?_⟩; clear h; go_simp <;> omega)
        exact trivial
      intro γ w5 l hM hl
      have M5 : Mm w5 [(γ2_3, cells6 (f (j + 1))), (γ1_0, cells6 n), (γ1_1, cells6 a), (γ1_2, cells6 e), (γ1_3, zero6)] := H4.out.1.grow hM (Nat.le_refl _) hl [] rfl (by decide)
      have B5 : Below w.heap.size w w5 := H4.out.2.trans (hM.below.mono H4.out.2.size)
      clear hM hl l H4
      clear γ
      have H5 : Hid (_ ∧ _) := ⟨M5, B5⟩
      clear M5 B5
      refine rest_at (l := []) rfl ?_
      refine rest_nil ?_
      refine then_normal ?_
      refine wp_cond_true rfl ?_
      refine wp_skip ?_
      refine then_normal ?_
      refine wp_seq ?_
      refine wp_block ?_
      refine wp_seq ?_
      refine walk_seq 4 [.quiet (N n), .quiet (N (f (j + 1))), .quiet (N (f (j + 1))), .call (N (q j))] (fun w' => Mm w' [(γ2_3, cells6 (f (j + 1))), (γ1_0, cells6 n), (γ1_1, cells6 a), (γ1_2, cells6 e), (γ1_3, zero6)]) ?pre5 ?F5 ?hpre5 (fun γ => ?hF5) (by kernel_rfl) ?hL5 ?hS5 ?ho5 ?he5
      case hpre5 =>
        simp only [List.take_succ_cons, List.take_zero]
        exact rfl
      case hF5 =>
        simp only [fill, Kind.val, Act.put, List.setIfInBounds_toArray, List.set_cons_zero, List.set_cons_succ]
        exact rfl
      case hL5 => exact trivial
      case hS5 => exact fun w' hb => H5.out.1.below hb
      case ho5 =>
        refine AllOk.cons ?_ ?_
        · exact fun γ => ⟨rfl, fun w' h => ex_load6 h 1 rfl rfl rfl rfl⟩
        refine AllOk.cons ?_ ?_
        · exact fun γ => ⟨rfl, fun w' h => ex_load6 h 0 rfl rfl rfl rfl⟩
        refine AllOk.cons ?_ ?_
        · exact fun γ => ⟨rfl, fun w' h => ex_load6 h 0 rfl rfl rfl rfl⟩
        refine AllOk.cons ?_ ?_
        · exact fun γ => ⟨rfl, fun w' h => ⟨18, #[N n, N (f (j + 1)), N (f (j + 1))], exec_call rfl call18 rfl (by simp only [List.map_toArray, List.map_cons, List.map_nil]; rfl), CS.out j w'⟩⟩
        exact trivial
      intro γ w6 l hM hl
      have M6 : Mm w6 [(γ2_3, cells6 (f (j + 1))), (γ1_0, cells6 n), (γ1_1, cells6 a), (γ1_2, cells6 e), (γ1_3, zero6)] := H5.out.1.grow hM (Nat.le_refl _) hl [] rfl (by decide)
      have B6 : Below w.heap.size w w6 := H5.out.2.trans (hM.below.mono H5.out.2.size)
      clear hM hl l H5
      clear γ
      have H6 : Hid (_ ∧ _) := ⟨M6, B6⟩
      clear M6 B6
      refine rest_at (l := [4]) rfl ?_
      refine rest_store rfl rfl rfl (ex_store6 H6.out.1 0 rfl rfl rfl rfl (Nat.le_of_ble_eq_true rfl)) ?_
      have H7 : Hid (Mm (w6.setCells γ2_3 0 (cells6 (q j))) [(γ2_3, cells6 (q j)), (γ1_0, cells6 n), (γ1_1, cells6 a), (γ1_2, cells6 e), (γ1_3, zero6)] ∧ Below w.heap.size w (w6.setCells γ2_3 0 (cells6 (q j)))) := ⟨H6.out.1.put 0 (off := 0) (vs := cells6 (q j)) rfl (Nat.le_of_ble_eq_true rfl), below_setCells _ o2_3.out _ _ _ H6.out.2⟩
      clear H6
      generalize hgw : World.setCells _ _ _ _ = w7 at H7 ⊢
      clear hgw
      refine rest_nil ?_
      refine then_normal ?_
      refine wp_seq ?_
      refine walk_seq 4 [.quiet (N e), .quiet (.int .i64 (((j + 1 : Nat) : Int) - 1)), .call (.int .i64 (bv j)), .quiet (.bool true)] (fun w' => Mm w' [(γ2_3, cells6 (q j)), (γ1_0, cells6 n), (γ1_1, cells6 a), (γ1_2, cells6 e), (γ1_3, zero6)]) ?pre6 ?F6 ?hpre6 (fun γ => ?hF6) (by kernel_rfl) ?hL6 ?hS6 ?ho6 ?he6
      case hpre6 =>
        simp only [List.take_succ_cons, List.take_zero]
        exact rfl
      case hF6 =>
        simp only [fill, Kind.val, Act.put, List.setIfInBounds_toArray, List.set_cons_zero, List.set_cons_succ]
        exact rfl
      case hL6 => exact trivial
      case hS6 => exact fun w' hb => H7.out.1.below hb
      case ho6 =>
        refine AllOk.cons ?_ ?_
        · exact fun γ => ⟨rfl, fun w' h => ex_load6 h 3 rfl rfl rfl rfl⟩
        refine AllOk.cons ?_ ?_
        · exact fun γ => ⟨rfl, fun w' _ => rfl⟩
        refine AllOk.cons ?_ ?_
        · exact fun γ => ⟨rfl, fun w' h => ⟨37, #[N e, .int .i64 (((j + 1 : Nat) : Int) - 1)], exec_call rfl call37 rfl (by simp only [List.map_toArray, List.map_cons, List.map_nil]; rfl), CI.out j w' (by omega)⟩⟩
        refine AllOk.cons ?_ ?_
        · (refine fun γ => ⟨rfl, fun w' h => ?_⟩; clear h; go_simp <;> omega)
        exact trivial
      intro γ w8 l hM hl
      have M8 : Mm w8 [(γ2_3, cells6 (q j)), (γ1_0, cells6 n), (γ1_1, cells6 a), (γ1_2, cells6 e), (γ1_3, zero6)] := H7.out.1.grow hM (Nat.le_refl _) hl [] rfl (by decide)
      have B8 : Below w.heap.size w w8 := H7.out.2.trans (hM.below.mono H7.out.2.size)
      clear hM hl l H7
      clear γ
      have H8 : Hid (_ ∧ _) := ⟨M8, B8⟩
      clear M8 B8
      refine rest_at (l := []) rfl ?_
      refine rest_nil ?_
      refine then_normal ?_
      refine wp_cond_true rfl ?_
      refine walk_seq 4 [.quiet (N n), .quiet (N (q j)), .quiet (N a), .call (N (f j))] (fun w' => Mm w' [(γ2_3, cells6 (q j)), (γ1_0, cells6 n), (γ1_1, cells6 a), (γ1_2, cells6 e), (γ1_3, zero6)]) ?pre7 ?F7 ?hpre7 (fun γ => ?hF7) (by kernel_rfl) ?hL7 ?hS7 ?ho7 ?he7
      case hpre7 =>
        simp only [List.take_succ_cons, List.take_zero]
        exact rfl
      case hF7 =>
        simp only [fill, Kind.val, Act.put, List.setIfInBounds_toArray, List.set_cons_zero, List.set_cons_succ]
        exact rfl
      case hL7 => exact trivial
      case hS7 => exact fun w' hb => H8.out.1.below hb
      case ho7 =>
        refine AllOk.cons ?_ ?_
        · exact fun γ => ⟨rfl, fun w' h => ex_load6 h 1 rfl rfl rfl rfl⟩
        refine AllOk.cons ?_ ?_
        · exact fun γ => ⟨rfl, fun w' h => ex_load6 h 0 rfl rfl rfl rfl⟩
        refine AllOk.cons ?_ ?_
        · exact fun γ => ⟨rfl, fun w' h => ex_load6 h 2 rfl rfl rfl rfl⟩
        refine AllOk.cons ?_ ?_
        · exact fun γ => ⟨rfl, fun w' h => ⟨18, #[N n, N (q j), N a], exec_call rfl call18 rfl (by simp only [List.map_toArray, List.map_cons, List.map_nil]; rfl), CM.out j hb' w'⟩⟩
        exact trivial
      intro γ w9 l hM hl
      have M9 : Mm w9 [(γ2_3, cells6 (q j)), (γ1_0, cells6 n), (γ1_1, cells6 a), (γ1_2, cells6 e), (γ1_3, zero6)] := H8.out.1.grow hM (Nat.le_refl _) hl [] rfl (by decide)
      have B9 : Below w.heap.size w w9 := H8.out.2.trans (hM.below.mono H8.out.2.size)
      clear hM hl l H8
      clear γ
      have H9 : Hid (_ ∧ _) := ⟨M9, B9⟩
      clear M9 B9
      refine rest_at (l := [4]) rfl ?_
      refine rest_store rfl rfl rfl (ex_store6 H9.out.1 0 rfl rfl rfl rfl (Nat.le_of_ble_eq_true rfl)) ?_
      have H10 : Hid (Mm (w9.setCells γ2_3 0 (cells6 (f j))) [(γ2_3, cells6 (f j)), (γ1_0, cells6 n), (γ1_1, cells6 a), (γ1_2, cells6 e), (γ1_3, zero6)] ∧ Below w.heap.size w (w9.setCells γ2_3 0 (cells6 (f j)))) := ⟨H9.out.1.put 0 (off := 0) (vs := cells6 (f j)) rfl (Nat.le_of_ble_eq_true rfl), below_setCells _ o2_3.out _ _ _ H9.out.2⟩
      clear H9
      generalize hgw : World.setCells _ _ _ _ = w10 at H10 ⊢
      clear hgw
      refine rest_nil ?_
      refine block_normal ?_
      refine then_normal ?_
      refine walk_seq 2 [.quiet (.int .i64 (((j + 1 : Nat) : Int) - 1)), .quiet (.int .i64 (((j : Nat) : Int) - 1))] (fun w' => Mm w' [(γ2_3, cells6 (f j)), (γ1_0, cells6 n), (γ1_1, cells6 a), (γ1_2, cells6 e), (γ1_3, zero6)]) ?pre8 ?F8 ?hpre8 (fun γ => ?hF8) (by kernel_rfl) ?hL8 ?hS8 ?ho8 ?he8
      case hpre8 =>
        simp only [List.take_succ_cons, List.take_zero]
        exact rfl
      case hF8 =>
        simp only [fill, Kind.val, Act.put, List.setIfInBounds_toArray, List.set_cons_zero, List.set_cons_succ]
        exact rfl
      case hL8 => exact trivial
      case hS8 => exact fun w' hb => H10.out.1.below hb
      case ho8 =>
        refine AllOk.cons ?_ ?_
        · exact fun γ => ⟨rfl, fun w' _ => rfl⟩
        refine AllOk.cons ?_ ?_
        · (refine fun γ => ⟨rfl, fun w' h => ?_⟩; clear h; go_simp; rw [IntKind.wrap_i64]; omega)
        exact trivial
      intro γ w11 l hM hl
      have M11 : Mm w11 [(γ2_3, cells6 (f j)), (γ1_0, cells6 n), (γ1_1, cells6 a), (γ1_2, cells6 e), (γ1_3, zero6)] := H10.out.1.grow hM (Nat.le_refl _) hl [] rfl (by decide)
      have B11 : Below w.heap.size w w11 := H10.out.2.trans (hM.below.mono H10.out.2.size)
      clear hM hl l H10
      clear γ
      have H11 : Hid (_ ∧ _) := ⟨M11, B11⟩
      clear M11 B11
      refine rest_at (l := [2]) rfl ?_
      refine rest_set (d := 8) rfl rfl rfl rfl ?_
      simp only [Act.put, List.setIfInBounds_toArray, List.set_cons_zero, List.set_cons_succ]
      refine rest_nil ?_
      refine then_normal ?_
      exact ⟨j, ⟨(slotfn [undef, undef, undef, undef, undef, undef, undef, undef, undef, undef, undef, undef, undef, undef, undef, .int .i64 (((j + 1 : Nat) : Int) - 1), .bool true, .int .i64 (((j + 1 : Nat) : Int) - 1), .int .i64 (((j : Nat) : Int) - 1), N n, N (f (j + 1)), N (f (j + 1)), N (q j), N e, .int .i64 (((j + 1 : Nat) : Int) - 1), .int .i64 (bv j), .bool true, N n, N (q j), N a, N (f j)]), rfl, ⟨H11.out.1, H11.out.2⟩, by omega⟩, by omega⟩
    · have hrd : True := trivial
      clear hrd
      have hb' : bv j = 0 := (HB.out j).resolve_left hb
      have HQ : Hid _ := FQ.out j hb'
      refine wp_seq ?_
      refine wp_seq ?_
      refine walk_seq 2 [.quiet (.int .i64 (((j + 1 : Nat) : Int) - 1)), .quiet (.bool true)] (fun w' => Mm w' [(γ2_3, cells6 (f (j + 1))), (γ1_0, cells6 n), (γ1_1, cells6 a), (γ1_2, cells6 e), (γ1_3, zero6)]) ?pre9 ?F9 ?hpre9 (fun γ => ?hF9) (by kernel_rfl) ?hL9 ?hS9 ?ho9 ?he9
      case hpre9 =>
        simp only [List.take_succ_cons, List.take_zero]
        exact rfl
      case hF9 =>
        simp only [fill, Kind.val, Act.put, List.setIfInBounds_toArray, List.set_cons_zero, List.set_cons_succ]
        exact rfl
      case hL9 => exact trivial
      case hS9 => exact fun w' hb => H4.out.1.below hb
      case ho9 =>
        refine AllOk.cons ?_ ?_
        · exact fun γ => ⟨rfl, fun w' _ => rfl⟩
        refine AllOk.cons ?_ ?_
        · (refine fun γ => ⟨rfl, fun w' h => ?_⟩; clear h; go_simp <;> omega)
        exact trivial
      intro γ w12 l hM hl
      have M12 : Mm w12 [(γ2_3, cells6 (f (j + 1))), (γ1_0, cells6 n), (γ1_1, cells6 a), (γ1_2, cells6 e), (γ1_3, zero6)] := H4.out.1.grow hM (Nat.le_refl _) hl [] rfl (by decide)
      have B12 : Below w.heap.size w w12 := H4.out.2.trans (hM.below.mono H4.out.2.size)
      clear hM hl l H4
      clear γ
      have H12 : Hid (_ ∧ _) := ⟨M12, B12⟩
      clear M12 B12
      refine rest_at (l := []) rfl ?_
      refine rest_nil ?_
      refine then_normal ?_
      refine wp_cond_true rfl ?_
      refine wp_skip ?_
      refine then_normal ?_
      refine wp_seq ?_
      refine wp_block ?_
      refine wp_seq ?_
      refine walk_seq 4 [.quiet (N n), .quiet (N (f (j + 1))), .quiet (N (f (j + 1))), .call (N (q j))] (fun w' => Mm w' [(γ2_3, cells6 (f (j + 1))), (γ1_0, cells6 n), (γ1_1, cells6 a), (γ1_2, cells6 e), (γ1_3, zero6)]) ?pre10 ?F10 ?hpre10 (fun γ => ?hF10) (by kernel_rfl) ?hL10 ?hS10 ?ho10 ?he10
      case hpre10 =>
        simp only [List.take_succ_cons, List.take_zero]
        exact rfl
      case hF10 =>
        simp only [fill, Kind.val, Act.put, List.setIfInBounds_toArray, List.set_cons_zero, List.set_cons_succ]
        exact rfl
      case hL10 => exact trivial
      case hS10 => exact fun w' hb => H12.out.1.below hb
      case ho10 =>
        refine AllOk.cons ?_ ?_
        · exact fun γ => ⟨rfl, fun w' h => ex_load6 h 1 rfl rfl rfl rfl⟩
        refine AllOk.cons ?_ ?_
        · exact fun γ => ⟨rfl, fun w' h => ex_load6 h 0 rfl rfl rfl rfl⟩
        refine AllOk.cons ?_ ?_
        · exact fun γ => ⟨rfl, fun w' h => ex_load6 h 0 rfl rfl rfl rfl⟩
        refine AllOk.cons ?_ ?_
        · exact fun γ => ⟨rfl, fun w' h => ⟨18, #[N n, N (f (j + 1)), N (f (j + 1))], exec_call rfl call18 rfl (by simp only [List.map_toArray, List.map_cons, List.map_nil]; rfl), CS.out j w'⟩⟩
        exact trivial
      intro γ w13 l hM hl
      have M13 : Mm w13 [(γ2_3, cells6 (f (j + 1))), (γ1_0, cells6 n), (γ1_1, cells6 a), (γ1_2, cells6 e), (γ1_3, zero6)] := H12.out.1.grow hM (Nat.le_refl _) hl [] rfl (by decide)
      have B13 : Below w.heap.size w w13 := H12.out.2.trans (hM.below.mono H12.out.2.size)
      clear hM hl l H12
      clear γ
      have H13 : Hid (_ ∧ _) := ⟨M13, B13⟩
      clear M13 B13
      refine rest_at (l := [4]) rfl ?_
      refine rest_store rfl rfl rfl (ex_store6 H13.out.1 0 rfl rfl rfl rfl (Nat.le_of_ble_eq_true rfl)) ?_
      have H14 : Hid (Mm (w13.setCells γ2_3 0 (cells6 (q j))) [(γ2_3, cells6 (q j)), (γ1_0, cells6 n), (γ1_1, cells6 a), (γ1_2, cells6 e), (γ1_3, zero6)] ∧ Below w.heap.size w (w13.setCells γ2_3 0 (cells6 (q j)))) := ⟨H13.out.1.put 0 (off := 0) (vs := cells6 (q j)) rfl (Nat.le_of_ble_eq_true rfl), below_setCells _ o2_3.out _ _ _ H13.out.2⟩
      clear H13
      generalize hgw : World.setCells _ _ _ _ = w14 at H14 ⊢
      clear hgw
      refine rest_nil ?_
      refine then_normal ?_
      refine wp_seq ?_
      refine walk_seq 4 [.quiet (N e), .quiet (.int .i64 (((j + 1 : Nat) : Int) - 1)), .call (.int .i64 (bv j)), .quiet (.bool false)] (fun w' => Mm w' [(γ2_3, cells6 (q j)), (γ1_0, cells6 n), (γ1_1, cells6 a), (γ1_2, cells6 e), (γ1_3, zero6)]) ?pre11 ?F11 ?hpre11 (fun γ => ?hF11) (by kernel_rfl) ?hL11 ?hS11 ?ho11 ?he11
      case hpre11 =>
        simp only [List.take_succ_cons, List.take_zero]
        exact rfl
      case hF11 =>
        simp only [fill, Kind.val, Act.put, List.setIfInBounds_toArray, List.set_cons_zero, List.set_cons_succ]
        exact rfl
      case hL11 => exact trivial
      case hS11 => exact fun w' hb => H14.out.1.below hb
      case ho11 =>
        refine AllOk.cons ?_ ?_
        · exact fun γ => ⟨rfl, fun w' h => ex_load6 h 3 rfl rfl rfl rfl⟩
        refine AllOk.cons ?_ ?_
        · exact fun γ => ⟨rfl, fun w' _ => rfl⟩
        refine AllOk.cons ?_ ?_
        · exact fun γ => ⟨rfl, fun w' h => ⟨37, #[N e, .int .i64 (((j + 1 : Nat) : Int) - 1)], exec_call rfl call37 rfl (by simp only [List.map_toArray, List.map_cons, List.map_nil]; rfl), CI.out j w' (by omega)⟩⟩
        refine AllOk.cons ?_ ?_
        · (refine fun γ => ⟨rfl, fun w' h => ?_⟩; clear h; go_simp <;> omega)
        exact trivial
      intro γ w15 l hM hl
      have M15 : Mm w15 [(γ2_3, cells6 (q j)), (γ1_0, cells6 n), (γ1_1, cells6 a), (γ1_2, cells6 e), (γ1_3, zero6)] := H14.out.1.grow hM (Nat.le_refl _) hl [] rfl (by decide)
      have B15 : Below w.heap.size w w15 := H14.out.2.trans (hM.below.mono H14.out.2.size)
      clear hM hl l H14
      clear γ
      have H15 : Hid (_ ∧ _) := ⟨M15, B15⟩
      clear M15 B15
      refine rest_at (l := []) rfl ?_
      refine rest_nil ?_
      refine then_normal ?_
      refine wp_cond_false rfl ?_
      refine wp_skip ?_
      refine block_normal ?_
      refine then_normal ?_
      refine walk_seq 2 [.quiet (.int .i64 (((j + 1 : Nat) : Int) - 1)), .quiet (.int .i64 (((j : Nat) : Int) - 1))] (fun w' => Mm w' [(γ2_3, cells6 (q j)), (γ1_0, cells6 n), (γ1_1, cells6 a), (γ1_2, cells6 e), (γ1_3, zero6)]) ?pre12 ?F12 ?hpre12 (fun γ => ?hF12) (by kernel_rfl) ?hL12 ?hS12 ?ho12 ?he12
      case hpre12 =>
        simp only [List.take_succ_cons, List.take_zero]
        exact rfl
      case hF12 =>
        simp only [fill, Kind.val, Act.put, List.setIfInBounds_toArray, List.set_cons_zero, List.set_cons_succ]
        exact rfl
      case hL12 => exact trivial
      case hS12 => exact fun w' hb => H15.out.1.below hb
      case ho12 =>
        refine AllOk.cons ?_ ?_
        · exact fun γ => ⟨rfl, fun w' _ => rfl⟩
        refine AllOk.cons ?_ ?_
        · (refine fun γ => ⟨rfl, fun w' h => ?_⟩; clear h; go_simp; rw [IntKind.wrap_i64]; omega)
        exact trivial
      intro γ w16 l hM hl
      have M16 : Mm w16 [(γ2_3, cells6 (q j)), (γ1_0, cells6 n), (γ1_1, cells6 a), (γ1_2, cells6 e), (γ1_3, zero6)] := H15.out.1.grow hM (Nat.le_refl _) hl [] rfl (by decide)
      have B16 : Below w.heap.size w w16 := H15.out.2.trans (hM.below.mono H15.out.2.size)
      clear hM hl l H15
      clear γ
      have H16 : Hid (_ ∧ _) := ⟨M16, B16⟩
      clear M16 B16
      refine rest_at (l := [2]) rfl ?_
      refine rest_set (d := 8) rfl rfl rfl rfl ?_
      simp only [Act.put, List.setIfInBounds_toArray, List.set_cons_zero, List.set_cons_succ]
      refine rest_nil ?_
      refine then_normal ?_
      exact ⟨j, ⟨(slotfn [undef, undef, undef, undef, undef, undef, undef, undef, undef, undef, undef, undef, undef, undef, undef, .int .i64 (((j + 1 : Nat) : Int) - 1), .bool true, .int .i64 (((j + 1 : Nat) : Int) - 1), .int .i64 (((j : Nat) : Int) - 1), N n, N (f (j + 1)), N (f (j + 1)), N (q j), N e, .int .i64 (((j + 1 : Nat) : Int) - 1), .int .i64 (bv j), .bool false, s0 27, s0 28, s0 29, s0 30]), rfl, ⟨by rw [← HQ.out]; exact H16.out.1, H16.out.2⟩, by omega⟩, by omega⟩
  have hk0 : k = 0 := by omega
  subst hk0
  refine wp_seq ?_
  refine wp_seq ?_
  refine walk_seq 2 [.quiet (.int .i64 (((0 : Nat) : Int) - 1)), .quiet (.bool false)] (fun w' => Mm w' [(γ2_3, cells6 (f 0)), (γ1_0, cells6 n), (γ1_1, cells6 a), (γ1_2, cells6 e), (γ1_3, zero6)]) ?pre13 ?F13 ?hpre13 (fun γ => ?hF13) (by kernel_rfl) ?hL13 ?hS13 ?ho13 ?he13
  case hpre13 =>
    simp only [List.take_succ_cons, List.take_zero]
    exact rfl
  case hF13 =>
    simp only [fill, Kind.val, Act.put, List.setIfInBounds_toArray, List.set_cons_zero, List.set_cons_succ]
    exact rfl
  case hL13 => exact trivial
  case hS13 => exact fun w' hb => H4.out.1.below hb
  case ho13 =>
    refine AllOk.cons ?_ ?_
    · exact fun γ => ⟨rfl, fun w' _ => rfl⟩
    refine AllOk.cons ?_ ?_
    · (refine fun γ => ⟨rfl, fun w' h => ?_⟩; clear h; go_simp <;> omega)
    exact trivial
  intro γ w17 l hM hl
  have M17 : Mm w17 [(γ2_3, cells6 (f 0)), (γ1_0, cells6 n), (γ1_1, cells6 a), (γ1_2, cells6 e), (γ1_3, zero6)] := H4.out.1.grow hM (Nat.le_refl _) hl [] rfl (by decide)
  have B17 : Below w.heap.size w w17 := H4.out.2.trans (hM.below.mono H4.out.2.size)
  clear hM hl l H4
  clear γ
  have H17 : Hid (_ ∧ _) := ⟨M17, B17⟩
  clear M17 B17
  refine rest_at (l := []) rfl ?_
  refine rest_nil ?_
  refine then_normal ?_
  refine wp_cond_false rfl ?_
  refine wp_exit ?_
  repeat refine then_exit ?_
  refine block_exit ?_
  refine then_normal ?_
  refine wp_seq ?_
  refine walk_seq 1 [.quiet (N (f 0))] (fun w' => Mm w' [(γ2_3, cells6 (f 0)), (γ1_0, cells6 n), (γ1_1, cells6 a), (γ1_2, cells6 e), (γ1_3, zero6)]) ?pre14 ?F14 ?hpre14 (fun γ => ?hF14) (by kernel_rfl) ?hL14 ?hS14 ?ho14 ?he14
  case hpre14 =>
    simp only [List.take_succ_cons, List.take_zero]
    exact rfl
  case hF14 =>
    simp only [fill, Kind.val, Act.put, List.setIfInBounds_toArray, List.set_cons_zero, List.set_cons_succ]
    exact rfl
  case hL14 => exact trivial
  case hS14 => exact fun w' hb => H17.out.1.below hb
  case ho14 =>
    refine AllOk.cons ?_ ?_
    · exact fun γ => ⟨rfl, fun w' h => ex_load6 h 0 rfl rfl rfl rfl⟩
    exact trivial
  intro γ w18 l hM hl
  have M18 : Mm w18 [(γ2_3, cells6 (f 0)), (γ1_0, cells6 n), (γ1_1, cells6 a), (γ1_2, cells6 e), (γ1_3, zero6)] := H17.out.1.grow hM (Nat.le_refl _) hl [] rfl (by decide)
  have B18 : Below w.heap.size w w18 := H17.out.2.trans (hM.below.mono H17.out.2.size)
  clear hM hl l H17
  clear γ
  have H18 : Hid (_ ∧ _) := ⟨M18, B18⟩
  clear M18 B18
  refine rest_at (l := [1]) rfl ?_
  refine rest_store rfl rfl rfl (ex_store6 H18.out.1 4 rfl rfl rfl rfl (Nat.le_of_ble_eq_true rfl)) ?_
  have H19 : Hid (Mm (w18.setCells γ1_3 0 (cells6 (f 0))) [(γ2_3, cells6 (f 0)), (γ1_0, cells6 n), (γ1_1, cells6 a), (γ1_2, cells6 e), (γ1_3, cells6 (f 0))] ∧ Below w.heap.size w (w18.setCells γ1_3 0 (cells6 (f 0)))) := ⟨H18.out.1.put 4 (off := 0) (vs := cells6 (f 0)) rfl (Nat.le_of_ble_eq_true rfl), below_setCells _ o1_3.out _ _ _ H18.out.2⟩
  clear H18
  generalize hgw : World.setCells _ _ _ _ = w19 at H19 ⊢
  clear hgw
  refine rest_nil ?_
  refine then_normal ?_
  refine wp_ret ?_
  repeat (first | refine then_ret ?_ | refine block_ret ?_)
  have c0 := H19.out.1.get 4 rfl 0 rfl
  have c1 := H19.out.1.get 4 rfl 1 rfl
  have c2 := H19.out.1.get 4 rfl 2 rfl
  have c3 := H19.out.1.get 4 rfl 3 rfl
  have c4 := H19.out.1.get 4 rfl 4 rfl
  have c5 := H19.out.1.get 4 rfl 5 rfl
  refine bodyPost_ret (v := N (f 0)) (by simp [results, Tryd.results22, go_sem, *]) rfl ?_
  exact ⟨rfl, H19.out.2⟩
structure RS where
  r : Nat
  s : Nat
  x : Nat
  y : Nat
structure RI (n a r s x y : Nat) : Prop where
  sr : s < r
  rn : r ≤ n
  xn : x < n
  yn : y < n
  gcd : Nat.gcd r s = Nat.gcd n a
  cx : Cg n r (x * a)
  cy : Cg n s (y * a)
theorem RI.start {n a : Nat} (ok : Ok n) : RI n a n (a % n) 0 1 := by
  refine ⟨Nat.mod_lt _ ok.pos, Nat.le_refl _, ok.pos, by have := ok.three; omega, ?_, ?_, ?_⟩
  · rw [Nat.gcd_comm n (a % n), ← Nat.gcd_rec, Nat.gcd_comm]
  · rw [Nat.zero_mul]
    have := Cg.zero n 1
    rwa [Nat.one_mul] at this
  · rw [Nat.one_mul]; exact Cg.mod n a
theorem RI.next {n a r s x y : Nat} (ok : Ok n) (h : RI n a r s x y) (hs : s ≠ 0) : RI n a s (r % s) y (subm n x (r / s * y % n)) := by
  have h1 := h.sr
  have h2 := h.rn
  refine ⟨Nat.mod_lt _ (by omega), by omega, h.yn, subm_lt_n ok.pos _ _, ?_, h.cy, ?_⟩
  · rw [Nat.gcd_comm s (r % s), ← Nat.gcd_rec, Nat.gcd_comm s r]; exact h.gcd
  · have hd := Nat.div_add_mod r s
    have hp := ok.pos
    have e1 : Cg n (subm n x (r / s * y % n) + r / s * y) x := by
      unfold subm
      refine ((Cg.mod n (x + (n - r / s * y % n % n))).addR _).trans ?_
      rw [Nat.mod_mod]
      have hl := Nat.mod_lt (r / s * y) hp
      have hdm := Nat.div_add_mod (r / s * y) n
      have e : x + (n - r / s * y % n) + r / s * y = x + (r / s * y / n + 1) * n := by rw [Nat.add_mul, Nat.mul_comm (r / s * y / n)]; omega
      rw [e]
      have := (Cg.zero n (r / s * y / n + 1)).addL x
      rwa [Nat.add_zero] at this
    have e2 := e1.mulR a
    rw [Nat.add_mul, Nat.mul_assoc (r / s)] at e2
    have e3 : Cg n (subm n x (r / s * y % n) * a + r / s * s) (subm n x (r / s * y % n) * a + r / s * (y * a)) := Cg.addL _ (h.cy.mulL (r / s))
    have e4 := (e3.trans e2).trans h.cx.symm
    have e5 : r = r % s + r / s * s := by rw [Nat.mul_comm]; omega
    have e6 : Cg n (subm n x (r / s * y % n) * a + r / s * s) (r % s + r / s * s) := by
      refine e4.trans ?_
      conv => lhs; rw [e5]
      exact Cg.refl _ _
    have hK : ∀ p q c : Nat, Cg n (p + c) (q + c) → Cg n q p := fun p q c h' => by
      unfold Cg at *
      have hc := Nat.mod_lt c hp
      have s1 : Cg n (p + c + (n - c % n)) (q + c + (n - c % n)) := Cg.addR _ h'
      have hcd := Nat.div_add_mod c n
      have s2 : ∀ z : Nat, (z + c + (n - c % n)) % n = z % n := fun z => by
        rw [show z + c + (n - c % n) = z + (c / n + 1) * n by rw [Nat.add_mul, Nat.mul_comm (c / n)]; omega, Nat.add_mul_mod_self_right]
      unfold Cg at s1
      rw [s2, s2] at s1
      exact s1.symm
    exact hK _ _ _ e6
theorem RI.last {n a r s x y : Nat} (ok : Ok n) (h : RI n a r s x y) (hr : r = 1) : x < n ∧ x * a % n = 1 := by
  have := h.cx
  rw [hr] at this
  unfold Cg at this
  rw [← this, Nat.mod_eq_of_lt (by have := ok.three; omega)]
  exact ⟨h.xn, rfl⟩
set_option maxHeartbeats 4000000 in
set_option maxRecDepth 100000 in
theorem rinv_good {n a : Nat} (ok : Ok n) (sa0 z0 k1 : Nat) (hs0 : sa0 = a % n) (hz0 : z0 = 0) (hk1 : k1 = 1) (hg : Nat.gcd n a = 1)
    (cr : ∀ w, Calls Tryd.prog 8 #[N n, N a] w fun e w' => e = .returned (N sa0) ∧ Below w.heap.size w w')
    (cd : ∀ r s, r ≤ n → s ≤ n → s ≠ 0 → ∀ w, Calls Tryd.prog 33 #[N r, N s] w fun e w' => e = .returned (.tuple #[N (r / s), N (r % s), .int .i64 0]) ∧ Below w.heap.size w w')
    (cp : ∀ p q, p ≤ n → q ≤ n → ∀ w, Calls Tryd.prog 18 #[N n, N p, N q] w fun e w' => e = .returned (N (p * q % n)) ∧ Below w.heap.size w w')
    (cq : ∀ p q, p ≤ n → q ≤ n → ∀ w, Calls Tryd.prog 14 #[N n, N p, N q] w fun e w' => e = .returned (N (subm n p q)) ∧ Below w.heap.size w w') (w : World) :
    Calls Tryd.prog 20 #[N n, N a] w fun e w' => ∃ x, e = .returned (.tuple #[N x, .int .i64 0]) ∧ x < n ∧ x * a % n = 1 ∧ Below w.heap.size w w' := by
  have H0 : Hid (_ ∧ _) := ⟨Mm.nil w, Below.refl w.heap.size w⟩
  have CR : Hid _ := cr
  have CD : Hid _ := cd
  have CP : Hid _ := cp
  have CQ : Hid _ := cq
  have HR : Hid _ := hs0
  have HZ0 : Hid _ := hz0
  have HK : Hid _ := hk1
  have ZZ : Hid (zero6 = cells6 z0) := (by rw [hz0]; exact cells_zero.symm : zero6 = cells6 z0)
  clear cr cd cp cq hs0 hz0 hk1
  go_enter Tryd.func20, Tryd.ntmps20
  refine wp_seq ?_
  refine walk_seq 4 [.made (cells6 n) 24, .made (cells6 a) 24, .made zero6 24, .quiet (.int .i64 0)] (fun w' => Mm w' []) ?pre1 ?F1 ?hpre1 (fun γ => ?hF1) (by kernel_rfl) ?hL1 ?hS1 ?ho1 ?he1
  case hpre1 =>
    simp only [List.take_succ_cons, List.take_zero]
    exact rfl
  case hF1 =>
    simp only [fill, Kind.val, Act.put, List.setIfInBounds_toArray, List.set_cons_zero, List.set_cons_succ]
    exact rfl
  case hL1 => exact trivial
  case hS1 => exact fun w' hb => H0.out.1.below hb
  case ho1 =>
    refine AllOk.cons ?_ ?_
    · exact fun γ => ⟨rfl, fun w' => ex_box6 rfl rfl⟩
    refine AllOk.cons ?_ ?_
    · exact fun γ => ⟨rfl, fun w' => ex_box6 rfl rfl⟩
    refine AllOk.cons ?_ ?_
    · exact fun γ => ⟨rfl, fun w' => exec_made6 rfl⟩
    refine AllOk.cons ?_ ?_
    · exact fun γ => ⟨rfl, fun w' _ => rfl⟩
    exact trivial
  intro γ w1 l hM hl
  have M1 : Mm w1 [(γ 0, cells6 n), (γ 1, cells6 a), (γ 2, zero6)] := H0.out.1.grow hM (Nat.le_refl _) hl [0, 1, 2] rfl (by decide)
  have B1 : Below w.heap.size w w1 := H0.out.2.trans (hM.below.mono H0.out.2.size)
  have o1_0 : Hid (w.heap.size ≤ γ 0) := Nat.le_trans H0.out.2.size (hM.fin (Nat.le_refl _) hl (i := 0) rfl).2.1
  have o1_1 : Hid (w.heap.size ≤ γ 1) := Nat.le_trans H0.out.2.size (hM.fin (Nat.le_refl _) hl (i := 1) rfl).2.1
  have o1_2 : Hid (w.heap.size ≤ γ 2) := Nat.le_trans H0.out.2.size (hM.fin (Nat.le_refl _) hl (i := 2) rfl).2.1
  clear hM hl l
  generalize γ 0 = γ1_0 at M1 o1_0 ⊢
  generalize γ 1 = γ1_1 at M1 o1_1 ⊢
  generalize γ 2 = γ1_2 at M1 o1_2 ⊢
  clear γ
  have H1 : Hid (_ ∧ _) := ⟨M1, B1⟩
  clear M1 B1
  refine rest_at (l := []) rfl ?_
  refine rest_nil ?_
  refine then_normal ?_
  refine wp_seq ?_
  refine walk_any (by kernel_rfl) 8 [.quiet (N n), .quiet (N n), .quiet (N a), .call (N sa0), .made zero6 24, .made zero6 24, .laid 4 zero6 (cells6 n), .laid 5 zero6 (cells6 sa0)] (fun w' => Mm w' [(γ1_0, cells6 n), (γ1_1, cells6 a), (γ1_2, zero6)]) ?pre2 ?F2 ?hpre2 (fun γ => ?hF2) (by kernel_rfl) ?hL2 ?hS2 ?ho2 ?he2
  case hpre2 =>
    simp only [List.take_succ_cons, List.take_zero]
    exact rfl
  case hF2 =>
    simp only [fill, Kind.val, Act.put, List.setIfInBounds_toArray, List.set_cons_zero, List.set_cons_succ]
    exact rfl
  case hL2 => exact ⟨⟨_, rfl⟩, ⟨_, rfl⟩, trivial⟩
  case hS2 => exact fun w' hb => H1.out.1.below hb
  case ho2 =>
    refine AllOk.cons ?_ ?_
    · exact fun γ => ⟨rfl, fun w' h => ex_load6 h 0 rfl rfl rfl rfl⟩
    refine AllOk.cons ?_ ?_
    · exact fun γ => ⟨rfl, fun w' h => ex_load6 h 0 rfl rfl rfl rfl⟩
    refine AllOk.cons ?_ ?_
    · exact fun γ => ⟨rfl, fun w' h => ex_load6 h 1 rfl rfl rfl rfl⟩
    refine AllOk.cons ?_ ?_
    · exact fun γ => ⟨rfl, fun w' h => ⟨8, #[N n, N a], exec_call rfl call8 rfl (by simp only [List.map_toArray, List.map_cons, List.map_nil]; rfl), CR.out w'⟩⟩
    refine AllOk.cons ?_ ?_
    · exact fun γ => ⟨rfl, fun w' => exec_made6 rfl⟩
    refine AllOk.cons ?_ ?_
    · exact fun γ => ⟨rfl, fun w' => exec_made6 rfl⟩
    refine AllOk.cons ?_ ?_
    · exact fun γ => ⟨rfl, rfl, rfl, fun w' h => exec_laid6 h rfl rfl rfl⟩
    refine AllOk.cons ?_ ?_
    · exact fun γ => ⟨rfl, rfl, rfl, fun w' h => exec_laid6 h rfl rfl rfl⟩
    exact trivial
  intro γ w2 l hM hl
  have M2 : Mm w2 [(γ 4, cells6 n), (γ 5, cells6 sa0), (γ1_0, cells6 n), (γ1_1, cells6 a), (γ1_2, zero6)] := H1.out.1.grow hM (Nat.le_refl _) hl [4, 5] rfl (by decide)
  have B2 : Below w.heap.size w w2 := H1.out.2.trans (hM.below.mono H1.out.2.size)
  have o2_4 : Hid (w.heap.size ≤ γ 4) := Nat.le_trans H1.out.2.size (hM.fin (Nat.le_refl _) hl (i := 4) rfl).2.1
  have o2_5 : Hid (w.heap.size ≤ γ 5) := Nat.le_trans H1.out.2.size (hM.fin (Nat.le_refl _) hl (i := 5) rfl).2.1
  clear hM hl l H1
  generalize γ 4 = γ2_4 at M2 o2_4 ⊢
  generalize γ 5 = γ2_5 at M2 o2_5 ⊢
  clear γ
  have H2 : Hid (_ ∧ _) := ⟨M2, B2⟩
  clear M2 B2
  refine rest_at (l := []) rfl ?_
  refine rest_nil ?_
  refine then_normal ?_
  refine wp_seq ?_
  refine walk_seq 1 [.made zero6 24] (fun w' => Mm w' [(γ2_4, cells6 n), (γ2_5, cells6 sa0), (γ1_0, cells6 n), (γ1_1, cells6 a), (γ1_2, zero6)]) ?pre3 ?F3 ?hpre3 (fun γ => ?hF3) (by kernel_rfl) ?hL3 ?hS3 ?ho3 ?he3
  case hpre3 =>
    simp only [List.take_succ_cons, List.take_zero]
    exact rfl
  case hF3 =>
    simp only [fill, Kind.val, Act.put, List.setIfInBounds_toArray, List.set_cons_zero, List.set_cons_succ]
    exact rfl
  case hL3 => exact trivial
  case hS3 => exact fun w' hb => H2.out.1.below hb
  case ho3 =>
    refine AllOk.cons ?_ ?_
    · exact fun γ => ⟨rfl, fun w' => exec_made6 rfl⟩
    exact trivial
  intro γ w3 l hM hl
  have M3 : Mm w3 [(γ 0, zero6), (γ2_4, cells6 n), (γ2_5, cells6 sa0), (γ1_0, cells6 n), (γ1_1, cells6 a), (γ1_2, zero6)] := H2.out.1.grow hM (Nat.le_refl _) hl [0] rfl (by decide)
  have B3 : Below w.heap.size w w3 := H2.out.2.trans (hM.below.mono H2.out.2.size)
  have o3_0 : Hid (w.heap.size ≤ γ 0) := Nat.le_trans H2.out.2.size (hM.fin (Nat.le_refl _) hl (i := 0) rfl).2.1
  clear hM hl l H2
  generalize γ 0 = γ3_0 at M3 o3_0 ⊢
  clear γ
  have H3 : Hid (_ ∧ _) := ⟨M3, B3⟩
  clear M3 B3
  refine rest_at (l := []) rfl ?_
  refine rest_nil ?_
  refine then_normal ?_
  refine wp_seq ?_
  refine walk_seq 3 [.quiet (N k1), .made zero6 24, .laid 1 zero6 (cells6 k1)] (fun w' => Mm w' [(γ3_0, zero6), (γ2_4, cells6 n), (γ2_5, cells6 sa0), (γ1_0, cells6 n), (γ1_1, cells6 a), (γ1_2, zero6)]) ?pre4 ?F4 ?hpre4 (fun γ => ?hF4) (by kernel_rfl) ?hL4 ?hS4 ?ho4 ?he4
  case hpre4 =>
    simp only [List.take_succ_cons, List.take_zero]
    exact rfl
  case hF4 =>
    simp only [fill, Kind.val, Act.put, List.setIfInBounds_toArray, List.set_cons_zero, List.set_cons_succ]
    exact rfl
  case hL4 => exact ⟨⟨_, rfl⟩, trivial⟩
  case hS4 => exact fun w' hb => H3.out.1.below hb
  case ho4 =>
    refine AllOk.cons ?_ ?_
    · exact fun γ => ⟨rfl, fun w' _ => ex_build1' HK.out rfl rfl⟩
    refine AllOk.cons ?_ ?_
    · exact fun γ => ⟨rfl, fun w' => exec_made6 rfl⟩
    refine AllOk.cons ?_ ?_
    · exact fun γ => ⟨rfl, rfl, rfl, fun w' h => exec_laid6 h rfl rfl rfl⟩
    exact trivial
  intro γ w4 l hM hl
  have M4 : Mm w4 [(γ 1, cells6 k1), (γ3_0, zero6), (γ2_4, cells6 n), (γ2_5, cells6 sa0), (γ1_0, cells6 n), (γ1_1, cells6 a), (γ1_2, zero6)] := H3.out.1.grow hM (Nat.le_refl _) hl [1] rfl (by decide)
  have B4 : Below w.heap.size w w4 := H3.out.2.trans (hM.below.mono H3.out.2.size)
  have o4_1 : Hid (w.heap.size ≤ γ 1) := Nat.le_trans H3.out.2.size (hM.fin (Nat.le_refl _) hl (i := 1) rfl).2.1
  clear hM hl l H3
  generalize γ 1 = γ4_1 at M4 o4_1 ⊢
  clear γ
  have H4 : Hid (_ ∧ _) := ⟨M4, B4⟩
  clear M4 B4
  refine rest_at (l := []) rfl ?_
  refine rest_nil ?_
  refine then_normal ?_
  refine wp_seq ?_
  refine wp_block ?_
  refine loop_ghost (α := RS) (fun z a' w' => ∃ s0 : Nat → Value, a' = ⟨#[N n, N a, PT γ1_0 0, PT γ1_1 0, PT γ1_2 0, .int .i64 0, PT γ2_4 0, PT γ2_5 0, PT γ3_0 0, PT γ4_1 0, s0 10, s0 11, s0 12, N n, N n, N a, N sa0, N k1, s0 18, s0 19, s0 20, s0 21, s0 22, s0 23, s0 24, s0 25, s0 26, s0 27, s0 28, s0 29, s0 30, s0 31, s0 32, s0 33, s0 34, s0 35, s0 36, s0 37, undef, undef, undef, undef, undef], []⟩ ∧ (Mm w' [(γ4_1, cells6 z.y), (γ3_0, cells6 z.x), (γ2_4, cells6 z.r), (γ2_5, cells6 z.s), (γ1_0, cells6 n), (γ1_1, cells6 a), (γ1_2, zero6)] ∧ Below w.heap.size w w') ∧ RI n a z.r z.s z.x z.y) (fun z => z.s) ⟨n, sa0, z0, k1⟩ ?st0 ?rd0
  case st0 => exact ⟨(slotfn [undef, undef, undef, undef, undef, undef, undef, undef, undef, undef, undef, undef, undef, undef, undef, undef, undef, undef, undef, undef, undef, undef, undef, undef, undef, undef, undef, undef, undef, undef, undef, undef, undef, undef, undef, undef, undef, undef]), rfl, ⟨H4.out.1.at1 ZZ.out, H4.out.2⟩, by rw [HR.out, HZ0.out, HK.out]; exact RI.start ok⟩
  intro z a' w5 hI
  obtain ⟨s0, rfl, hMB, hk0⟩ := hI
  have H5 : Hid (_ ∧ _) := hMB
  clear hMB H4
  by_cases hlt : z.s ≠ 0
  · have hrd : True := trivial
    clear hrd
    obtain ⟨r, s, x, y⟩ := z
    have hE : RI n a r s x y := hk0
    have hs : s ≠ 0 := hlt
    have hbn := ok.big
    have e0 := fun w => run_eqN s 0 (by have := hE.sr; have := hE.rn; omega) big_pos w
    rw [decide_eq_false hs] at e0
    have cv : ∀ w, Calls Tryd.prog 33 #[N r, N s] w fun e w' => e = .returned (.tuple #[N (r / s), N (r % s), .int .i64 0]) ∧ Below w.heap.size w w' := CD.out r s hE.rn (by have := hE.sr; have := hE.rn; omega) hs
    have cm : ∀ w, Calls Tryd.prog 18 #[N n, N (r / s), N y] w fun e w' => e = .returned (N (r / s * y % n)) ∧ Below w.heap.size w w' := CP.out _ _ (Nat.le_trans (Nat.div_le_self _ _) hE.rn) (Nat.le_of_lt hE.yn)
    have cs : ∀ w, Calls Tryd.prog 14 #[N n, N x, N (r / s * y % n)] w fun e w' => e = .returned (N (subm n x (r / s * y % n))) ∧ Below w.heap.size w w' := CQ.out _ _ (Nat.le_of_lt hE.xn) (Nat.le_of_lt (Nat.mod_lt _ ok.pos))
    have HN : Hid _ := hE.next ok hs
    have HS : Hid (r % s < s) := Nat.mod_lt r (by omega)
    obtain ⟨q, hq⟩ : ∃ q, q = r / s := ⟨_, rfl⟩
    obtain ⟨t, ht⟩ : ∃ t, t = r % s := ⟨_, rfl⟩
    rw [← hq] at cv cm cs HN
    rw [← ht] at cv HN HS
    obtain ⟨p, hp⟩ : ∃ p, p = q * y % n := ⟨_, rfl⟩
    rw [← hp] at cm cs HN
    obtain ⟨u, hu⟩ : ∃ u, u = subm n x p := ⟨_, rfl⟩
    rw [← hu] at cs HN
    have CV : Hid _ := cv
    have CM : Hid _ := cm
    have CS : Hid _ := cs
    clear cv cm cs hE hk0 hq ht hp hu
    refine wp_seq ?_
    refine wp_seq ?_
    refine walk_seq 3 [.quiet (N s), .quiet (N 0), .quiet (.bool true)] (fun w' => Mm w' [(γ4_1, cells6 y), (γ3_0, cells6 x), (γ2_4, cells6 r), (γ2_5, cells6 s), (γ1_0, cells6 n), (γ1_1, cells6 a), (γ1_2, zero6)]) ?pre5 ?F5 ?hpre5 (fun γ => ?hF5) (by kernel_rfl) ?hL5 ?hS5 ?ho5 ?he5
    case hpre5 =>
      simp only [List.take_succ_cons, List.take_zero]
      exact rfl
    case hF5 =>
      simp only [fill, Kind.val, Act.put, List.setIfInBounds_toArray, List.set_cons_zero, List.set_cons_succ]
      exact rfl
    case hL5 => exact trivial
    case hS5 => exact fun w' hb => H5.out.1.below hb
    case ho5 =>
      refine AllOk.cons ?_ ?_
      · exact fun γ => ⟨rfl, fun w' h => ex_load6 h 3 rfl rfl rfl rfl⟩
      refine AllOk.cons ?_ ?_
      · exact fun γ => ⟨rfl, fun w' _ => ex_zero6 rfl⟩
      refine AllOk.cons ?_ ?_
      · exact fun γ => ⟨rfl, fun w' _ => exec_neq6 e0 rfl rfl rfl⟩
      exact trivial
    intro γ w6 l hM hl
    have M6 : Mm w6 [(γ4_1, cells6 y), (γ3_0, cells6 x), (γ2_4, cells6 r), (γ2_5, cells6 s), (γ1_0, cells6 n), (γ1_1, cells6 a), (γ1_2, zero6)] := H5.out.1.grow hM (Nat.le_refl _) hl [] rfl (by decide)
    have B6 : Below w.heap.size w w6 := H5.out.2.trans (hM.below.mono H5.out.2.size)
    clear hM hl l H5
    clear γ
    have H6 : Hid (_ ∧ _) := ⟨M6, B6⟩
    clear M6 B6
    refine rest_at (l := []) rfl ?_
    refine rest_nil ?_
    refine then_normal ?_
    refine wp_cond_true rfl ?_
    refine wp_skip ?_
    refine then_normal ?_
    refine wp_block ?_
    refine wp_seq ?_
    refine walk_seq 12 [.quiet (N r), .quiet (N s), .call (.tuple #[N q, N t, .int .i64 0]), .quiet (.tuple #[N q, N t, .int .i64 0]), .quiet (N q), .quiet (N t), .quiet (.int .i64 0), .made zero6 24, .made zero6 24, .laid 7 zero6 (cells6 q), .laid 8 zero6 (cells6 t), .quiet (.int .i64 0)] (fun w' => Mm w' [(γ4_1, cells6 y), (γ3_0, cells6 x), (γ2_4, cells6 r), (γ2_5, cells6 s), (γ1_0, cells6 n), (γ1_1, cells6 a), (γ1_2, zero6)]) ?pre6 ?F6 ?hpre6 (fun γ => ?hF6) (by kernel_rfl) ?hL6 ?hS6 ?ho6 ?he6
    case hpre6 =>
      simp only [List.take_succ_cons, List.take_zero]
      exact rfl
    case hF6 =>
      simp only [fill, Kind.val, Act.put, List.setIfInBounds_toArray, List.set_cons_zero, List.set_cons_succ]
      exact rfl
    case hL6 => exact ⟨⟨_, rfl⟩, ⟨_, rfl⟩, trivial⟩
    case hS6 => exact fun w' hb => H6.out.1.below hb
    case ho6 =>
      refine AllOk.cons ?_ ?_
      · exact fun γ => ⟨rfl, fun w' h => ex_load6 h 2 rfl rfl rfl rfl⟩
      refine AllOk.cons ?_ ?_
      · exact fun γ => ⟨rfl, fun w' h => ex_load6 h 3 rfl rfl rfl rfl⟩
      refine AllOk.cons ?_ ?_
      · exact fun γ => ⟨rfl, fun w' h => ⟨33, #[N r, N s], exec_call rfl call33 rfl (by simp only [List.map_toArray, List.map_cons, List.map_nil]; rfl), CV.out w'⟩⟩
      refine AllOk.cons ?_ ?_
      · exact fun γ => ⟨rfl, fun w' _ => rfl⟩
      refine AllOk.cons ?_ ?_
      · (refine fun γ => ⟨rfl, fun w' h => ?_⟩; clear h; go_simp)
      refine AllOk.cons ?_ ?_
      · (refine fun γ => ⟨rfl, fun w' h => ?_⟩; clear h; go_simp)
      refine AllOk.cons ?_ ?_
      · (refine fun γ => ⟨rfl, fun w' h => ?_⟩; clear h; go_simp)
      refine AllOk.cons ?_ ?_
      · exact fun γ => ⟨rfl, fun w' => exec_made6 rfl⟩
      refine AllOk.cons ?_ ?_
      · exact fun γ => ⟨rfl, fun w' => exec_made6 rfl⟩
      refine AllOk.cons ?_ ?_
      · exact fun γ => ⟨rfl, rfl, rfl, fun w' h => exec_laid6 h rfl rfl rfl⟩
      refine AllOk.cons ?_ ?_
      · exact fun γ => ⟨rfl, rfl, rfl, fun w' h => exec_laid6 h rfl rfl rfl⟩
      refine AllOk.cons ?_ ?_
      · exact fun γ => ⟨rfl, fun w' _ => rfl⟩
      exact trivial
    intro γ w7 l hM hl
    have M7 : Mm w7 [(γ 7, cells6 q), (γ 8, cells6 t), (γ4_1, cells6 y), (γ3_0, cells6 x), (γ2_4, cells6 r), (γ2_5, cells6 s), (γ1_0, cells6 n), (γ1_1, cells6 a), (γ1_2, zero6)] := H6.out.1.grow hM (Nat.le_refl _) hl [7, 8] rfl (by decide)
    have B7 : Below w.heap.size w w7 := H6.out.2.trans (hM.below.mono H6.out.2.size)
    have o6_7 : Hid (w.heap.size ≤ γ 7) := Nat.le_trans H6.out.2.size (hM.fin (Nat.le_refl _) hl (i := 7) rfl).2.1
    have o6_8 : Hid (w.heap.size ≤ γ 8) := Nat.le_trans H6.out.2.size (hM.fin (Nat.le_refl _) hl (i := 8) rfl).2.1
    clear hM hl l H6
    generalize γ 7 = γ6_7 at M7 o6_7 ⊢
    generalize γ 8 = γ6_8 at M7 o6_8 ⊢
    clear γ
    have H7 : Hid (_ ∧ _) := ⟨M7, B7⟩
    clear M7 B7
    refine rest_at (l := []) rfl ?_
    refine rest_nil ?_
    refine then_normal ?_
    refine wp_seq ?_
    refine walk_put2 (by kernel_rfl) 8 [] [.quiet (N y), .quiet (N n), .quiet (N x), .quiet (N n), .quiet (N q), .quiet (N y), .call (N p), .call (N u)] (fun w' => Mm w' [(γ6_7, cells6 q), (γ6_8, cells6 t), (γ4_1, cells6 y), (γ3_0, cells6 x), (γ2_4, cells6 r), (γ2_5, cells6 s), (γ1_0, cells6 n), (γ1_1, cells6 a), (γ1_2, zero6)]) ?pre7 ?F7 _ ?hpre7 (fun γ => ?hF7) (by kernel_rfl) rfl ?hL7 ?hS7 ?ho7 ?hla7 ?he7
    case hpre7 =>
      simp only [List.take_succ_cons, List.take_zero]
      exact rfl
    case hF7 =>
      simp only [fill, Kind.val, Act.put, List.setIfInBounds_toArray, List.set_cons_zero, List.set_cons_succ]
      exact rfl
    case hL7 => exact trivial
    case hS7 => exact fun w' hb => H7.out.1.below hb
    case ho7 =>
      refine AllOk.cons ?_ ?_
      · exact fun γ => ⟨rfl, fun w' h => ex_load6 h 2 rfl rfl rfl rfl⟩
      refine AllOk.cons ?_ ?_
      · exact fun γ => ⟨rfl, fun w' h => ex_load6 h 6 rfl rfl rfl rfl⟩
      refine AllOk.cons ?_ ?_
      · exact fun γ => ⟨rfl, fun w' h => ex_load6 h 3 rfl rfl rfl rfl⟩
      refine AllOk.cons ?_ ?_
      · exact fun γ => ⟨rfl, fun w' h => ex_load6 h 6 rfl rfl rfl rfl⟩
      refine AllOk.cons ?_ ?_
      · exact fun γ => ⟨rfl, fun w' h => ex_load6 h 0 rfl rfl rfl rfl⟩
      refine AllOk.cons ?_ ?_
      · exact fun γ => ⟨rfl, fun w' h => ex_load6 h 2 rfl rfl rfl rfl⟩
      refine AllOk.cons ?_ ?_
      · exact fun γ => ⟨rfl, fun w' h => ⟨18, #[N n, N q, N y], exec_call rfl call18 rfl (by simp only [List.map_toArray, List.map_cons, List.map_nil]; rfl), CM.out w'⟩⟩
      refine AllOk.cons ?_ ?_
      · exact fun γ => ⟨rfl, fun w' h => ⟨14, #[N n, N x, N p], exec_call rfl call14 rfl (by simp only [List.map_toArray, List.map_cons, List.map_nil]; rfl), CS.out w'⟩⟩
      exact trivial
    case hla7 => exact rfl
    intro γ w8 l hM hl
    have M8 : Mm w8 [(γ6_7, cells6 q), (γ6_8, cells6 t), (γ4_1, cells6 y), (γ3_0, cells6 x), (γ2_4, cells6 r), (γ2_5, cells6 s), (γ1_0, cells6 n), (γ1_1, cells6 a), (γ1_2, zero6)] := H7.out.1.grow hM (Nat.le_refl _) hl [] rfl (by decide)
    have B8 : Below w.heap.size w w8 := H7.out.2.trans (hM.below.mono H7.out.2.size)
    clear hM hl l H7
    clear γ
    have H8 : Hid (_ ∧ _) := ⟨M8, B8⟩
    clear M8 B8
    have H9 : Hid (Mm (w8.setCells γ3_0 0 (cells6 y)) [(γ6_7, cells6 q), (γ6_8, cells6 t), (γ4_1, cells6 y), (γ3_0, cells6 y), (γ2_4, cells6 r), (γ2_5, cells6 s), (γ1_0, cells6 n), (γ1_1, cells6 a), (γ1_2, zero6)] ∧ Below w.heap.size w (w8.setCells γ3_0 0 (cells6 y))) := ⟨H8.out.1.put 3 (off := 0) (vs := cells6 y) rfl (Nat.le_of_ble_eq_true rfl), below_setCells _ o3_0.out _ _ _ H8.out.2⟩
    refine ⟨_, ex_store6 H8.out.1 3 rfl rfl rfl rfl (Nat.le_of_ble_eq_true rfl), trivial, ?_⟩
    clear H8
    generalize hgw : World.setCells _ _ _ _ = w9 at H9 ⊢
    clear hgw
    refine rest_at (l := [9]) rfl ?_
    refine rest_store rfl rfl rfl (ex_store6 H9.out.1 2 rfl rfl rfl rfl (Nat.le_of_ble_eq_true rfl)) ?_
    have H10 : Hid (Mm (w9.setCells γ4_1 0 (cells6 u)) [(γ6_7, cells6 q), (γ6_8, cells6 t), (γ4_1, cells6 u), (γ3_0, cells6 y), (γ2_4, cells6 r), (γ2_5, cells6 s), (γ1_0, cells6 n), (γ1_1, cells6 a), (γ1_2, zero6)] ∧ Below w.heap.size w (w9.setCells γ4_1 0 (cells6 u))) := ⟨H9.out.1.put 2 (off := 0) (vs := cells6 u) rfl (Nat.le_of_ble_eq_true rfl), below_setCells _ o4_1.out _ _ _ H9.out.2⟩
    clear H9
    generalize hgw : World.setCells _ _ _ _ = w10 at H10 ⊢
    clear hgw
    refine rest_nil ?_
    refine then_normal ?_
    refine walk_put2 (by kernel_rfl) 2 [1] [.quiet (N s), .quiet (N t)] (fun w' => Mm w' [(γ6_7, cells6 q), (γ6_8, cells6 t), (γ4_1, cells6 u), (γ3_0, cells6 y), (γ2_4, cells6 r), (γ2_5, cells6 s), (γ1_0, cells6 n), (γ1_1, cells6 a), (γ1_2, zero6)]) ?pre8 ?F8 _ ?hpre8 (fun γ => ?hF8) (by kernel_rfl) rfl ?hL8 ?hS8 ?ho8 ?hla8 ?he8
    case hpre8 =>
      simp only [List.take_succ_cons, List.take_zero]
      exact rfl
    case hF8 =>
      simp only [fill, Kind.val, Act.put, List.setIfInBounds_toArray, List.set_cons_zero, List.set_cons_succ]
      exact rfl
    case hL8 => exact trivial
    case hS8 => exact fun w' hb => H10.out.1.below hb
    case ho8 =>
      refine AllOk.cons ?_ ?_
      · exact fun γ => ⟨rfl, fun w' h => ex_load6 h 5 rfl rfl rfl rfl⟩
      refine AllOk.cons ?_ ?_
      · exact fun γ => ⟨rfl, fun w' h => ex_load6 h 1 rfl rfl rfl rfl⟩
      exact trivial
    case hla8 => exact rfl
    intro γ w11 l hM hl
    have M11 : Mm w11 [(γ6_7, cells6 q), (γ6_8, cells6 t), (γ4_1, cells6 u), (γ3_0, cells6 y), (γ2_4, cells6 r), (γ2_5, cells6 s), (γ1_0, cells6 n), (γ1_1, cells6 a), (γ1_2, zero6)] := H10.out.1.grow hM (Nat.le_refl _) hl [] rfl (by decide)
    have B11 : Below w.heap.size w w11 := H10.out.2.trans (hM.below.mono H10.out.2.size)
    clear hM hl l H10
    clear γ
    have H11 : Hid (_ ∧ _) := ⟨M11, B11⟩
    clear M11 B11
    have H12 : Hid (Mm (w11.setCells γ2_4 0 (cells6 s)) [(γ6_7, cells6 q), (γ6_8, cells6 t), (γ4_1, cells6 u), (γ3_0, cells6 y), (γ2_4, cells6 s), (γ2_5, cells6 s), (γ1_0, cells6 n), (γ1_1, cells6 a), (γ1_2, zero6)] ∧ Below w.heap.size w (w11.setCells γ2_4 0 (cells6 s))) := ⟨H11.out.1.put 4 (off := 0) (vs := cells6 s) rfl (Nat.le_of_ble_eq_true rfl), below_setCells _ o2_4.out _ _ _ H11.out.2⟩
    refine ⟨_, ex_store6 H11.out.1 4 rfl rfl rfl rfl (Nat.le_of_ble_eq_true rfl), ⟨⟨_, _, rfl, rfl, rfl, ex_load6 H12.out.1 1 rfl rfl rfl rfl⟩, trivial⟩, ?_⟩
    clear H11
    generalize hgw : World.setCells _ _ _ _ = w12 at H12 ⊢
    clear hgw
    refine rest_at (l := [3]) rfl ?_
    refine rest_store rfl rfl rfl (ex_store6 H12.out.1 5 rfl rfl rfl rfl (Nat.le_of_ble_eq_true rfl)) ?_
    have H13 : Hid (Mm (w12.setCells γ2_5 0 (cells6 t)) [(γ6_7, cells6 q), (γ6_8, cells6 t), (γ4_1, cells6 u), (γ3_0, cells6 y), (γ2_4, cells6 s), (γ2_5, cells6 t), (γ1_0, cells6 n), (γ1_1, cells6 a), (γ1_2, zero6)] ∧ Below w.heap.size w (w12.setCells γ2_5 0 (cells6 t))) := ⟨H12.out.1.put 5 (off := 0) (vs := cells6 t) rfl (Nat.le_of_ble_eq_true rfl), below_setCells _ o2_5.out _ _ _ H12.out.2⟩
    clear H12
    generalize hgw : World.setCells _ _ _ _ = w13 at H13 ⊢
    clear hgw
    refine rest_nil ?_
    refine block_normal ?_
    refine then_normal ?_
    exact ⟨⟨s, t, y, u⟩, ⟨(slotfn [undef, undef, undef, undef, undef, undef, undef, undef, undef, undef, PT γ6_7 0, PT γ6_8 0, .int .i64 0, undef, undef, undef, undef, undef, N s, N 0, .bool true, .tuple #[N q, N t, .int .i64 0], N r, N s, .tuple #[N q, N t, .int .i64 0], N q, N t, .int .i64 0, N y, N n, N x, N n, N q, N y, N p, N u, N s, N t]), rfl, ⟨H13.out.1.tail.tail, H13.out.2⟩, HN.out⟩, HS.out⟩
  obtain ⟨r, s, x, y⟩ := z
  have hE : RI n a r s x y := hk0
  have hs : s = 0 := Classical.byContradiction hlt
  have e0 := fun w => run_eqN s 0 (by rw [hs]; exact big_pos) big_pos w
  rw [decide_eq_true hs] at e0
  have hrg : r = Nat.gcd n a := by have h1 := hE.gcd; rwa [hs, Nat.gcd_zero_right] at h1
  have e9 := fun w => run_eqN r k1 (by have := hE.rn; have := ok.big; omega) (by rw [HK.out]; exact small_big 1 (by decide)) w
  rw [decide_eq_true (by rw [HK.out, hrg]; exact hg)] at e9
  have HX : Hid (x < n ∧ x * a % n = 1) := hE.last ok (by rw [hrg]; exact hg)
  clear hE hk0 hlt hs hrg
  refine wp_seq ?_
  refine wp_seq ?_
  refine walk_seq 3 [.quiet (N s), .quiet (N 0), .quiet (.bool false)] (fun w' => Mm w' [(γ4_1, cells6 y), (γ3_0, cells6 x), (γ2_4, cells6 r), (γ2_5, cells6 s), (γ1_0, cells6 n), (γ1_1, cells6 a), (γ1_2, zero6)]) ?pre9 ?F9 ?hpre9 (fun γ => ?hF9) (by kernel_rfl) ?hL9 ?hS9 ?ho9 ?he9
  case hpre9 =>
    simp only [List.take_succ_cons, List.take_zero]
    exact rfl
  case hF9 =>
    simp only [fill, Kind.val, Act.put, List.setIfInBounds_toArray, List.set_cons_zero, List.set_cons_succ]
    exact rfl
  case hL9 => exact trivial
  case hS9 => exact fun w' hb => H5.out.1.below hb
  case ho9 =>
    refine AllOk.cons ?_ ?_
    · exact fun γ => ⟨rfl, fun w' h => ex_load6 h 3 rfl rfl rfl rfl⟩
    refine AllOk.cons ?_ ?_
    · exact fun γ => ⟨rfl, fun w' _ => ex_zero6 rfl⟩
    refine AllOk.cons ?_ ?_
    · exact fun γ => ⟨rfl, fun w' _ => exec_neq6 e0 rfl rfl rfl⟩
    exact trivial
  intro γ w14 l hM hl
  have M14 : Mm w14 [(γ4_1, cells6 y), (γ3_0, cells6 x), (γ2_4, cells6 r), (γ2_5, cells6 s), (γ1_0, cells6 n), (γ1_1, cells6 a), (γ1_2, zero6)] := H5.out.1.grow hM (Nat.le_refl _) hl [] rfl (by decide)
  have B14 : Below w.heap.size w w14 := H5.out.2.trans (hM.below.mono H5.out.2.size)
  clear hM hl l H5
  clear γ
  have H14 : Hid (_ ∧ _) := ⟨M14, B14⟩
  clear M14 B14
  refine rest_at (l := []) rfl ?_
  refine rest_nil ?_
  refine then_normal ?_
  refine wp_cond_false rfl ?_
  refine wp_exit ?_
  repeat refine then_exit ?_
  refine block_exit ?_
  refine then_normal ?_
  refine wp_seq ?_
  refine wp_seq ?_
  refine walk_seq 3 [.quiet (N r), .quiet (N k1), .quiet (.bool false)] (fun w' => Mm w' [(γ4_1, cells6 y), (γ3_0, cells6 x), (γ2_4, cells6 r), (γ2_5, cells6 s), (γ1_0, cells6 n), (γ1_1, cells6 a), (γ1_2, zero6)]) ?pre10 ?F10 ?hpre10 (fun γ => ?hF10) (by kernel_rfl) ?hL10 ?hS10 ?ho10 ?he10
  case hpre10 =>
    simp only [List.take_succ_cons, List.take_zero]
    exact rfl
  case hF10 =>
    simp only [fill, Kind.val, Act.put, List.setIfInBounds_toArray, List.set_cons_zero, List.set_cons_succ]
    exact rfl
  case hL10 => exact trivial
  case hS10 => exact fun w' hb => H14.out.1.below hb
  case ho10 =>
    refine AllOk.cons ?_ ?_
    · exact fun γ => ⟨rfl, fun w' h => ex_load6 h 2 rfl rfl rfl rfl⟩
    refine AllOk.cons ?_ ?_
    · exact fun γ => ⟨rfl, fun w' _ => ex_build1' HK.out rfl rfl⟩
    refine AllOk.cons ?_ ?_
    · exact fun γ => ⟨rfl, fun w' _ => exec_neq6 e9 rfl rfl rfl⟩
    exact trivial
  intro γ w15 l hM hl
  have M15 : Mm w15 [(γ4_1, cells6 y), (γ3_0, cells6 x), (γ2_4, cells6 r), (γ2_5, cells6 s), (γ1_0, cells6 n), (γ1_1, cells6 a), (γ1_2, zero6)] := H14.out.1.grow hM (Nat.le_refl _) hl [] rfl (by decide)
  have B15 : Below w.heap.size w w15 := H14.out.2.trans (hM.below.mono H14.out.2.size)
  clear hM hl l H14
  clear γ
  have H15 : Hid (_ ∧ _) := ⟨M15, B15⟩
  clear M15 B15
  refine rest_at (l := []) rfl ?_
  refine rest_nil ?_
  refine then_normal ?_
  refine wp_cond_false rfl ?_
  refine wp_skip ?_
  refine then_normal ?_
  refine wp_seq ?_
  refine walk_seq 1 [.quiet (N x)] (fun w' => Mm w' [(γ4_1, cells6 y), (γ3_0, cells6 x), (γ2_4, cells6 r), (γ2_5, cells6 s), (γ1_0, cells6 n), (γ1_1, cells6 a), (γ1_2, zero6)]) ?pre11 ?F11 ?hpre11 (fun γ => ?hF11) (by kernel_rfl) ?hL11 ?hS11 ?ho11 ?he11
  case hpre11 =>
    simp only [List.take_succ_cons, List.take_zero]
    exact rfl
  case hF11 =>
    simp only [fill, Kind.val, Act.put, List.setIfInBounds_toArray, List.set_cons_zero, List.set_cons_succ]
    exact rfl
  case hL11 => exact trivial
  case hS11 => exact fun w' hb => H15.out.1.below hb
  case ho11 =>
    refine AllOk.cons ?_ ?_
    · exact fun γ => ⟨rfl, fun w' h => ex_load6 h 1 rfl rfl rfl rfl⟩
    exact trivial
  intro γ w16 l hM hl
  have M16 : Mm w16 [(γ4_1, cells6 y), (γ3_0, cells6 x), (γ2_4, cells6 r), (γ2_5, cells6 s), (γ1_0, cells6 n), (γ1_1, cells6 a), (γ1_2, zero6)] := H15.out.1.grow hM (Nat.le_refl _) hl [] rfl (by decide)
  have B16 : Below w.heap.size w w16 := H15.out.2.trans (hM.below.mono H15.out.2.size)
  clear hM hl l H15
  clear γ
  have H16 : Hid (_ ∧ _) := ⟨M16, B16⟩
  clear M16 B16
  refine rest_at (l := [1, 2]) rfl ?_
  refine rest_store rfl rfl rfl (ex_store6 H16.out.1 6 rfl rfl rfl rfl (Nat.le_of_ble_eq_true rfl)) ?_
  have H17 : Hid (Mm (w16.setCells γ1_2 0 (cells6 x)) [(γ4_1, cells6 y), (γ3_0, cells6 x), (γ2_4, cells6 r), (γ2_5, cells6 s), (γ1_0, cells6 n), (γ1_1, cells6 a), (γ1_2, cells6 x)] ∧ Below w.heap.size w (w16.setCells γ1_2 0 (cells6 x))) := ⟨H16.out.1.put 6 (off := 0) (vs := cells6 x) rfl (Nat.le_of_ble_eq_true rfl), below_setCells _ o1_2.out _ _ _ H16.out.2⟩
  clear H16
  generalize hgw : World.setCells _ _ _ _ = w17 at H17 ⊢
  clear hgw
  refine rest_set (d := 5) rfl rfl rfl rfl ?_
  simp only [Act.put, List.setIfInBounds_toArray, List.set_cons_zero, List.set_cons_succ]
  refine rest_nil ?_
  refine then_normal ?_
  refine wp_ret ?_
  repeat (first | refine then_ret ?_ | refine block_ret ?_)
  have c0 := H17.out.1.get 6 rfl 0 rfl
  have c1 := H17.out.1.get 6 rfl 1 rfl
  have c2 := H17.out.1.get 6 rfl 2 rfl
  have c3 := H17.out.1.get 6 rfl 3 rfl
  have c4 := H17.out.1.get 6 rfl 4 rfl
  have c5 := H17.out.1.get 6 rfl 5 rfl
  refine bodyPost_ret (v := .tuple #[N x, .int .i64 0]) (by simp [results, Tryd.results20, go_sem, *]) rfl ?_
  exact ⟨_, rfl, HX.out.1, HX.out.2, H17.out.2⟩
set_option maxHeartbeats 4000000 in
set_option maxRecDepth 100000 in
theorem rinv_bad {n a : Nat} (ok : Ok n) (sa0 z0 k1 : Nat) (hs0 : sa0 = a % n) (hz0 : z0 = 0) (hk1 : k1 = 1) (hg : Nat.gcd n a ≠ 1)
    (cr : ∀ w, Calls Tryd.prog 8 #[N n, N a] w fun e w' => e = .returned (N sa0) ∧ Below w.heap.size w w')
    (cd : ∀ r s, r ≤ n → s ≤ n → s ≠ 0 → ∀ w, Calls Tryd.prog 33 #[N r, N s] w fun e w' => e = .returned (.tuple #[N (r / s), N (r % s), .int .i64 0]) ∧ Below w.heap.size w w')
    (cp : ∀ p q, p ≤ n → q ≤ n → ∀ w, Calls Tryd.prog 18 #[N n, N p, N q] w fun e w' => e = .returned (N (p * q % n)) ∧ Below w.heap.size w w')
    (cq : ∀ p q, p ≤ n → q ≤ n → ∀ w, Calls Tryd.prog 14 #[N n, N p, N q] w fun e w' => e = .returned (N (subm n p q)) ∧ Below w.heap.size w w') (w : World) :
    Calls Tryd.prog 20 #[N n, N a] w fun e w' => e = .returned (.tuple #[N 0, .int .i64 6]) ∧ Below w.heap.size w w' := by
  have H0 : Hid (_ ∧ _) := ⟨Mm.nil w, Below.refl w.heap.size w⟩
  have CR : Hid _ := cr
  have CD : Hid _ := cd
  have CP : Hid _ := cp
  have CQ : Hid _ := cq
  have HR : Hid _ := hs0
  have HZ0 : Hid _ := hz0
  have HK : Hid _ := hk1
  have ZZ : Hid (zero6 = cells6 z0) := (by rw [hz0]; exact cells_zero.symm : zero6 = cells6 z0)
  clear cr cd cp cq hs0 hz0 hk1
  go_enter Tryd.func20, Tryd.ntmps20
  refine wp_seq ?_
  refine walk_seq 4 [.made (cells6 n) 24, .made (cells6 a) 24, .made zero6 24, .quiet (.int .i64 0)] (fun w' => Mm w' []) ?pre1 ?F1 ?hpre1 (fun γ => ?hF1) (by kernel_rfl) ?hL1 ?hS1 ?ho1 ?he1
  case hpre1 =>
    simp only [List.take_succ_cons, List.take_zero]
    exact rfl
  case hF1 =>
    simp only [fill, Kind.val, Act.put, List.setIfInBounds_toArray, List.set_cons_zero, List.set_cons_succ]
    exact rfl
  case hL1 => exact trivial
  case hS1 => exact fun w' hb => H0.out.1.below hb
  case ho1 =>
    refine AllOk.cons ?_ ?_
    · exact fun γ => ⟨rfl, fun w' => ex_box6 rfl rfl⟩
    refine AllOk.cons ?_ ?_
    · exact fun γ => ⟨rfl, fun w' => ex_box6 rfl rfl⟩
    refine AllOk.cons ?_ ?_
    · exact fun γ => ⟨rfl, fun w' => exec_made6 rfl⟩
    refine AllOk.cons ?_ ?_
    · exact fun γ => ⟨rfl, fun w' _ => rfl⟩
    exact trivial
  intro γ w1 l hM hl
  have M1 : Mm w1 [(γ 0, cells6 n), (γ 1, cells6 a), (γ 2, zero6)] := H0.out.1.grow hM (Nat.le_refl _) hl [0, 1, 2] rfl (by decide)
  have B1 : Below w.heap.size w w1 := H0.out.2.trans (hM.below.mono H0.out.2.size)
  have o1_0 : Hid (w.heap.size ≤ γ 0) := Nat.le_trans H0.out.2.size (hM.fin (Nat.le_refl _) hl (i := 0) rfl).2.1
  have o1_1 : Hid (w.heap.size ≤ γ 1) := Nat.le_trans H0.out.2.size (hM.fin (Nat.le_refl _) hl (i := 1) rfl).2.1
  have o1_2 : Hid (w.heap.size ≤ γ 2) := Nat.le_trans H0.out.2.size (hM.fin (Nat.le_refl _) hl (i := 2) rfl).2.1
  clear hM hl l
  generalize γ 0 = γ1_0 at M1 o1_0 ⊢
  generalize γ 1 = γ1_1 at M1 o1_1 ⊢
  generalize γ 2 = γ1_2 at M1 o1_2 ⊢
  clear γ
  have H1 : Hid (_ ∧ _) := ⟨M1, B1⟩
  clear M1 B1
  refine rest_at (l := []) rfl ?_
  refine rest_nil ?_
  refine then_normal ?_
  refine wp_seq ?_
  refine walk_any (by kernel_rfl) 8 [.quiet (N n), .quiet (N n), .quiet (N a), .call (N sa0), .made zero6 24, .made zero6 24, .laid 4 zero6 (cells6 n), .laid 5 zero6 (cells6 sa0)] (fun w' => Mm w' [(γ1_0, cells6 n), (γ1_1, cells6 a), (γ1_2, zero6)]) ?pre2 ?F2 ?hpre2 (fun γ => ?hF2) (by kernel_rfl) ?hL2 ?hS2 ?ho2 ?he2
  case hpre2 =>
    simp only [List.take_succ_cons, List.take_zero]
    exact rfl
  case hF2 =>
    simp only [fill, Kind.val, Act.put, List.setIfInBounds_toArray, List.set_cons_zero, List.set_cons_succ]
    exact rfl
  case hL2 => exact ⟨⟨_, rfl⟩, ⟨_, rfl⟩, trivial⟩
  case hS2 => exact fun w' hb => H1.out.1.below hb
  case ho2 =>
    refine AllOk.cons ?_ ?_
    · exact fun γ => ⟨rfl, fun w' h => ex_load6 h 0 rfl rfl rfl rfl⟩
    refine AllOk.cons ?_ ?_
    · exact fun γ => ⟨rfl, fun w' h => ex_load6 h 0 rfl rfl rfl rfl⟩
    refine AllOk.cons ?_ ?_
    · exact fun γ => ⟨rfl, fun w' h => ex_load6 h 1 rfl rfl rfl rfl⟩
    refine AllOk.cons ?_ ?_
    · exact fun γ => ⟨rfl, fun w' h => ⟨8, #[N n, N a], exec_call rfl call8 rfl (by simp only [List.map_toArray, List.map_cons, List.map_nil]; rfl), CR.out w'⟩⟩
    refine AllOk.cons ?_ ?_
    · exact fun γ => ⟨rfl, fun w' => exec_made6 rfl⟩
    refine AllOk.cons ?_ ?_
    · exact fun γ => ⟨rfl, fun w' => exec_made6 rfl⟩
    refine AllOk.cons ?_ ?_
    · exact fun γ => ⟨rfl, rfl, rfl, fun w' h => exec_laid6 h rfl rfl rfl⟩
    refine AllOk.cons ?_ ?_
    · exact fun γ => ⟨rfl, rfl, rfl, fun w' h => exec_laid6 h rfl rfl rfl⟩
    exact trivial
  intro γ w2 l hM hl
  have M2 : Mm w2 [(γ 4, cells6 n), (γ 5, cells6 sa0), (γ1_0, cells6 n), (γ1_1, cells6 a), (γ1_2, zero6)] := H1.out.1.grow hM (Nat.le_refl _) hl [4, 5] rfl (by decide)
  have B2 : Below w.heap.size w w2 := H1.out.2.trans (hM.below.mono H1.out.2.size)
  have o2_4 : Hid (w.heap.size ≤ γ 4) := Nat.le_trans H1.out.2.size (hM.fin (Nat.le_refl _) hl (i := 4) rfl).2.1
  have o2_5 : Hid (w.heap.size ≤ γ 5) := Nat.le_trans H1.out.2.size (hM.fin (Nat.le_refl _) hl (i := 5) rfl).2.1
  clear hM hl l H1
  generalize γ 4 = γ2_4 at M2 o2_4 ⊢
  generalize γ 5 = γ2_5 at M2 o2_5 ⊢
  clear γ
  have H2 : Hid (_ ∧ _) := ⟨M2, B2⟩
  clear M2 B2
  refine rest_at (l := []) rfl ?_
  refine rest_nil ?_
  refine then_normal ?_
  refine wp_seq ?_
  refine walk_seq 1 [.made zero6 24] (fun w' => Mm w' [(γ2_4, cells6 n), (γ2_5, cells6 sa0), (γ1_0, cells6 n), (γ1_1, cells6 a), (γ1_2, zero6)]) ?pre3 ?F3 ?hpre3 (fun γ => ?hF3) (by kernel_rfl) ?hL3 ?hS3 ?ho3 ?he3
  case hpre3 =>
    simp only [List.take_succ_cons, List.take_zero]
    exact rfl
  case hF3 =>
    simp only [fill, Kind.val, Act.put, List.setIfInBounds_toArray, List.set_cons_zero, List.set_cons_succ]
    exact rfl
  case hL3 => exact trivial
  case hS3 => exact fun w' hb => H2.out.1.below hb
  case ho3 =>
    refine AllOk.cons ?_ ?_
    · exact fun γ => ⟨rfl, fun w' => exec_made6 rfl⟩
    exact trivial
  intro γ w3 l hM hl
  have M3 : Mm w3 [(γ 0, zero6), (γ2_4, cells6 n), (γ2_5, cells6 sa0), (γ1_0, cells6 n), (γ1_1, cells6 a), (γ1_2, zero6)] := H2.out.1.grow hM (Nat.le_refl _) hl [0] rfl (by decide)
  have B3 : Below w.heap.size w w3 := H2.out.2.trans (hM.below.mono H2.out.2.size)
  have o3_0 : Hid (w.heap.size ≤ γ 0) := Nat.le_trans H2.out.2.size (hM.fin (Nat.le_refl _) hl (i := 0) rfl).2.1
  clear hM hl l H2
  generalize γ 0 = γ3_0 at M3 o3_0 ⊢
  clear γ
  have H3 : Hid (_ ∧ _) := ⟨M3, B3⟩
  clear M3 B3
  refine rest_at (l := []) rfl ?_
  refine rest_nil ?_
  refine then_normal ?_
  refine wp_seq ?_
  refine walk_seq 3 [.quiet (N k1), .made zero6 24, .laid 1 zero6 (cells6 k1)] (fun w' => Mm w' [(γ3_0, zero6), (γ2_4, cells6 n), (γ2_5, cells6 sa0), (γ1_0, cells6 n), (γ1_1, cells6 a), (γ1_2, zero6)]) ?pre4 ?F4 ?hpre4 (fun γ => ?hF4) (by kernel_rfl) ?hL4 ?hS4 ?ho4 ?he4
  case hpre4 =>
    simp only [List.take_succ_cons, List.take_zero]
    exact rfl
  case hF4 =>
    simp only [fill, Kind.val, Act.put, List.setIfInBounds_toArray, List.set_cons_zero, List.set_cons_succ]
    exact rfl
  case hL4 => exact ⟨⟨_, rfl⟩, trivial⟩
  case hS4 => exact fun w' hb => H3.out.1.below hb
  case ho4 =>
    refine AllOk.cons ?_ ?_
    · exact fun γ => ⟨rfl, fun w' _ => ex_build1' HK.out rfl rfl⟩
    refine AllOk.cons ?_ ?_
    · exact fun γ => ⟨rfl, fun w' => exec_made6 rfl⟩
    refine AllOk.cons ?_ ?_
    · exact fun γ => ⟨rfl, rfl, rfl, fun w' h => exec_laid6 h rfl rfl rfl⟩
    exact trivial
  intro γ w4 l hM hl
  have M4 : Mm w4 [(γ 1, cells6 k1), (γ3_0, zero6), (γ2_4, cells6 n), (γ2_5, cells6 sa0), (γ1_0, cells6 n), (γ1_1, cells6 a), (γ1_2, zero6)] := H3.out.1.grow hM (Nat.le_refl _) hl [1] rfl (by decide)
  have B4 : Below w.heap.size w w4 := H3.out.2.trans (hM.below.mono H3.out.2.size)
  have o4_1 : Hid (w.heap.size ≤ γ 1) := Nat.le_trans H3.out.2.size (hM.fin (Nat.le_refl _) hl (i := 1) rfl).2.1
  clear hM hl l H3
  generalize γ 1 = γ4_1 at M4 o4_1 ⊢
  clear γ
  have H4 : Hid (_ ∧ _) := ⟨M4, B4⟩
  clear M4 B4
  refine rest_at (l := []) rfl ?_
  refine rest_nil ?_
  refine then_normal ?_
  refine wp_seq ?_
  refine wp_block ?_
  refine loop_ghost (α := RS) (fun z a' w' => ∃ s0 : Nat → Value, a' = ⟨#[N n, N a, PT γ1_0 0, PT γ1_1 0, PT γ1_2 0, .int .i64 0, PT γ2_4 0, PT γ2_5 0, PT γ3_0 0, PT γ4_1 0, s0 10, s0 11, s0 12, N n, N n, N a, N sa0, N k1, s0 18, s0 19, s0 20, s0 21, s0 22, s0 23, s0 24, s0 25, s0 26, s0 27, s0 28, s0 29, s0 30, s0 31, s0 32, s0 33, s0 34, s0 35, s0 36, s0 37, undef, undef, undef, undef, undef], []⟩ ∧ (Mm w' [(γ4_1, cells6 z.y), (γ3_0, cells6 z.x), (γ2_4, cells6 z.r), (γ2_5, cells6 z.s), (γ1_0, cells6 n), (γ1_1, cells6 a), (γ1_2, zero6)] ∧ Below w.heap.size w w') ∧ RI n a z.r z.s z.x z.y) (fun z => z.s) ⟨n, sa0, z0, k1⟩ ?st0 ?rd0
  case st0 => exact ⟨(slotfn [undef, undef, undef, undef, undef, undef, undef, undef, undef, undef, undef, undef, undef, undef, undef, undef, undef, undef, undef, undef, undef, undef, undef, undef, undef, undef, undef, undef, undef, undef, undef, undef, undef, undef, undef, undef, undef, undef]), rfl, ⟨H4.out.1.at1 ZZ.out, H4.out.2⟩, by rw [HR.out, HZ0.out, HK.out]; exact RI.start ok⟩
  intro z a' w5 hI
  obtain ⟨s0, rfl, hMB, hk0⟩ := hI
  have H5 : Hid (_ ∧ _) := hMB
  clear hMB H4
  by_cases hlt : z.s ≠ 0
  · have hrd : True := trivial
    clear hrd
    obtain ⟨r, s, x, y⟩ := z
    have hE : RI n a r s x y := hk0
    have hs : s ≠ 0 := hlt
    have hbn := ok.big
    have e0 := fun w => run_eqN s 0 (by have := hE.sr; have := hE.rn; omega) big_pos w
    rw [decide_eq_false hs] at e0
    have cv : ∀ w, Calls Tryd.prog 33 #[N r, N s] w fun e w' => e = .returned (.tuple #[N (r / s), N (r % s), .int .i64 0]) ∧ Below w.heap.size w w' := CD.out r s hE.rn (by have := hE.sr; have := hE.rn; omega) hs
    have cm : ∀ w, Calls Tryd.prog 18 #[N n, N (r / s), N y] w fun e w' => e = .returned (N (r / s * y % n)) ∧ Below w.heap.size w w' := CP.out _ _ (Nat.le_trans (Nat.div_le_self _ _) hE.rn) (Nat.le_of_lt hE.yn)
    have cs : ∀ w, Calls Tryd.prog 14 #[N n, N x, N (r / s * y % n)] w fun e w' => e = .returned (N (subm n x (r / s * y % n))) ∧ Below w.heap.size w w' := CQ.out _ _ (Nat.le_of_lt hE.xn) (Nat.le_of_lt (Nat.mod_lt _ ok.pos))
    have HN : Hid _ := hE.next ok hs
    have HS : Hid (r % s < s) := Nat.mod_lt r (by omega)
    obtain ⟨q, hq⟩ : ∃ q, q = r / s := ⟨_, rfl⟩
    obtain ⟨t, ht⟩ : ∃ t, t = r % s := ⟨_, rfl⟩
    rw [← hq] at cv cm cs HN
    rw [← ht] at cv HN HS
    obtain ⟨p, hp⟩ : ∃ p, p = q * y % n := ⟨_, rfl⟩
    rw [← hp] at cm cs HN
    obtain ⟨u, hu⟩ : ∃ u, u = subm n x p := ⟨_, rfl⟩
    rw [← hu] at cs HN
    have CV : Hid _ := cv
    have CM : Hid _ := cm
    have CS : Hid _ := cs
    clear cv cm cs hE hk0 hq ht hp hu
    refine wp_seq ?_
    refine wp_seq ?_
    refine walk_seq 3 [.quiet (N s), .quiet (N 0), .quiet (.bool true)] (fun w' => Mm w' [(γ4_1, cells6 y), (γ3_0, cells6 x), (γ2_4, cells6 r), (γ2_5, cells6 s), (γ1_0, cells6 n), (γ1_1, cells6 a), (γ1_2, zero6)]) ?pre5 ?F5 ?hpre5 (fun γ => ?hF5) (by kernel_rfl) ?hL5 ?hS5 ?ho5 ?he5
    case hpre5 =>
      simp only [List.take_succ_cons, List.take_zero]
      exact rfl
    case hF5 =>
      simp only [fill, Kind.val, Act.put, List.setIfInBounds_toArray, List.set_cons_zero, List.set_cons_succ]
      exact rfl
    case hL5 => exact trivial
    case hS5 => exact fun w' hb => H5.out.1.below hb
    case ho5 =>
      refine AllOk.cons ?_ ?_
      · exact fun γ => ⟨rfl, fun w' h => ex_load6 h 3 rfl rfl rfl rfl⟩
      refine AllOk.cons ?_ ?_
      · exact fun γ => ⟨rfl, fun w' _ => ex_zero6 rfl⟩
      refine AllOk.cons ?_ ?_
      · exact fun γ => ⟨rfl, fun w' _ => exec_neq6 e0 rfl rfl rfl⟩
      exact trivial
    intro γ w6 l hM hl
    have M6 : Mm w6 [(γ4_1, cells6 y), (γ3_0, cells6 x), (γ2_4, cells6 r), (γ2_5, cells6 s), (γ1_0, cells6 n), (γ1_1, cells6 a), (γ1_2, zero6)] := H5.out.1.grow hM (Nat.le_refl _) hl [] rfl (by decide)
    have B6 : Below w.heap.size w w6 := H5.out.2.trans (hM.below.mono H5.out.2.size)
    clear hM hl l H5
    clear γ
    have H6 : Hid (_ ∧ _) := ⟨M6, B6⟩
    clear M6 B6
    refine rest_at (l := []) rfl ?_
    refine rest_nil ?_
    refine then_normal ?_
    refine wp_cond_true rfl ?_
    refine wp_skip ?_
    refine then_normal ?_
    refine wp_block ?_
    refine wp_seq ?_
    refine walk_seq 12 [.quiet (N r), .quiet (N s), .call (.tuple #[N q, N t, .int .i64 0]), .quiet (.tuple #[N q, N t, .int .i64 0]), .quiet (N q), .quiet (N t), .quiet (.int .i64 0), .made zero6 24, .made zero6 24, .laid 7 zero6 (cells6 q), .laid 8 zero6 (cells6 t), .quiet (.int .i64 0)] (fun w' => Mm w' [(γ4_1, cells6 y), (γ3_0, cells6 x), (γ2_4, cells6 r), (γ2_5, cells6 s), (γ1_0, cells6 n), (γ1_1, cells6 a), (γ1_2, zero6)]) ?pre6 ?F6 ?hpre6 (fun γ => ?hF6) (by kernel_rfl) ?hL6 ?hS6 ?ho6 ?he6
    case hpre6 =>
      simp only [List.take_succ_cons, List.take_zero]
      exact rfl
    case hF6 =>
      simp only [fill, Kind.val, Act.put, List.setIfInBounds_toArray, List.set_cons_zero, List.set_cons_succ]
      exact rfl
    case hL6 => exact ⟨⟨_, rfl⟩, ⟨_, rfl⟩, trivial⟩
    case hS6 => exact fun w' hb => H6.out.1.below hb
    case ho6 =>
      refine AllOk.cons ?_ ?_
      · exact fun γ => ⟨rfl, fun w' h => ex_load6 h 2 rfl rfl rfl rfl⟩
      refine AllOk.cons ?_ ?_
      · exact fun γ => ⟨rfl, fun w' h => ex_load6 h 3 rfl rfl rfl rfl⟩
      refine AllOk.cons ?_ ?_
      · exact fun γ => ⟨rfl, fun w' h => ⟨33, #[N r, N s], exec_call rfl call33 rfl (by simp only [List.map_toArray, List.map_cons, List.map_nil]; rfl), CV.out w'⟩⟩
      refine AllOk.cons ?_ ?_
      · exact fun γ => ⟨rfl, fun w' _ => rfl⟩
      refine AllOk.cons ?_ ?_
      · (refine fun γ => ⟨rfl, fun w' h => ?_⟩; clear h; go_simp)
      refine AllOk.cons ?_ ?_
      · (refine fun γ => ⟨rfl, fun w' h => ?_⟩; clear h; go_simp)
      refine AllOk.cons ?_ ?_
      · (refine fun γ => ⟨rfl, fun w' h => ?_⟩; clear h; go_simp)
      refine AllOk.cons ?_ ?_
      · exact fun γ => ⟨rfl, fun w' => exec_made6 rfl⟩
      refine AllOk.cons ?_ ?_
      · exact fun γ => ⟨rfl, fun w' => exec_made6 rfl⟩
      refine AllOk.cons ?_ ?_
      · exact fun γ => ⟨rfl, rfl, rfl, fun w' h => exec_laid6 h rfl rfl rfl⟩
      refine AllOk.cons ?_ ?_
      · exact fun γ => ⟨rfl, rfl, rfl, fun w' h => exec_laid6 h rfl rfl rfl⟩
      refine AllOk.cons ?_ ?_
      · exact fun γ => ⟨rfl, fun w' _ => rfl⟩
      exact trivial
    intro γ w7 l hM hl
    have M7 : Mm w7 [(γ 7, cells6 q), (γ 8, cells6 t), (γ4_1, cells6 y), (γ3_0, cells6 x), (γ2_4, cells6 r), (γ2_5, cells6 s), (γ1_0, cells6 n), (γ1_1, cells6 a), (γ1_2, zero6)] := H6.out.1.grow hM (Nat.le_refl _) hl [7, 8] rfl (by decide)
    have B7 : Below w.heap.size w w7 := H6.out.2.trans (hM.below.mono H6.out.2.size)
    have o6_7 : Hid (w.heap.size ≤ γ 7) := Nat.le_trans H6.out.2.size (hM.fin (Nat.le_refl _) hl (i := 7) rfl).2.1
    have o6_8 : Hid (w.heap.size ≤ γ 8) := Nat.le_trans H6.out.2.size (hM.fin (Nat.le_refl _) hl (i := 8) rfl).2.1
    clear hM hl l H6
    generalize γ 7 = γ6_7 at M7 o6_7 ⊢
    generalize γ 8 = γ6_8 at M7 o6_8 ⊢
    clear γ
    have H7 : Hid (_ ∧ _) := ⟨M7, B7⟩
    clear M7 B7
    refine rest_at (l := []) rfl ?_
    refine rest_nil ?_
    refine then_normal ?_
    refine wp_seq ?_
    refine walk_put2 (by kernel_rfl) 8 [] [.quiet (N y), .quiet (N n), .quiet (N x), .quiet (N n), .quiet (N q), .quiet (N y), .call (N p), .call (N u)] (fun w' => Mm w' [(γ6_7, cells6 q), (γ6_8, cells6 t), (γ4_1, cells6 y), (γ3_0, cells6 x), (γ2_4, cells6 r), (γ2_5, cells6 s), (γ1_0, cells6 n), (γ1_1, cells6 a), (γ1_2, zero6)]) ?pre7 ?F7 _ ?hpre7 (fun γ => ?hF7) (by kernel_rfl) rfl ?hL7 ?hS7 ?ho7 ?hla7 ?he7
    case hpre7 =>
      simp only [List.take_succ_cons, List.take_zero]
      exact rfl
    case hF7 =>
      simp only [fill, Kind.val, Act.put, List.setIfInBounds_toArray, List.set_cons_zero, List.set_cons_succ]
      exact rfl
    case hL7 => exact trivial
    case hS7 => exact fun w' hb => H7.out.1.below hb
    case ho7 =>
      refine AllOk.cons ?_ ?_
      · exact fun γ => ⟨rfl, fun w' h => ex_load6 h 2 rfl rfl rfl rfl⟩
      refine AllOk.cons ?_ ?_
      · exact fun γ => ⟨rfl, fun w' h => ex_load6 h 6 rfl rfl rfl rfl⟩
      refine AllOk.cons ?_ ?_
      · exact fun γ => ⟨rfl, fun w' h => ex_load6 h 3 rfl rfl rfl rfl⟩
      refine AllOk.cons ?_ ?_
      · exact fun γ => ⟨rfl, fun w' h => ex_load6 h 6 rfl rfl rfl rfl⟩
      refine AllOk.cons ?_ ?_
      · exact fun γ => ⟨rfl, fun w' h => ex_load6 h 0 rfl rfl rfl rfl⟩
      refine AllOk.cons ?_ ?_
      · exact fun γ => ⟨rfl, fun w' h => ex_load6 h 2 rfl rfl rfl rfl⟩
      refine AllOk.cons ?_ ?_
      · exact fun γ => ⟨rfl, fun w' h => ⟨18, #[N n, N q, N y], exec_call rfl call18 rfl (by simp only [List.map_toArray, List.map_cons, List.map_nil]; rfl), CM.out w'⟩⟩
      refine AllOk.cons ?_ ?_
      · exact fun γ => ⟨rfl, fun w' h => ⟨14, #[N n, N x, N p], exec_call rfl call14 rfl (by simp only [List.map_toArray, List.map_cons, List.map_nil]; rfl), CS.out w'⟩⟩
      exact trivial
    case hla7 => exact rfl
    intro γ w8 l hM hl
    have M8 : Mm w8 [(γ6_7, cells6 q), (γ6_8, cells6 t), (γ4_1, cells6 y), (γ3_0, cells6 x), (γ2_4, cells6 r), (γ2_5, cells6 s), (γ1_0, cells6 n), (γ1_1, cells6 a), (γ1_2, zero6)] := H7.out.1.grow hM (Nat.le_refl _) hl [] rfl (by decide)
    have B8 : Below w.heap.size w w8 := H7.out.2.trans (hM.below.mono H7.out.2.size)
    clear hM hl l H7
    clear γ
    have H8 : Hid (_ ∧ _) := ⟨M8, B8⟩
    clear M8 B8
    have H9 : Hid (Mm (w8.setCells γ3_0 0 (cells6 y)) [(γ6_7, cells6 q), (γ6_8, cells6 t), (γ4_1, cells6 y), (γ3_0, cells6 y), (γ2_4, cells6 r), (γ2_5, cells6 s), (γ1_0, cells6 n), (γ1_1, cells6 a), (γ1_2, zero6)] ∧ Below w.heap.size w (w8.setCells γ3_0 0 (cells6 y))) := ⟨H8.out.1.put 3 (off := 0) (vs := cells6 y) rfl (Nat.le_of_ble_eq_true rfl), below_setCells _ o3_0.out _ _ _ H8.out.2⟩
    refine ⟨_, ex_store6 H8.out.1 3 rfl rfl rfl rfl (Nat.le_of_ble_eq_true rfl), trivial, ?_⟩
    clear H8
    generalize hgw : World.setCells _ _ _ _ = w9 at H9 ⊢
    clear hgw
    refine rest_at (l := [9]) rfl ?_
    refine rest_store rfl rfl rfl (ex_store6 H9.out.1 2 rfl rfl rfl rfl (Nat.le_of_ble_eq_true rfl)) ?_
    have H10 : Hid (Mm (w9.setCells γ4_1 0 (cells6 u)) [(γ6_7, cells6 q), (γ6_8, cells6 t), (γ4_1, cells6 u), (γ3_0, cells6 y), (γ2_4, cells6 r), (γ2_5, cells6 s), (γ1_0, cells6 n), (γ1_1, cells6 a), (γ1_2, zero6)] ∧ Below w.heap.size w (w9.setCells γ4_1 0 (cells6 u))) := ⟨H9.out.1.put 2 (off := 0) (vs := cells6 u) rfl (Nat.le_of_ble_eq_true rfl), below_setCells _ o4_1.out _ _ _ H9.out.2⟩
    clear H9
    generalize hgw : World.setCells _ _ _ _ = w10 at H10 ⊢
    clear hgw
    refine rest_nil ?_
    refine then_normal ?_
    refine walk_put2 (by kernel_rfl) 2 [1] [.quiet (N s), .quiet (N t)] (fun w' => Mm w' [(γ6_7, cells6 q), (γ6_8, cells6 t), (γ4_1, cells6 u), (γ3_0, cells6 y), (γ2_4, cells6 r), (γ2_5, cells6 s), (γ1_0, cells6 n), (γ1_1, cells6 a), (γ1_2, zero6)]) ?pre8 ?F8 _ ?hpre8 (fun γ => ?hF8) (by kernel_rfl) rfl ?hL8 ?hS8 ?ho8 ?hla8 ?he8
    case hpre8 =>
      simp only [List.take_succ_cons, List.take_zero]
      exact rfl
    case hF8 =>
      simp only [fill, Kind.val, Act.put, List.setIfInBounds_toArray, List.set_cons_zero, List.set_cons_succ]
      exact rfl
    case hL8 => exact trivial
    case hS8 => exact fun w' hb => H10.out.1.below hb
    case ho8 =>
      refine AllOk.cons ?_ ?_
      · exact fun γ => ⟨rfl, fun w' h => ex_load6 h 5 rfl rfl rfl rfl⟩
      refine AllOk.cons ?_ ?_
      · exact fun γ => ⟨rfl, fun w' h => ex_load6 h 1 rfl rfl rfl rfl⟩
      exact trivial
    case hla8 => exact rfl
    intro γ w11 l hM hl
    have M11 : Mm w11 [(γ6_7, cells6 q), (γ6_8, cells6 t), (γ4_1, cells6 u), (γ3_0, cells6 y), (γ2_4, cells6 r), (γ2_5, cells6 s), (γ1_0, cells6 n), (γ1_1, cells6 a), (γ1_2, zero6)] := H10.out.1.grow hM (Nat.le_refl _) hl [] rfl (by decide)
    have B11 : Below w.heap.size w w11 := H10.out.2.trans (hM.below.mono H10.out.2.size)
    clear hM hl l H10
    clear γ
    have H11 : Hid (_ ∧ _) := ⟨M11, B11⟩
    clear M11 B11
    have H12 : Hid (Mm (w11.setCells γ2_4 0 (cells6 s)) [(γ6_7, cells6 q), (γ6_8, cells6 t), (γ4_1, cells6 u), (γ3_0, cells6 y), (γ2_4, cells6 s), (γ2_5, cells6 s), (γ1_0, cells6 n), (γ1_1, cells6 a), (γ1_2, zero6)] ∧ Below w.heap.size w (w11.setCells γ2_4 0 (cells6 s))) := ⟨H11.out.1.put 4 (off := 0) (vs := cells6 s) rfl (Nat.le_of_ble_eq_true rfl), below_setCells _ o2_4.out _ _ _ H11.out.2⟩
    refine ⟨_, ex_store6 H11.out.1 4 rfl rfl rfl rfl (Nat.le_of_ble_eq_true rfl), ⟨⟨_, _, rfl, rfl, rfl, ex_load6 H12.out.1 1 rfl rfl rfl rfl⟩, trivial⟩, ?_⟩
    clear H11
    generalize hgw : World.setCells _ _ _ _ = w12 at H12 ⊢
    clear hgw
    refine rest_at (l := [3]) rfl ?_
    refine rest_store rfl rfl rfl (ex_store6 H12.out.1 5 rfl rfl rfl rfl (Nat.le_of_ble_eq_true rfl)) ?_
    have H13 : Hid (Mm (w12.setCells γ2_5 0 (cells6 t)) [(γ6_7, cells6 q), (γ6_8, cells6 t), (γ4_1, cells6 u), (γ3_0, cells6 y), (γ2_4, cells6 s), (γ2_5, cells6 t), (γ1_0, cells6 n), (γ1_1, cells6 a), (γ1_2, zero6)] ∧ Below w.heap.size w (w12.setCells γ2_5 0 (cells6 t))) := ⟨H12.out.1.put 5 (off := 0) (vs := cells6 t) rfl (Nat.le_of_ble_eq_true rfl), below_setCells _ o2_5.out _ _ _ H12.out.2⟩
    clear H12
    generalize hgw : World.setCells _ _ _ _ = w13 at H13 ⊢
    clear hgw
    refine rest_nil ?_
    refine block_normal ?_
    refine then_normal ?_
    exact ⟨⟨s, t, y, u⟩, ⟨(slotfn [undef, undef, undef, undef, undef, undef, undef, undef, undef, undef, PT γ6_7 0, PT γ6_8 0, .int .i64 0, undef, undef, undef, undef, undef, N s, N 0, .bool true, .tuple #[N q, N t, .int .i64 0], N r, N s, .tuple #[N q, N t, .int .i64 0], N q, N t, .int .i64 0, N y, N n, N x, N n, N q, N y, N p, N u, N s, N t]), rfl, ⟨H13.out.1.tail.tail, H13.out.2⟩, HN.out⟩, HS.out⟩
  obtain ⟨r, s, x, y⟩ := z
  have hE : RI n a r s x y := hk0
  have hs : s = 0 := Classical.byContradiction hlt
  have e0 := fun w => run_eqN s 0 (by rw [hs]; exact big_pos) big_pos w
  rw [decide_eq_true hs] at e0
  have hrg : r = Nat.gcd n a := by have h1 := hE.gcd; rwa [hs, Nat.gcd_zero_right] at h1
  have e9 := fun w => run_eqN r k1 (by have := hE.rn; have := ok.big; omega) (by rw [HK.out]; exact small_big 1 (by decide)) w
  rw [decide_eq_false (by rw [HK.out, hrg]; exact hg)] at e9
  clear hE hk0 hlt hs hrg
  refine wp_seq ?_
  refine wp_seq ?_
  refine walk_seq 3 [.quiet (N s), .quiet (N 0), .quiet (.bool false)] (fun w' => Mm w' [(γ4_1, cells6 y), (γ3_0, cells6 x), (γ2_4, cells6 r), (γ2_5, cells6 s), (γ1_0, cells6 n), (γ1_1, cells6 a), (γ1_2, zero6)]) ?pre9 ?F9 ?hpre9 (fun γ => ?hF9) (by kernel_rfl) ?hL9 ?hS9 ?ho9 ?he9
  case hpre9 =>
    simp only [List.take_succ_cons, List.take_zero]
    exact rfl
  case hF9 =>
    simp only [fill, Kind.val, Act.put, List.setIfInBounds_toArray, List.set_cons_zero, List.set_cons_succ]
    exact rfl
  case hL9 => exact trivial
  case hS9 => exact fun w' hb => H5.out.1.below hb
  case ho9 =>
    refine AllOk.cons ?_ ?_
    · exact fun γ => ⟨rfl, fun w' h => ex_load6 h 3 rfl rfl rfl rfl⟩
    refine AllOk.cons ?_ ?_
    · exact fun γ => ⟨rfl, fun w' _ => ex_zero6 rfl⟩
    refine AllOk.cons ?_ ?_
    · exact fun γ => ⟨rfl, fun w' _ => exec_neq6 e0 rfl rfl rfl⟩
    exact trivial
  intro γ w14 l hM hl
  have M14 : Mm w14 [(γ4_1, cells6 y), (γ3_0, cells6 x), (γ2_4, cells6 r), (γ2_5, cells6 s), (γ1_0, cells6 n), (γ1_1, cells6 a), (γ1_2, zero6)] := H5.out.1.grow hM (Nat.le_refl _) hl [] rfl (by decide)
  have B14 : Below w.heap.size w w14 := H5.out.2.trans (hM.below.mono H5.out.2.size)
  clear hM hl l H5
  clear γ
  have H14 : Hid (_ ∧ _) := ⟨M14, B14⟩
  clear M14 B14
  refine rest_at (l := []) rfl ?_
  refine rest_nil ?_
  refine then_normal ?_
  refine wp_cond_false rfl ?_
  refine wp_exit ?_
  repeat refine then_exit ?_
  refine block_exit ?_
  refine then_normal ?_
  refine wp_seq ?_
  refine wp_seq ?_
  refine walk_seq 3 [.quiet (N r), .quiet (N k1), .quiet (.bool true)] (fun w' => Mm w' [(γ4_1, cells6 y), (γ3_0, cells6 x), (γ2_4, cells6 r), (γ2_5, cells6 s), (γ1_0, cells6 n), (γ1_1, cells6 a), (γ1_2, zero6)]) ?pre10 ?F10 ?hpre10 (fun γ => ?hF10) (by kernel_rfl) ?hL10 ?hS10 ?ho10 ?he10
  case hpre10 =>
    simp only [List.take_succ_cons, List.take_zero]
    exact rfl
  case hF10 =>
    simp only [fill, Kind.val, Act.put, List.setIfInBounds_toArray, List.set_cons_zero, List.set_cons_succ]
    exact rfl
  case hL10 => exact trivial
  case hS10 => exact fun w' hb => H14.out.1.below hb
  case ho10 =>
    refine AllOk.cons ?_ ?_
    · exact fun γ => ⟨rfl, fun w' h => ex_load6 h 2 rfl rfl rfl rfl⟩
    refine AllOk.cons ?_ ?_
    · exact fun γ => ⟨rfl, fun w' _ => ex_build1' HK.out rfl rfl⟩
    refine AllOk.cons ?_ ?_
    · exact fun γ => ⟨rfl, fun w' _ => exec_neq6 e9 rfl rfl rfl⟩
    exact trivial
  intro γ w15 l hM hl
  have M15 : Mm w15 [(γ4_1, cells6 y), (γ3_0, cells6 x), (γ2_4, cells6 r), (γ2_5, cells6 s), (γ1_0, cells6 n), (γ1_1, cells6 a), (γ1_2, zero6)] := H14.out.1.grow hM (Nat.le_refl _) hl [] rfl (by decide)
  have B15 : Below w.heap.size w w15 := H14.out.2.trans (hM.below.mono H14.out.2.size)
  clear hM hl l H14
  clear γ
  have H15 : Hid (_ ∧ _) := ⟨M15, B15⟩
  clear M15 B15
  refine rest_at (l := []) rfl ?_
  refine rest_nil ?_
  refine then_normal ?_
  refine wp_cond_true rfl ?_
  refine wp_seq ?_
  refine walk_seq 1 [.quiet (N 0)] (fun w' => Mm w' [(γ4_1, cells6 y), (γ3_0, cells6 x), (γ2_4, cells6 r), (γ2_5, cells6 s), (γ1_0, cells6 n), (γ1_1, cells6 a), (γ1_2, zero6)]) ?pre11 ?F11 ?hpre11 (fun γ => ?hF11) (by kernel_rfl) ?hL11 ?hS11 ?ho11 ?he11
  case hpre11 =>
    simp only [List.take_succ_cons, List.take_zero]
    exact rfl
  case hF11 =>
    simp only [fill, Kind.val, Act.put, List.setIfInBounds_toArray, List.set_cons_zero, List.set_cons_succ]
    exact rfl
  case hL11 => exact trivial
  case hS11 => exact fun w' hb => H15.out.1.below hb
  case ho11 =>
    refine AllOk.cons ?_ ?_
    · exact fun γ => ⟨rfl, fun w' _ => ex_zero6 rfl⟩
    exact trivial
  intro γ w16 l hM hl
  have M16 : Mm w16 [(γ4_1, cells6 y), (γ3_0, cells6 x), (γ2_4, cells6 r), (γ2_5, cells6 s), (γ1_0, cells6 n), (γ1_1, cells6 a), (γ1_2, zero6)] := H15.out.1.grow hM (Nat.le_refl _) hl [] rfl (by decide)
  have B16 : Below w.heap.size w w16 := H15.out.2.trans (hM.below.mono H15.out.2.size)
  clear hM hl l H15
  clear γ
  have H16 : Hid (_ ∧ _) := ⟨M16, B16⟩
  clear M16 B16
  refine rest_at (l := [1, 2]) rfl ?_
  refine rest_store rfl rfl rfl (ex_store6 H16.out.1 6 rfl rfl rfl rfl (Nat.le_of_ble_eq_true rfl)) ?_
  have H17 : Hid (Mm (w16.setCells γ1_2 0 (cells6 0)) [(γ4_1, cells6 y), (γ3_0, cells6 x), (γ2_4, cells6 r), (γ2_5, cells6 s), (γ1_0, cells6 n), (γ1_1, cells6 a), (γ1_2, cells6 0)] ∧ Below w.heap.size w (w16.setCells γ1_2 0 (cells6 0))) := ⟨H16.out.1.put 6 (off := 0) (vs := cells6 0) rfl (Nat.le_of_ble_eq_true rfl), below_setCells _ o1_2.out _ _ _ H16.out.2⟩
  clear H16
  generalize hgw : World.setCells _ _ _ _ = w17 at H17 ⊢
  clear hgw
  refine rest_set (d := 5) rfl rfl rfl rfl ?_
  simp only [Act.put, List.setIfInBounds_toArray, List.set_cons_zero, List.set_cons_succ]
  refine rest_nil ?_
  refine then_normal ?_
  refine wp_ret ?_
  repeat (first | refine then_ret ?_ | refine block_ret ?_)
  have c0 := H17.out.1.get 6 rfl 0 rfl
  have c1 := H17.out.1.get 6 rfl 1 rfl
  have c2 := H17.out.1.get 6 rfl 2 rfl
  have c3 := H17.out.1.get 6 rfl 3 rfl
  have c4 := H17.out.1.get 6 rfl 4 rfl
  have c5 := H17.out.1.get 6 rfl 5 rfl
  refine bodyPost_ret (v := .tuple #[N 0, .int .i64 6]) (by simp [results, Tryd.results20, go_sem, *]) rfl ?_
  exact ⟨rfl, H17.out.2⟩
end Rg
end Go.Proofs.YtfmjfgkgoenhnaaDoor
end
section
namespace Go.Proofs.YtfmjfgkgoenhnaaDoor
open Go.RowKit
namespace Rg
theorem eq_refl7 {v : Nat} (h : v < big) (w : World) : (Op.equalIn 10000 24 (N v) (N v)).run Tryd.prog w = .ok true w := by
  rw [run_eqN v v h h, decide_eq_true rfl]
/-! The greatest common divisor, by dividing on and on. -/
def fib2 : Nat → Nat × Nat
  | 0 => (0, 1)
  | k + 1 => ((fib2 k).2, (fib2 k).1 + (fib2 k).2)
structure ES where
  i : Nat
  d : Nat
  r : Nat
structure EI (n a i d r : Nat) : Prop where
  rd : r < d
  dn : d ≤ n
  gcd : Nat.gcd d r = Nat.gcd n a
  fib : (fib2 i).2 * d + (fib2 i).1 * r ≤ n
theorem EI.start {n a : Nat} (ok : Ok n) : EI n a 0 n (a % n) := by
  refine ⟨Nat.mod_lt _ ok.pos, Nat.le_refl _, ?_, ?_⟩
  · rw [Nat.gcd_comm n (a % n), ← Nat.gcd_rec, Nat.gcd_comm]
  · show 1 * n + 0 * (a % n) ≤ n
    omega
theorem EI.next {n a i d r : Nat} (h : EI n a i d r) (hr : r ≠ 0) : EI n a (i + 1) r (d % r) := by
  have h1 := h.rd
  have h2 := h.dn
  refine ⟨Nat.mod_lt _ (by omega), by omega, ?_, ?_⟩
  · rw [Nat.gcd_comm r (d % r), ← Nat.gcd_rec, Nat.gcd_comm r d]; exact h.gcd
  · show ((fib2 i).1 + (fib2 i).2) * r + (fib2 i).2 * (d % r) ≤ n
    refine Nat.le_trans ?_ h.fib
    have h3 := Nat.div_add_mod d r
    have h4 : 1 ≤ d / r := Nat.div_pos (by omega) (by omega)
    have h5 : r * 1 ≤ r * (d / r) := Nat.mul_le_mul_left r h4
    have h6 : (fib2 i).2 * (r + d % r) ≤ (fib2 i).2 * d := Nat.mul_le_mul_left _ (by omega)
    rw [Nat.mul_add] at h6
    rw [Nat.add_mul]
    omega
theorem fib_mono : ∀ i j, i ≤ j → (fib2 i).2 ≤ (fib2 j).2 := by
  intro i j h
  induction j with
  | zero => rw [show i = 0 by omega]; exact Nat.le_refl _
  | succ j ih =>
    rcases Nat.lt_or_ge j i with h' | h'
    · rw [show i = j + 1 by omega]; exact Nat.le_refl _
    · have := ih h'
      show (fib2 i).2 ≤ (fib2 j).1 + (fib2 j).2
      omega
theorem fib_big : big ≤ (fib2 600).2 := by
  rw [big_eq]
  decide +kernel
theorem EI.lt {n a i d r : Nat} (ok : Ok n) (h : EI n a i d r) : i < 600 := by
  rcases Nat.lt_or_ge i 600 with h' | h'
  · exact h'
  · have h1 := fib_mono 600 i h'
    have h2 := fib_big
    have h3 := h.fib
    have h4 := h.rd
    have h5 : (fib2 i).2 * 1 ≤ (fib2 i).2 * d := Nat.mul_le_mul_left _ (by omega)
    have h6 := ok.big
    omega
theorem EI.last {n a i d r : Nat} (h : EI n a i d r) (hr : r = 0) : d = Nat.gcd n a := by
  have := h.gcd
  rwa [hr, Nat.gcd_zero_right] at this
theorem inv_ex {n a : Nat} (ok : Ok n) (hg : Nat.gcd n a = 1) : ∃ x, x < n ∧ x * a % n = 1 := by
  have key : ∀ (m : Nat) (z : WS), z.o + z.r = m → WI n a z → ∃ x, x < n ∧ x * a % n = 1 := by
    intro m
    induction m using Nat.strongRecOn with
    | _ m ih =>
      intro z hz I
      obtain ⟨o, r, u, v, h, t⟩ := z
      simp only at hz
      by_cases hr : r = 0
      · subst hr
        have ho : o = 1 := by
          have h1 : Nat.gcd o 0 = Nat.gcd n a := I.gcd
          rw [Nat.gcd_zero_right] at h1
          rw [h1]; exact hg
        cases t with
        | true => exact ⟨_, Nat.mod_lt _ ok.pos, end_true ok I ho⟩
        | false => exact ⟨_, Nat.mod_lt _ ok.pos, end_false ok I ho⟩
      · have hrb : r < big := by have h1 : r ≤ n := I.rn; have := ok.big; omega
        obtain ⟨k, r1, hk, er, hr1, _⟩ := trailing_any hrb hr
        obtain ⟨p1, p2, _⟩ := I.facts hr er
        obtain ⟨i1, i2⟩ := I.next hr er hr1
        have hle : r1 ≤ r := by rw [er]; exact Nat.le_mul_of_pos_right _ (Nat.two_pow_pos k)
        by_cases hl : r1 < o
        · exact ih (r1 + (o - r1)) (by omega) _ rfl (i1 hl)
        · exact ih (o + (r1 - o)) (by omega) _ rfl (i2 hl)
  exact key _ ⟨n, a % n, 0, 1, 0, false⟩ rfl (WI.start ok)
theorem invm_spec {n a : Nat} (ok : Ok n) (hg : Nat.gcd n a = 1) : invm n a < n ∧ invm n a * a % n = 1 := by
  obtain ⟨x, hx, h1⟩ := inv_ex ok hg
  rw [invm_eq hx h1]
  exact ⟨hx, h1⟩
end Rg
end Go.Proofs.YtfmjfgkgoenhnaaDoor
end
section
namespace Go.Proofs.YtfmjfgkgoenhnaaDoor
open Go.RowKit
/-- Byte k of a number, the lowest first. -/
def bt (a k : Nat) : Nat := a / 2 ^ (8 * k) % 256
theorem part_bits (V d p : Nat) : (V >>> (64 * (p / 64)) % 2 ^ 64) ||| (d <<< (p % 64) % 2 ^ 64) = (d <<< p ||| V) >>> (64 * (p / 64)) % 2 ^ 64 := by
  apply Nat.eq_of_testBit_eq
  intro i
  simp only [Nat.testBit_or, Nat.testBit_mod_two_pow, Nat.testBit_shiftLeft, Nat.testBit_shiftRight]
  by_cases hi : i < 64
  · by_cases hk : p % 64 ≤ i
    · have e1 : p ≤ 64 * (p / 64) + i := by omega
      have e2 : 64 * (p / 64) + i - p = i - p % 64 := by omega
      simp [hi, hk, e1, e2, Bool.or_comm]
    · have e1 : ¬ p ≤ 64 * (p / 64) + i := by omega
      simp [hi, hk, e1]
  · simp [hi]
end Go.Proofs.YtfmjfgkgoenhnaaDoor
end
section
namespace Go.Proofs.YtfmjfgkgoenhnaaDoor
open Go.RowKit
end Go.Proofs.YtfmjfgkgoenhnaaDoor
end
section
namespace Go.Proofs.YtfmjfgkgoenhnaaDoor
open Go.RowKit
/-- What is left, and what went in, when the bits from k on have been taken. -/
def dvr (a b k : Nat) : Nat := a / 2 ^ k % b
def dvq (a b k : Nat) : Nat := a / 2 ^ k / b * 2 ^ k
theorem dv_step (a b i : Nat) (hb : 0 < b) : (b ≤ 2 * dvr a b (i + 1) + a / 2 ^ i % 2 ∧ dvr a b i = 2 * dvr a b (i + 1) + a / 2 ^ i % 2 - b ∧ dvq a b i = dvq a b (i + 1) + 2 ^ i) ∨
    (2 * dvr a b (i + 1) + a / 2 ^ i % 2 < b ∧ dvr a b i = 2 * dvr a b (i + 1) + a / 2 ^ i % 2 ∧ dvq a b i = dvq a b (i + 1)) := by
  have e1 : a / 2 ^ i = 2 * (a / 2 ^ (i + 1)) + a / 2 ^ i % 2 := by
    rw [Nat.pow_succ, ← Nat.div_div_eq_div_mul]; omega
  have e2 := Nat.div_add_mod (a / 2 ^ (i + 1)) b
  have e3 := Nat.mod_lt (a / 2 ^ (i + 1)) hb
  have e4 : a / 2 ^ i % 2 < 2 := Nat.mod_lt _ (by decide)
  unfold dvr dvq
  generalize a / 2 ^ (i + 1) = A at e1 e2 e3 ⊢
  generalize ha : a / 2 ^ i = A2 at e1 e4 ⊢
  generalize hq : A / b = q at e2 ⊢
  generalize hr : A % b = r at e2 e3 ⊢
  generalize A2 % 2 = e at e1 e4 ⊢
  have e5 : A2 = 2 * r + e + b * (2 * q) := by
    rw [show b * (2 * q) = 2 * (b * q) by rw [Nat.mul_left_comm]]; omega
  have e6 : q * 2 ^ (i + 1) = 2 * q * 2 ^ i := by rw [Nat.pow_succ, ← Nat.mul_assoc, Nat.mul_comm (q * 2 ^ i), ← Nat.mul_assoc]
  rcases Nat.lt_or_ge (2 * r + e) b with h | h
  · right
    rw [e5, Nat.add_mul_mod_self_left, Nat.mod_eq_of_lt h, Nat.add_mul_div_left _ _ hb, Nat.div_eq_of_lt h, Nat.zero_add, e6]
    exact ⟨h, rfl, rfl⟩
  · left
    have e7 : A2 = (2 * r + e - b) + b * (2 * q + 1) := by rw [e5, Nat.mul_add]; omega
    have e8 : 2 * r + e - b < b := by omega
    rw [e7, Nat.add_mul_mod_self_left, Nat.mod_eq_of_lt e8, Nat.add_mul_div_left _ _ hb, Nat.div_eq_of_lt e8, Nat.zero_add, e6, Nat.add_mul, Nat.one_mul]
    exact ⟨h, rfl, rfl⟩
theorem dvr_lt (a b k : Nat) (hb : 0 < b) : dvr a b k < b := Nat.mod_lt _ hb
theorem dv_start (a b m : Nat) (ha : a < 2 ^ m) : dvr a b m = 0 ∧ dvq a b m = 0 := by
  unfold dvr dvq
  rw [Nat.div_eq_of_lt ha, Nat.zero_mod, Nat.zero_div, Nat.zero_mul]
  exact ⟨rfl, rfl⟩
theorem dv_end (a b : Nat) : dvr a b 0 = a % b ∧ dvq a b 0 = a / b := by
  unfold dvr dvq
  simp
theorem dvq_or (a b i : Nat) : dvq a b (i + 1) + 2 ^ i = 2 ^ i ||| dvq a b (i + 1) := by
  unfold dvq
  have h := Nat.shiftLeft_add_eq_or_of_lt (b := 2 ^ i) (i := i + 1) (Nat.pow_lt_pow_right (by decide) (Nat.lt_succ_self i)) (a / 2 ^ (i + 1) / b)
  rw [Nat.shiftLeft_eq] at h
  rw [h, Nat.or_comm]
theorem or_other (V p j : Nat) (hj : j ≠ p / 64) : wd (2 ^ p ||| V) j = wd V j := by
  rw [wd_shr, wd_shr]
  congr 1
  apply Nat.eq_of_testBit_eq
  intro i
  simp only [Nat.testBit_or, Nat.testBit_mod_two_pow, Nat.testBit_shiftRight, Nat.testBit_two_pow]
  by_cases hi : i < 64
  · have : ¬ p = 64 * j + i := by omega
    simp [this]
  · simp [hi]
theorem or_word (V p : Nat) : bits .or .u64 (wd V (p / 64)) (IntKind.u64.wrap (2 ^ (p % 64))) = wd (2 ^ p ||| V) (p / 64) := by
  have h1 := part_bits V 1 p
  have h2 := wrap_shl 1 (p % 64)
  rw [show ((1 : Nat) : Int) * 2 ^ (p % 64) = 2 ^ (p % 64) by rw [show ((1 : Nat) : Int) = 1 from rfl, Int.one_mul]] at h2
  rw [h2, wd_shr, wd_shr, show 2 ^ p = 1 <<< p by rw [Nat.shiftLeft_eq, Nat.one_mul], ← h1]
  exact bits_or_u64_nat _ _ (Nat.mod_lt _ (by decide)) (Nat.mod_lt _ (by decide))
theorem set_or (V p j : Nat) : upd (wd V) (p / 64) (bits .or .u64 (wd V (p / 64)) (IntKind.u64.wrap (2 ^ (p % 64)))) j = wd (2 ^ p ||| V) j := by
  unfold upd
  by_cases h : j = p / 64
  · rw [if_pos h, h, or_word]
  · rw [if_neg h, or_other V p j h]
/-- The lowest bit laid into an even number. -/
theorem low_bit (r e : Nat) (he : e < 2) (j : Nat) : upd (wd ((r + r) % big)) 0 (bits .or .u64 (wd ((r + r) % big) 0) (e : Int)) j = wd ((r + r) % big + e) j := by
  have hev : (r + r) % big = ((r + r) % big / 2) * 2 ^ 1 := by
    have : (r + r) % big % 2 = 0 := by
      obtain ⟨n, hn, eb⟩ := big_pow
      rw [eb, show 64 * n = 64 * n - 1 + 1 by omega, Nat.pow_succ, Nat.mod_mul_left_mod]
      omega
    omega
  generalize (r + r) % big / 2 = d at hev
  rw [hev]
  have hor : d * 2 ^ 1 + e = d <<< 1 ||| e := by
    rw [← Nat.shiftLeft_eq, Nat.shiftLeft_add_eq_or_of_lt (by omega)]
  rw [hor, ← Nat.shiftLeft_eq]
  unfold upd
  by_cases h : j = 0
  · subst h
    rw [if_pos rfl]
    rw [wd_shr, wd_shr]
    have e1 : (d <<< 1 ||| e) >>> (64 * 0) % 2 ^ 64 = (d <<< 1 >>> (64 * 0) % 2 ^ 64) ||| e := by
      apply Nat.eq_of_testBit_eq
      intro i
      simp only [Nat.testBit_or, Nat.testBit_mod_two_pow, Nat.testBit_shiftRight]
      by_cases hi : i < 64
      · simp [hi]
      · have : e.testBit i = false := Nat.testBit_lt_two_pow (Nat.lt_of_lt_of_le he (by
          calc 2 = 2 ^ 1 := rfl
            _ ≤ 2 ^ i := Nat.pow_le_pow_right (by decide) (by omega)))
        simp [hi, this]
    rw [e1]
    exact bits_or_u64_nat _ _ (Nat.mod_lt _ (by decide)) (by omega)
  · rw [if_neg h, wd_shr, wd_shr]
    congr 1
    apply Nat.eq_of_testBit_eq
    intro i
    simp only [Nat.testBit_or, Nat.testBit_mod_two_pow, Nat.testBit_shiftRight]
    have : e.testBit (64 * j + i) = false := Nat.testBit_lt_two_pow (Nat.lt_of_lt_of_le he (by
      calc 2 = 2 ^ 1 := rfl
        _ ≤ 2 ^ (64 * j + i) := Nat.pow_le_pow_right (by decide) (by omega)))
    simp [this]
/-- The top bit. -/
theorem top_one (r : Nat) (hr : r < big) : (wd r 5 / 9223372036854775808 == 1) = decide (big ≤ 2 * r) := by
  obtain ⟨n, hn, eb⟩ := big_pow
  obtain ⟨m, hm⟩ : ∃ m : Nat, m = 5 := ⟨5, rfl⟩
  rw [eb] at hr ⊢
  rw [← hm]
  have e0 : (18446744073709551616 : Nat) = 2 ^ 64 := by decide
  have e2 : 2 ^ (64 * n) = 2 ^ (64 * m) * 18446744073709551616 := by
    rw [e0, ← Nat.pow_add, show 64 * m + 64 = 64 * n by omega]
  rw [e2] at hr ⊢
  have e1 : r / 2 ^ (64 * m) < 18446744073709551616 := Nat.div_lt_of_lt_mul hr
  unfold wd
  rw [Nat.mod_eq_of_lt e1]
  have h1 := Nat.div_add_mod r (2 ^ (64 * m))
  have h2 := Nat.mod_lt r (Nat.two_pow_pos (64 * m))
  clear e0 e2 eb hn hr
  generalize hA : r / 2 ^ (64 * m) = A at h1 e1 ⊢
  generalize r % 2 ^ (64 * m) = B at h1 h2
  generalize 2 ^ (64 * m) = M at h1 h2 ⊢
  have hi : ((A : Nat) : Int) / 9223372036854775808 = ((A / 9223372036854775808 : Nat) : Int) := by omega
  rw [hi]
  obtain ⟨H, hH⟩ : ∃ H : Nat, H = 9223372036854775808 := ⟨_, rfl⟩
  have hH2 : 18446744073709551616 = 2 * H := by omega
  rw [hH2, ← hH, Nat.mul_left_comm]
  by_cases c : H ≤ A
  · have hd : A / H = 1 := by rw [hH]; omega
    have hm : M * H ≤ M * A := Nat.mul_le_mul_left _ c
    rw [hd, decide_eq_true (by omega)]
    rfl
  · have hd : A / H = 0 := Nat.div_eq_of_lt (by omega)
    have hm : M * (A + 1) ≤ M * H := Nat.mul_le_mul_left _ (by omega)
    rw [Nat.mul_add, Nat.mul_one] at hm
    rw [hd, decide_eq_false (by omega)]
    rfl
end Go.Proofs.YtfmjfgkgoenhnaaDoor
end
section
namespace Go.Proofs.YtfmjfgkgoenhnaaDoor
open Go.RowKit
section
variable {P : Program} {ops : Array Oper} {ks : List Kind} {a₀ : Act} {w₀ : World} {Q : Exit → Act → World → Prop}
theorem none_ready {l : Array Bool} (hl : ∀ i, i < ops.size → l.getD i false = true) : Region.ready .any ops l = [] := by
  refine List.eq_nil_iff_forall_not_mem.2 fun i hi => ?_
  obtain ⟨h1, o, ho, _⟩ := mem_ready.1 hi
  have h2 := hl i (Array.getElem?_eq_some_iff.1 ho).1
  rcases Nat.lt_or_ge i l.size with h' | h'
  · simp [h'] at h1 h2
    rw [h1] at h2
    cases h2
  · simp [Array.getElem?_eq_none h'] at h2
theorem any_done {l : Array Bool} {a : Act} {w : World} (hr : Region.ready .any ops l = []) (h : Q .normal a w) : ∀ fuel, wpAny P .any ops Q fuel l a w
  | 0 => ⟨hr, h⟩
  | _ + 1 => ⟨fun _ => h, by rw [hr]; simp⟩
set_option maxHeartbeats 1000000 in
theorem any_last {n p : Nat} {op : Oper} (hO : Orderly ops ks n) (hn : n = a₀.tmps.size) (hL : LaidOk ks ks) {S : World → Prop} (hS : ∀ w, Below w₀.heap.size w₀ w → S w)
    (hp : ops[p]? = some op) (hlen : p + 1 = ops.size) (hdst : op.dst = none) (hkp : ks[p]? = some .gone) (hwt : ∀ j, j < p → waits op j = true)
    (hops : AllOk P ops S (fun γ => fill γ 0 ops.toList ks a₀) (ops.toList.take p) ks)
    (hlast : ∀ γ w l, Mem ks w₀ l γ w → (∀ i, i < p → l.getD i false = true) → ∀ K' : Act → World → Prop, (∀ a w, Q .normal a w → K' a w) →
      if Region.wanted op (yielded ops (fill γ 0 ops.toList ks a₀).tmps) = true then Oper.wp P op (fill γ 0 ops.toList ks a₀) w K' Q else K' ((fill γ 0 ops.toList ks a₀).put op.dst undef) w) :
    ∀ (fuel : Nat) (l : Array Bool) (γ : Nat → Nat) (a : Act) (w : World), l.size = ops.size → l.toList.count false ≤ fuel → l.getD p true = false → Agree ops ks a₀ l γ a → Mem ks w₀ l γ w → wpAny P .any ops Q fuel l a w := by
  intro fuel
  induction fuel with
  | zero =>
    intro l γ a w hsz hc hpu hA hM
    have h1 := count_set hpu
    omega
  | succ fuel ih =>
    intro l γ a w hsz hc hpu hA hM
    refine ⟨fun hr => ?_, fun i hi => ?_⟩
    · exfalso
      have hall := all_listed hO hsz hr p (by omega)
      rw [(getD_same hpu).1] at hall
      cases hall
    · obtain ⟨hun, o, ho, hedge⟩ := mem_ready.1 hi
      have hilt : i < ops.size := (Array.getElem?_eq_some_iff.1 ho).1
      by_cases hip : i = p
      · subst hip
        rw [hp] at ho
        injection ho with ho
        subst ho
        have hoth : ∀ j, j < i → l.getD j false = true := fun j hj => waits_spec (hwt j hj) hedge
        have hwh : a = fill γ 0 ops.toList ks a₀ := by
          have ht : a.tmps = (fill γ 0 ops.toList ks a₀).tmps := Array.ext_getElem? fun d =>
            hA.slots d (fun j oj hj hd => by
              have hjl := (Array.getElem?_eq_some_iff.1 hj).1
              rcases Nat.lt_or_ge j i with h' | h'
              · exact hoth j h'
              · have : j = i := by omega
                subst this
                rw [hp] at hj
                injection hj with hj
                subst hj
                rw [hdst] at hd
                cases hd)
          have hd : a.defers = (fill γ 0 ops.toList ks a₀).defers := by rw [hA.defers, fill_defers]
          cases a
          cases hf : fill γ 0 ops.toList ks a₀
          rw [hf] at ht hd
          simp only at ht hd
          rw [ht, hd]
        refine wpOp_step hp (fun K' hK => ?_)
        rw [hwh]
        refine hlast γ w l hM hoth K' (fun a' w' hq => hK a' w' (any_done (none_ready (fun j hj => ?_)) hq fuel))
        rcases Nat.lt_or_ge j i with h' | h'
        · exact getD_true (hoth j h')
        · have : j = i := by omega
          subst this
          exact (getD_same hun).2
      · obtain ⟨k, hk⟩ := kind_at hO ho
        have hok := hops.at (by rw [List.getElem?_take, if_pos (by omega)]; simpa using ho) hk
        obtain ⟨he, hw⟩ := hA.sees hO ho hedge
        have hc' := count_set hun
        have hpu' : (l.setIfInBounds i true).getD p true = false := by rw [getD_set_ne true hip]; exact hpu
        have next : ∀ (γ' : Nat → Nat) (w' : World), (∀ j, j ≠ i → γ' j = γ j) → Mem ks w₀ (l.setIfInBounds i true) γ' w' → wpAny P .any ops Q fuel (l.setIfInBounds i true) (a.put o.dst (k.val γ' i)) w' := fun γ' w' hγ hM' =>
          ih _ γ' _ w' (by simp [hsz]) (by omega) hpu' (hA.step hO hn ho hk hγ) hM'
        refine wpOp_step ho (fun K' hK => ?_)
        rw [hw]
        cases k using Kind.each with
        | quiet v =>
          obtain ⟨h1, h2⟩ := hok γ
          rw [if_pos h1]
          unfold Oper.wp
          rw [he, h2 w (hS w hM.below)]
          exact hK _ _ (next γ w (fun _ _ => rfl) (hM.still (Below.refl _ _) hk (fun _ _ h => by cases h) (fun _ _ _ h => by cases h)))
        | gone =>
          rw [if_neg (by rw [hok γ]; decide)]
          exact hK _ _ (next γ w (fun _ _ => rfl) (hM.still (Below.refl _ _) hk (fun _ _ h => by cases h) (fun _ _ _ h => by cases h)))
        | call v =>
          obtain ⟨h1, h2⟩ := hok γ
          rw [if_pos h1]
          obtain ⟨f, args, h3, h4⟩ := h2 w (hS w hM.below)
          unfold Oper.wp
          rw [he, h3]
          refine Calls.mono h4 ?_
          rintro e w' ⟨rfl, hb⟩
          exact hK _ _ (next γ w' (fun _ _ => rfl) (hM.still hb hk (fun _ _ h => by cases h) (fun _ _ _ h => by cases h)))
        | made zs t =>
          obtain ⟨h1, h2⟩ := hok γ
          rw [if_pos h1]
          unfold Oper.wp
          rw [he, h2 w]
          have := next _ _ (fun j hj => if_neg hj) (hM.make hk hun)
          simp only [Kind.val, if_pos] at this
          exact hK _ _ this
        | laid j zs cs =>
          obtain ⟨h1, h2, h3, h4⟩ := hok γ
          rw [if_pos h1]
          have hli : l.getD j false = true := waits_spec (hO.laid ho hk) hedge
          obtain ⟨hr, hM'⟩ := hM.lay hO hL ho hk h3 hun hli
          unfold Oper.wp
          rw [he, h4 w hr]
          exact hK _ _ (next γ _ (fun _ _ => rfl) hM')
/-- The law, the last operation left to the walk. -/
theorem region_last {id : Nat} {a : Act} {w : World} (hm : P.follows .mixedOrders = true) (ks : List Kind) (S : World → Prop) (F : (Nat → Nat) → Act) {p : Nat} (op : Oper)
    (hF : ∀ γ, fill γ 0 ops.toList ks a = F γ) (hor : orderly ops ks a.tmps.size = true) (hL : LaidOk ks ks) (hS : ∀ w', Below w.heap.size w w' → S w')
    (hp : ops[p]? = some op) (hlen : p + 1 = ops.size) (hdst : op.dst = none) (hkp : ks[p]? = some .gone) (hwt : ((List.range p).all fun j => waits op j) = true)
    (hops : AllOk P ops S F (ops.toList.take p) ks)
    (hlast : ∀ γ w' l, Mem ks w l γ w' → (∀ i, i < p → l.getD i false = true) → ∀ K' : Act → World → Prop, Hid (∀ a w, Q .normal a w → K' a w) →
      if Region.wanted op (yielded ops (F γ).tmps) = true then Oper.wp P op (F γ) w' K' Q else K' ((F γ).put op.dst undef) w') : (Code.region id ops true).wp P Q a w := by
  obtain rfl : (fun γ => fill γ 0 ops.toList ks a) = F := funext hF
  have none_listed : ∀ i, (Array.replicate ops.size false).getD i false = false := fun i => by
    rcases Nat.lt_or_ge i ops.size with h | h <;> simp [h]
  refine wp_region_any hm (any_last (Orderly.of hor) rfl hL hS hp hlen hdst hkp (fun j hj => List.all_eq_true.1 hwt j (List.mem_range.2 hj)) hops (fun γ w' l h1 h2 K' hK => hlast γ w' l h1 h2 K' hK) ops.size _ (fun _ => 0) a w.drew (by simp) (by simp) (by simp [show p < ops.size by omega]) ⟨rfl, rfl, fun d hd => ?_⟩ ?_)
  · have hno : ∀ o' ∈ ops.toList, o'.dst ≠ some d := fun o' ho' hd' => by
      obtain ⟨j, hj, ej⟩ := List.getElem_of_mem ho'
      have := hd j o' (by rw [← Array.getElem?_toList, List.getElem?_eq_getElem hj, ej]) hd'
      rw [none_listed] at this
      cases this
    rw [fill_other _ d 0 _ _ _ hno]
  · refine ⟨(Below.refl _ _).drew, ?_, ?_, ?_, ?_, ?_⟩
    · intro i zs t _ h; rw [none_listed] at h; cases h
    · intro i zs t _ h; rw [none_listed] at h; cases h
    · intro s i zs cs _ h; rw [none_listed] at h; cases h
    · intro s i zs cs _ h; rw [none_listed] at h; cases h
    · intro i j zs t zs' t' _ _ h; rw [none_listed] at h; cases h
end
end Go.Proofs.YtfmjfgkgoenhnaaDoor
end
section
namespace Go.Proofs.YtfmjfgkgoenhnaaDoor
open Go.RowKit
theorem Row.six {w : World} {g : Nat} {f : Nat → Int} (h : Row w g 6 f) (v : Nat) : Row ((((((w.setCell ⟨g, 0, none⟩ (.int .u64 (wd v 0))).setCell ⟨g, 1, none⟩ (.int .u64 (wd v 1))).setCell ⟨g, 2, none⟩ (.int .u64 (wd v 2))).setCell ⟨g, 3, none⟩ (.int .u64 (wd v 3))).setCell ⟨g, 4, none⟩ (.int .u64 (wd v 4))).setCell ⟨g, 5, none⟩ (.int .u64 (wd v 5))) g 6 (wd v) := by
  refine ((((((h.set (k := 0) (wd v 0)).set (k := 1) (wd v 1)).set (k := 2) (wd v 2)).set (k := 3) (wd v 3)).set (k := 4) (wd v 4)).set (k := 5) (wd v 5)).congr (fun j hj => ?_)
  match j, hj with
  | 0, _ => rfl
  | 1, _ => rfl
  | 2, _ => rfl
  | 3, _ => rfl
  | 4, _ => rfl
  | 5, _ => rfl
theorem Row.past6v {w : World} {g g' n : Nat} {f : Nat → Int} (h : Row w g n f) (v : Nat) (hg : g' ≠ g) : Row ((((((w.setCell ⟨g', 0, none⟩ (.int .u64 (wd v 0))).setCell ⟨g', 1, none⟩ (.int .u64 (wd v 1))).setCell ⟨g', 2, none⟩ (.int .u64 (wd v 2))).setCell ⟨g', 3, none⟩ (.int .u64 (wd v 3))).setCell ⟨g', 4, none⟩ (.int .u64 (wd v 4))).setCell ⟨g', 5, none⟩ (.int .u64 (wd v 5))) g n f :=
  (((((h.set_other _ hg).set_other _ hg).set_other _ hg).set_other _ hg).set_other _ hg).set_other _ hg
/-- The memory of the document's Divide: a, b, two results, q, r. -/
structure DS (w wr : World) (a b q r : Nat) : Prop where
  sz : w.heap.size + 1 + 1 + 1 + 1 + 1 < wr.heap.size
  ra : Row wr w.heap.size 6 (wd a)
  rb : Row wr (w.heap.size + 1) 6 (wd b)
  z2 : Row wr (w.heap.size + 1 + 1) 6 (fun _ => 0)
  z3 : Row wr (w.heap.size + 1 + 1 + 1) 6 (fun _ => 0)
  rq : Row wr (w.heap.size + 1 + 1 + 1 + 1) 6 (wd q)
  rr : Row wr (w.heap.size + 1 + 1 + 1 + 1 + 1) 6 (wd r)
  bl : Below w.heap.size w wr
theorem DS.below {w wr w1 : World} {a b q r : Nat} (h : DS w wr a b q r) (hb : Below wr.heap.size wr w1) : DS w w1 a b q r :=
  have s := h.sz
  ⟨Nat.lt_of_lt_of_le h.sz hb.size, Row.below hb h.ra (by omega), Row.below hb h.rb (by omega), Row.below hb h.z2 (by omega), Row.below hb h.z3 (by omega), Row.below hb h.rq (by omega), Row.below hb h.rr (by omega), h.bl.trans (hb.mono h.bl.size)⟩
theorem DS.drew {w wr : World} {a b q r : Nat} (h : DS w wr a b q r) : DS w wr.drew a b q r := ⟨h.sz, h.ra.drew, h.rb.drew, h.z2.drew, h.z3.drew, h.rq.drew, h.rr.drew, h.bl.drew⟩
theorem DS.rws {w wr : World} {a b q r : Nat} (h : DS w wr a b q r) : Rws wr [(w.heap.size + 1 + 1 + 1 + 1 + 1, r), (w.heap.size, a)] := by
  intro g v hm
  have s := h.sz
  simp only [List.mem_cons, Prod.mk.injEq, List.not_mem_nil, or_false] at hm
  rcases hm with ⟨rfl, rfl⟩ | ⟨rfl, rfl⟩
  · exact ⟨s, h.rr⟩
  · exact ⟨by omega, h.ra⟩
theorem DS.six {w wr : World} {a b q r : Nat} (h : DS w wr a b q r) (v : Nat) : DS w ((((((wr.setCell ⟨(w.heap.size + 1 + 1 + 1 + 1 + 1), 0, none⟩ (.int .u64 (wd v 0))).setCell ⟨(w.heap.size + 1 + 1 + 1 + 1 + 1), 1, none⟩ (.int .u64 (wd v 1))).setCell ⟨(w.heap.size + 1 + 1 + 1 + 1 + 1), 2, none⟩ (.int .u64 (wd v 2))).setCell ⟨(w.heap.size + 1 + 1 + 1 + 1 + 1), 3, none⟩ (.int .u64 (wd v 3))).setCell ⟨(w.heap.size + 1 + 1 + 1 + 1 + 1), 4, none⟩ (.int .u64 (wd v 4))).setCell ⟨(w.heap.size + 1 + 1 + 1 + 1 + 1), 5, none⟩ (.int .u64 (wd v 5))) a b q v :=
  ⟨by simpa using h.sz, h.ra.past6v v (by omega), h.rb.past6v v (by omega), h.z2.past6v v (by omega), h.z3.past6v v (by omega), h.rq.past6v v (by omega), h.rr.six v, below6 h.bl (by omega) _ _ _ _ _ _⟩
theorem DS.low {w wr : World} {a b q r : Nat} (h : DS w wr a b q r) {x : Int} {v : Nat} (hv : ∀ j, upd (wd r) 0 x j = wd v j) : DS w (wr.setCell ⟨w.heap.size + 1 + 1 + 1 + 1 + 1, 0, none⟩ (.int .u64 x)) a b q v :=
  ⟨by simpa using h.sz, h.ra.set_other _ (by simp <;> omega), h.rb.set_other _ (by simp <;> omega), h.z2.set_other _ (by simp <;> omega), h.z3.set_other _ (by simp <;> omega), h.rq.set_other _ (by simp <;> omega), (h.rr.set _).congr (fun j _ => hv j), h.bl.setCell (by simp <;> omega) _⟩
theorem DS.bit {w wr : World} {a b q r : Nat} (h : DS w wr a b q r) {x : Int} {k v : Nat} (hv : ∀ j, upd (wd q) k x j = wd v j) : DS w (wr.setCell ⟨w.heap.size + 1 + 1 + 1 + 1, k, none⟩ (.int .u64 x)) a b v r :=
  ⟨by simpa using h.sz, h.ra.set_other _ (by simp <;> omega), h.rb.set_other _ (by simp <;> omega), h.z2.set_other _ (by simp <;> omega), h.z3.set_other _ (by simp <;> omega), (h.rq.set _).congr (fun j _ => hv j), h.rr.set_other _ (by simp <;> omega), h.bl.setCell (by simp <;> omega) _⟩
set_option maxHeartbeats 4000000 in
set_option maxRecDepth 100000 in
theorem divide_ref_some (a b : Nat) (ha : a < big) (hb : b < big) (hb0 : b ≠ 0) (w : World) :
    Calls Tryd.prog 33 #[N a, N b] w fun e w' => e = .returned (.tuple #[N (a / b), N (a % b), .int .i64 0]) ∧ Below w.heap.size w w' := by
  have he := fun w => run_eqZ b hb w
  rw [decide_eq_false hb0] at he
  have CB : Hid _ := fun (i : Nat) (hi : i < 384) w => bit_ref_in a i hi w
  have HA : Hid (a < 2 ^ 384) := by
    obtain ⟨n, hn, e⟩ := big_pow
    show a < 2 ^ 384
    rw [e, show 64 * n = 384 by omega] at ha
    exact ha
  have HB : Hid (b < big ∧ 0 < b) := ⟨hb, by omega⟩
  clear ha hb hb0
  go_enter Tryd.func33, Tryd.ntmps33
  go_wp2
  clear he
  go_loopw [9] (fun i wr => ∃ k : Nat, k ≤ 384 ∧ i = .int .i64 ((k : Int) - 1) ∧ DS w wr a b (dvq a b k) (dvr a b k)) (fun i _ => (RowKit.intOf i + 1).toNat)
  case atStart =>
    obtain ⟨e1, e2⟩ := dv_start a b 384 HA.out
    refine ⟨384, by omega, rfl, ?_⟩
    rw [e1, e2]
    refine ⟨by simp, ?_, ?_, ?_, ?_, ?_, ?_, ?_⟩
    · exact ((((((Row.new w _ 24 rfl (six_lt rfl)).alloc (by simp) _).alloc (by first | (simp; done) | (simp; omega)) _).alloc (by first | (simp; done) | (simp; omega)) _).alloc (by first | (simp; done) | (simp; omega)) _).alloc (by first | (simp; done) | (simp; omega)) _)
    · exact (((((Row.new _ _ 24 (by simp) (six_lt rfl)).alloc (by simp) _).alloc (by first | (simp; done) | (simp; omega)) _).alloc (by first | (simp; done) | (simp; omega)) _).alloc (by first | (simp; done) | (simp; omega)) _)
    · exact ((((Row.new _ _ 24 (by simp) (six_lt (f := fun _ => 0) rfl)).alloc (by simp) _).alloc (by first | (simp; done) | (simp; omega)) _).alloc (by first | (simp; done) | (simp; omega)) _)
    · exact (((Row.new _ _ 24 (by simp) (six_lt (f := fun _ => 0) rfl)).alloc (by simp) _).alloc (by first | (simp; done) | (simp; omega)) _)
    · exact (((Row.new _ _ 24 (by simp) (six_lt (f := fun _ => 0) rfl)).congr (fun j _ => (wd_zero j).symm)).alloc (by simp) _)
    · exact (Row.new _ _ 24 (by simp) (six_lt (f := fun _ => 0) rfl)).congr (fun j _ => (wd_zero j).symm)
    · exact ((((((Below.refl _ _).alloc (Nat.le_refl _) _).alloc (by simp) _).alloc (by first | (simp; done) | (simp; omega)) _).alloc (by first | (simp; done) | (simp; omega)) _).alloc (by first | (simp; done) | (simp; omega)) _).alloc (by first | (simp; done) | (simp; omega)) _
  case round =>
    obtain ⟨k, hk, rfl, hD⟩ := hrel
    by_cases h0 : 1 ≤ k
    · obtain ⟨i, rfl⟩ : ∃ i, k = i + 1 := ⟨k - 1, by omega⟩
      rw [show (((i + 1 : Nat) : Int) - 1) = (i : Int) by omega]
      have st := dv_step a b i HB.out.2
      have hor := dvq_or a b i
      have hrb := dvr_lt a b (i + 1) HB.out.2
      have cb := fun w => CB.out i (by omega) w
      have hev : ∃ e : Nat, e < 2 ∧ bitv a i = (e : Int) ∧ a / 2 ^ i % 2 = e := ⟨a / 2 ^ i % 2, Nat.mod_lt _ (by decide), rfl, rfl⟩
      obtain ⟨e, he2, heb, hea⟩ := hev
      rw [hea] at st
      rw [heb] at cb
      have CBi : Hid _ := cb
      have ec : IntKind.u64.wrap (e : Int) = (e : Int) := by rw [IntKind.wrap_u64]; omega
      generalize dvq a b (i + 1) = q at hD st hor
      generalize dvr a b (i + 1) = r at hD st hrb
      have hrg : r < big := Nat.lt_trans hrb HB.out.1
      have ca := fun w => add_ref r r hrg hrg w
      have ht := top_one r hrg
      have hlb := fun j => low_bit r e he2 j
      obtain ⟨H, hH⟩ : ∃ H : Nat, big = 2 * H := by
        obtain ⟨n, hn, eb⟩ := big_pow
        exact ⟨2 ^ (64 * n - 1), by rw [eb, show 64 * n = 64 * n - 1 + 1 by omega, Nat.pow_succ, Nat.mul_comm]; rfl⟩
      have hbb := HB.out.1
      generalize hRR : (r + r) % big = R at ca hlb
      have CA : Hid _ := ca
      have HST : Hid (_ ∧ _ ∧ _) := ⟨st, hor, hrb⟩
      have HE : Hid (e < 2 ∧ i < 384) := ⟨he2, by omega⟩
      obtain ⟨a0, a1, a2, a3, a4, a5⟩ := hD.rr.reads
      have HD0 : Hid _ := hD
      have HLB : Hid _ := hlb
      clear cb heb hea st hor hD CB HA h0 hlb ca
      by_cases c : big ≤ 2 * r
      · rw [decide_eq_true c] at ht
        have hR : R = 2 * r - big := by rw [← hRR, ← Nat.two_mul, Nat.mod_eq_sub_mod c, Nat.mod_eq_of_lt (by omega)]
        have hbt : b ≤ 2 * r + e := by omega
        obtain ⟨hN1, hN2⟩ : dvr a b i = 2 * r + e - b ∧ dvq a b i = 2 ^ i ||| q := by
          rcases HST.out.1 with ⟨_, s2, s3⟩ | ⟨s1, _, _⟩
          · exact ⟨s2, by rw [s3, HST.out.2.1]⟩
          · omega
        have cs := fun w => sub_ref (R + e) b (by omega) HB.out.1 w
        rw [show (R + e + big - b) % big = 2 * r + e - b by rw [Nat.mod_eq_of_lt (by omega)]; omega] at cs
        generalize 2 * r + e - b = rn at cs hN1
        have CS : Hid _ := cs
        have HN : Hid (_ ∧ _) := ⟨hN2, hN1⟩
        clear cs hN1 hN2 hR hbt hRR c hrb hrg hH hbb he2
        go_wp2_with fail
        refine (CA.out _).mono ?_
        rintro e1 w1 ⟨rfl, hb1⟩
        have hD1 := HD0.out.below hb1
        clear HD0 hb1 ht a0 a1 a2 a3 a4 a5
        obtain ⟨a0, a1, a2, a3, a4, a5⟩ := hD1.rr.reads
        obtain ⟨f0, f1, f2, f3, f4, f5⟩ := hD1.rr.writes
        have HD1 : Hid _ := hD1
        clear hD1
        go_wp2_with fail
        have hD2 := HD1.out.six R
        clear HD1 a0 a1 a2 a3 a4 a5 f0 f1 f2 f3 f4 f5
        generalize ((((((w1.setCell ⟨w.heap.size + 1 + 1 + 1 + 1 + 1, 0, none⟩ (.int .u64 (wd R 0))).setCell ⟨w.heap.size + 1 + 1 + 1 + 1 + 1, 1, none⟩ (.int .u64 (wd R 1))).setCell ⟨w.heap.size + 1 + 1 + 1 + 1 + 1, 2, none⟩ (.int .u64 (wd R 2))).setCell ⟨w.heap.size + 1 + 1 + 1 + 1 + 1, 3, none⟩ (.int .u64 (wd R 3))).setCell ⟨w.heap.size + 1 + 1 + 1 + 1 + 1, 4, none⟩ (.int .u64 (wd R 4))).setCell ⟨w.heap.size + 1 + 1 + 1 + 1 + 1, 5, none⟩ (.int .u64 (wd R 5))) = w2 at hD2 ⊢
        have HR2 : Hid _ := hD2.rws
        have HD2 : Hid _ := hD2
        clear hD2
        refine region_last (p := 8) (by kernel_rfl) [.quiet (.pointer (some ⟨w.heap.size + 1 + 1 + 1 + 1 + 1, 0, none⟩)), .quiet (.int .u64 (wd R 0)), .quiet (N a), .quiet (.int .i64 i), .call (.int .i64 (e : Int)), .quiet (.int .u64 (e : Int)), .quiet (.int .u64 (bits .or .u64 (wd R 0) (e : Int))), .quiet (.pointer (some ⟨w.heap.size + 1 + 1 + 1 + 1 + 1, 0, none⟩)), .gone] (fun w' => Rws w' [(w.heap.size + 1 + 1 + 1 + 1 + 1, R), (w.heap.size, a)]) ?F1 _ (fun γ => ?hF) (by kernel_rfl) ?hL ?hS rfl rfl rfl rfl (by kernel_rfl) ?ho ?hl
        case hF =>
          simp only [fill, Kind.val, Act.put, List.setIfInBounds_toArray, List.set_cons_zero, List.set_cons_succ]
          exact rfl
        case hL => exact trivial
        case hS => exact fun w' hb => Rws.below HR2.out hb
        case ho =>
          refine AllOk.cons ?_ ?_
          · (refine fun γ => ⟨rfl, fun w' h => ?_⟩; clear h; go_simp)
          refine AllOk.cons ?_ ?_
          · (refine fun γ => ⟨rfl, fun w' h => ?_⟩; obtain ⟨h0, c0, c1, c2, c3, c4, c5⟩ := Rws.at h (g := (w.heap.size + 1 + 1 + 1 + 1 + 1)) (v := R) (by simp); clear h; go_simp)
          refine AllOk.cons ?_ ?_
          · exact fun γ => ⟨rfl, fun w' h => exec_load6 h (by simp) rfl rfl⟩
          refine AllOk.cons ?_ ?_
          · exact fun γ => ⟨rfl, fun w' _ => rfl⟩
          refine AllOk.cons ?_ ?_
          · exact fun γ => ⟨rfl, fun w' h => ⟨37, #[N a, .int .i64 i], exec_call rfl call37 rfl (by simp only [List.map_toArray, List.map_cons, List.map_nil]; rfl), CBi.out w'⟩⟩
          refine AllOk.cons ?_ ?_
          · (refine fun γ => ⟨rfl, fun w' h => ?_⟩; clear h; go_simp)
          refine AllOk.cons ?_ ?_
          · (refine fun γ => ⟨rfl, fun w' h => ?_⟩; clear h; go_simp)
          refine AllOk.cons ?_ ?_
          · (refine fun γ => ⟨rfl, fun w' h => ?_⟩; clear h; go_simp)
          exact trivial
        case hl =>
          intro γ w3 l hM hl K hK
          have hD3 := HD2.out.below hM.below
          have b0 := (hD3.rr 0 (by omega)).1
          have f0 := (hD3.rr 0 (by omega)).2
          have HD3 : Hid _ := hD3
          clear hD3 hM hl l HD2 HR2
          rw [if_pos (by rfl)]
          go_simp
          refine hK.out _ _ ?_
          clear hK b0 f0
          have hD4 := HD3.out.low HLB.out
          clear HD3
          generalize w3.setCell ⟨w.heap.size + 1 + 1 + 1 + 1 + 1, 0, none⟩ (.int .u64 (bits .or .u64 (wd R 0) (e : Int))) = w4 at hD4 ⊢
          clear γ
          obtain ⟨a0, a1, a2, a3, a4, a5⟩ := hD4.rr.reads
          obtain ⟨b0, b1, b2, b3, b4, b5⟩ := hD4.rb.reads
          have HD4 : Hid _ := hD4
          clear hD4
          go_wp2_with fail
          refine (CS.out _).mono ?_
          rintro e3 w5 ⟨rfl, hb5⟩
          have hD5 := HD4.out.below hb5
          clear HD4 hb5 a0 a1 a2 a3 a4 a5 b0 b1 b2 b3 b4 b5
          obtain ⟨a0, a1, a2, a3, a4, a5⟩ := hD5.rr.reads
          obtain ⟨f0, f1, f2, f3, f4, f5⟩ := hD5.rr.writes
          have HD5 : Hid _ := hD5
          clear hD5
          go_wp2_with fail
          have hD6 := HD5.out.six rn
          clear HD5 a0 a1 a2 a3 a4 a5 f0 f1 f2 f3 f4 f5
          generalize ((((((w5.setCell ⟨w.heap.size + 1 + 1 + 1 + 1 + 1, 0, none⟩ (.int .u64 (wd rn 0))).setCell ⟨w.heap.size + 1 + 1 + 1 + 1 + 1, 1, none⟩ (.int .u64 (wd rn 1))).setCell ⟨w.heap.size + 1 + 1 + 1 + 1 + 1, 2, none⟩ (.int .u64 (wd rn 2))).setCell ⟨w.heap.size + 1 + 1 + 1 + 1 + 1, 3, none⟩ (.int .u64 (wd rn 3))).setCell ⟨w.heap.size + 1 + 1 + 1 + 1 + 1, 4, none⟩ (.int .u64 (wd rn 4))).setCell ⟨w.heap.size + 1 + 1 + 1 + 1 + 1, 5, none⟩ (.int .u64 (wd rn 5))) = w6 at hD6 ⊢
          obtain ⟨q1, q2⟩ := hD6.rq (i / 64) (by have := HE.out.2; omega)
          have HD6 : Hid _ := hD6
          clear hD6
          have hi := HE.out.2
          go_region
          go_wp2
          go_roundw
          case rel =>
            refine ⟨i, by omega, by go_num, ?_⟩
            rw [HN.out.1, HN.out.2]
            exact (HD6.out.bit (fun j => set_or q i j)).drew
          case measure => simp [RowKit.intOf] <;> omega
      · rw [decide_eq_false c] at ht
        by_cases hbt : b ≤ 2 * r + e
        · have hR : R = 2 * r := by rw [← hRR, ← Nat.two_mul, Nat.mod_eq_of_lt (by omega)]
          obtain ⟨hN1, hN2⟩ : dvr a b i = 2 * r + e - b ∧ dvq a b i = 2 ^ i ||| q := by
            rcases HST.out.1 with ⟨_, s2, s3⟩ | ⟨s1, _, _⟩
            · exact ⟨s2, by rw [s3, HST.out.2.1]⟩
            · omega
          have cs := fun w => sub_ref (R + e) b (by omega) HB.out.1 w
          rw [show (R + e + big - b) % big = 2 * r + e - b by rw [Nat.mod_eq_sub_mod (by omega), Nat.mod_eq_of_lt (by omega)]; omega] at cs
          generalize 2 * r + e - b = rn at cs hN1
          have cc := fun w => compare_ref (R + e) b (by omega) HB.out.1 w
          have hcv : decide ((0 : Int) ≤ cmpv (R + e) b) = true := decide_eq_true (by unfold cmpv; split; omega; rw [if_neg (by omega)]; omega)
          generalize cmpv (R + e) b = cv at cc hcv
          have CS : Hid _ := cs
          have CC : Hid _ := cc
          have HN : Hid (_ ∧ _) := ⟨hN2, hN1⟩
          clear cs cc hN1 hN2 hR hbt hRR c hrb hrg hH hbb he2
          go_wp2_with fail
          refine (CA.out _).mono ?_
          rintro e1 w1 ⟨rfl, hb1⟩
          have hD1 := HD0.out.below hb1
          clear HD0 hb1 ht a0 a1 a2 a3 a4 a5
          obtain ⟨a0, a1, a2, a3, a4, a5⟩ := hD1.rr.reads
          obtain ⟨f0, f1, f2, f3, f4, f5⟩ := hD1.rr.writes
          have HD1 : Hid _ := hD1
          clear hD1
          go_wp2_with fail
          have hD2 := HD1.out.six R
          clear HD1 a0 a1 a2 a3 a4 a5 f0 f1 f2 f3 f4 f5
          generalize ((((((w1.setCell ⟨w.heap.size + 1 + 1 + 1 + 1 + 1, 0, none⟩ (.int .u64 (wd R 0))).setCell ⟨w.heap.size + 1 + 1 + 1 + 1 + 1, 1, none⟩ (.int .u64 (wd R 1))).setCell ⟨w.heap.size + 1 + 1 + 1 + 1 + 1, 2, none⟩ (.int .u64 (wd R 2))).setCell ⟨w.heap.size + 1 + 1 + 1 + 1 + 1, 3, none⟩ (.int .u64 (wd R 3))).setCell ⟨w.heap.size + 1 + 1 + 1 + 1 + 1, 4, none⟩ (.int .u64 (wd R 4))).setCell ⟨w.heap.size + 1 + 1 + 1 + 1 + 1, 5, none⟩ (.int .u64 (wd R 5))) = w2 at hD2 ⊢
          have HR2 : Hid _ := hD2.rws
          have HD2 : Hid _ := hD2
          clear hD2
          refine region_last (p := 8) (by kernel_rfl) [.quiet (.pointer (some ⟨w.heap.size + 1 + 1 + 1 + 1 + 1, 0, none⟩)), .quiet (.int .u64 (wd R 0)), .quiet (N a), .quiet (.int .i64 i), .call (.int .i64 (e : Int)), .quiet (.int .u64 (e : Int)), .quiet (.int .u64 (bits .or .u64 (wd R 0) (e : Int))), .quiet (.pointer (some ⟨w.heap.size + 1 + 1 + 1 + 1 + 1, 0, none⟩)), .gone] (fun w' => Rws w' [(w.heap.size + 1 + 1 + 1 + 1 + 1, R), (w.heap.size, a)]) ?F2 _ (fun γ => ?hF) (by kernel_rfl) ?hL ?hS rfl rfl rfl rfl (by kernel_rfl) ?ho ?hl
          case hF =>
            simp only [fill, Kind.val, Act.put, List.setIfInBounds_toArray, List.set_cons_zero, List.set_cons_succ]
            exact rfl
          case hL => exact trivial
          case hS => exact fun w' hb => Rws.below HR2.out hb
          case ho =>
            refine AllOk.cons ?_ ?_
            · (refine fun γ => ⟨rfl, fun w' h => ?_⟩; clear h; go_simp)
            refine AllOk.cons ?_ ?_
            · (refine fun γ => ⟨rfl, fun w' h => ?_⟩; obtain ⟨h0, c0, c1, c2, c3, c4, c5⟩ := Rws.at h (g := (w.heap.size + 1 + 1 + 1 + 1 + 1)) (v := R) (by simp); clear h; go_simp)
            refine AllOk.cons ?_ ?_
            · exact fun γ => ⟨rfl, fun w' h => exec_load6 h (by simp) rfl rfl⟩
            refine AllOk.cons ?_ ?_
            · exact fun γ => ⟨rfl, fun w' _ => rfl⟩
            refine AllOk.cons ?_ ?_
            · exact fun γ => ⟨rfl, fun w' h => ⟨37, #[N a, .int .i64 i], exec_call rfl call37 rfl (by simp only [List.map_toArray, List.map_cons, List.map_nil]; rfl), CBi.out w'⟩⟩
            refine AllOk.cons ?_ ?_
            · (refine fun γ => ⟨rfl, fun w' h => ?_⟩; clear h; go_simp)
            refine AllOk.cons ?_ ?_
            · (refine fun γ => ⟨rfl, fun w' h => ?_⟩; clear h; go_simp)
            refine AllOk.cons ?_ ?_
            · (refine fun γ => ⟨rfl, fun w' h => ?_⟩; clear h; go_simp)
            exact trivial
          case hl =>
            intro γ w3 l hM hl K hK
            have hD3 := HD2.out.below hM.below
            have b0 := (hD3.rr 0 (by omega)).1
            have f0 := (hD3.rr 0 (by omega)).2
            have HD3 : Hid _ := hD3
            clear hD3 hM hl l HD2 HR2
            rw [if_pos (by rfl)]
            go_simp
            refine hK.out _ _ ?_
            clear hK b0 f0
            have hD4 := HD3.out.low HLB.out
            clear HD3
            generalize w3.setCell ⟨w.heap.size + 1 + 1 + 1 + 1 + 1, 0, none⟩ (.int .u64 (bits .or .u64 (wd R 0) (e : Int))) = w4 at hD4 ⊢
            clear γ
            obtain ⟨a0, a1, a2, a3, a4, a5⟩ := hD4.rr.reads
            obtain ⟨b0, b1, b2, b3, b4, b5⟩ := hD4.rb.reads
            have HD4 : Hid _ := hD4
            clear hD4
            go_wp2_with fail
            refine (CC.out _).mono ?_
            rintro e4 w4' ⟨rfl, hb4⟩
            have hD4' := HD4.out.below hb4
            clear HD4 hb4 a0 a1 a2 a3 a4 a5 b0 b1 b2 b3 b4 b5
            obtain ⟨a0, a1, a2, a3, a4, a5⟩ := hD4'.rr.reads
            obtain ⟨b0, b1, b2, b3, b4, b5⟩ := hD4'.rb.reads
            have HD4 : Hid _ := hD4'
            clear hD4'
            go_wp2_with fail
            refine (CS.out _).mono ?_
            rintro e3 w5 ⟨rfl, hb5⟩
            have hD5 := HD4.out.below hb5
            clear HD4 hb5 a0 a1 a2 a3 a4 a5 b0 b1 b2 b3 b4 b5
            obtain ⟨a0, a1, a2, a3, a4, a5⟩ := hD5.rr.reads
            obtain ⟨f0, f1, f2, f3, f4, f5⟩ := hD5.rr.writes
            have HD5 : Hid _ := hD5
            clear hD5
            go_wp2_with fail
            have hD6 := HD5.out.six rn
            clear HD5 a0 a1 a2 a3 a4 a5 f0 f1 f2 f3 f4 f5
            generalize ((((((w5.setCell ⟨w.heap.size + 1 + 1 + 1 + 1 + 1, 0, none⟩ (.int .u64 (wd rn 0))).setCell ⟨w.heap.size + 1 + 1 + 1 + 1 + 1, 1, none⟩ (.int .u64 (wd rn 1))).setCell ⟨w.heap.size + 1 + 1 + 1 + 1 + 1, 2, none⟩ (.int .u64 (wd rn 2))).setCell ⟨w.heap.size + 1 + 1 + 1 + 1 + 1, 3, none⟩ (.int .u64 (wd rn 3))).setCell ⟨w.heap.size + 1 + 1 + 1 + 1 + 1, 4, none⟩ (.int .u64 (wd rn 4))).setCell ⟨w.heap.size + 1 + 1 + 1 + 1 + 1, 5, none⟩ (.int .u64 (wd rn 5))) = w6 at hD6 ⊢
            obtain ⟨q1, q2⟩ := hD6.rq (i / 64) (by have := HE.out.2; omega)
            have HD6 : Hid _ := hD6
            clear hD6
            have hi := HE.out.2
            go_region
            go_wp2
            go_roundw
            case rel =>
              refine ⟨i, by omega, by go_num, ?_⟩
              rw [HN.out.1, HN.out.2]
              exact (HD6.out.bit (fun j => set_or q i j)).drew
            case measure => simp [RowKit.intOf] <;> omega
        · have hR : R = 2 * r := by rw [← hRR, ← Nat.two_mul, Nat.mod_eq_of_lt (by omega)]
          obtain ⟨hN1, hN2⟩ : dvr a b i = 2 * r + e ∧ dvq a b i = q := by
            rcases HST.out.1 with ⟨s1, _, _⟩ | ⟨_, s2, s3⟩
            · omega
            · exact ⟨s2, s3⟩
          rw [← hR] at hN1
          have cc := fun w => compare_ref (R + e) b (by omega) HB.out.1 w
          have hcv : decide ((0 : Int) ≤ cmpv (R + e) b) = false := decide_eq_false (by unfold cmpv; rw [if_neg (by omega), if_pos (by omega)]; omega)
          generalize cmpv (R + e) b = cv at cc hcv
          have CC : Hid _ := cc
          have HN : Hid (_ ∧ _) := ⟨hN2, hN1⟩
          clear cc hN1 hN2 hR hbt hRR c hrb hrg hH hbb he2
          go_wp2_with fail
          refine (CA.out _).mono ?_
          rintro e1 w1 ⟨rfl, hb1⟩
          have hD1 := HD0.out.below hb1
          clear HD0 hb1 ht a0 a1 a2 a3 a4 a5
          obtain ⟨a0, a1, a2, a3, a4, a5⟩ := hD1.rr.reads
          obtain ⟨f0, f1, f2, f3, f4, f5⟩ := hD1.rr.writes
          have HD1 : Hid _ := hD1
          clear hD1
          go_wp2_with fail
          have hD2 := HD1.out.six R
          clear HD1 a0 a1 a2 a3 a4 a5 f0 f1 f2 f3 f4 f5
          generalize ((((((w1.setCell ⟨w.heap.size + 1 + 1 + 1 + 1 + 1, 0, none⟩ (.int .u64 (wd R 0))).setCell ⟨w.heap.size + 1 + 1 + 1 + 1 + 1, 1, none⟩ (.int .u64 (wd R 1))).setCell ⟨w.heap.size + 1 + 1 + 1 + 1 + 1, 2, none⟩ (.int .u64 (wd R 2))).setCell ⟨w.heap.size + 1 + 1 + 1 + 1 + 1, 3, none⟩ (.int .u64 (wd R 3))).setCell ⟨w.heap.size + 1 + 1 + 1 + 1 + 1, 4, none⟩ (.int .u64 (wd R 4))).setCell ⟨w.heap.size + 1 + 1 + 1 + 1 + 1, 5, none⟩ (.int .u64 (wd R 5))) = w2 at hD2 ⊢
          have HR2 : Hid _ := hD2.rws
          have HD2 : Hid _ := hD2
          clear hD2
          refine region_last (p := 8) (by kernel_rfl) [.quiet (.pointer (some ⟨w.heap.size + 1 + 1 + 1 + 1 + 1, 0, none⟩)), .quiet (.int .u64 (wd R 0)), .quiet (N a), .quiet (.int .i64 i), .call (.int .i64 (e : Int)), .quiet (.int .u64 (e : Int)), .quiet (.int .u64 (bits .or .u64 (wd R 0) (e : Int))), .quiet (.pointer (some ⟨w.heap.size + 1 + 1 + 1 + 1 + 1, 0, none⟩)), .gone] (fun w' => Rws w' [(w.heap.size + 1 + 1 + 1 + 1 + 1, R), (w.heap.size, a)]) ?F3 _ (fun γ => ?hF) (by kernel_rfl) ?hL ?hS rfl rfl rfl rfl (by kernel_rfl) ?ho ?hl
          case hF =>
            simp only [fill, Kind.val, Act.put, List.setIfInBounds_toArray, List.set_cons_zero, List.set_cons_succ]
            exact rfl
          case hL => exact trivial
          case hS => exact fun w' hb => Rws.below HR2.out hb
          case ho =>
            refine AllOk.cons ?_ ?_
            · (refine fun γ => ⟨rfl, fun w' h => ?_⟩; clear h; go_simp)
            refine AllOk.cons ?_ ?_
            · (refine fun γ => ⟨rfl, fun w' h => ?_⟩; obtain ⟨h0, c0, c1, c2, c3, c4, c5⟩ := Rws.at h (g := (w.heap.size + 1 + 1 + 1 + 1 + 1)) (v := R) (by simp); clear h; go_simp)
            refine AllOk.cons ?_ ?_
            · exact fun γ => ⟨rfl, fun w' h => exec_load6 h (by simp) rfl rfl⟩
            refine AllOk.cons ?_ ?_
            · exact fun γ => ⟨rfl, fun w' _ => rfl⟩
            refine AllOk.cons ?_ ?_
            · exact fun γ => ⟨rfl, fun w' h => ⟨37, #[N a, .int .i64 i], exec_call rfl call37 rfl (by simp only [List.map_toArray, List.map_cons, List.map_nil]; rfl), CBi.out w'⟩⟩
            refine AllOk.cons ?_ ?_
            · (refine fun γ => ⟨rfl, fun w' h => ?_⟩; clear h; go_simp)
            refine AllOk.cons ?_ ?_
            · (refine fun γ => ⟨rfl, fun w' h => ?_⟩; clear h; go_simp)
            refine AllOk.cons ?_ ?_
            · (refine fun γ => ⟨rfl, fun w' h => ?_⟩; clear h; go_simp)
            exact trivial
          case hl =>
            intro γ w3 l hM hl K hK
            have hD3 := HD2.out.below hM.below
            have b0 := (hD3.rr 0 (by omega)).1
            have f0 := (hD3.rr 0 (by omega)).2
            have HD3 : Hid _ := hD3
            clear hD3 hM hl l HD2 HR2
            rw [if_pos (by rfl)]
            go_simp
            refine hK.out _ _ ?_
            clear hK b0 f0
            have hD4 := HD3.out.low HLB.out
            clear HD3
            generalize w3.setCell ⟨w.heap.size + 1 + 1 + 1 + 1 + 1, 0, none⟩ (.int .u64 (bits .or .u64 (wd R 0) (e : Int))) = w4 at hD4 ⊢
            clear γ
            obtain ⟨a0, a1, a2, a3, a4, a5⟩ := hD4.rr.reads
            obtain ⟨b0, b1, b2, b3, b4, b5⟩ := hD4.rb.reads
            have HD4 : Hid _ := hD4
            clear hD4
            go_wp2_with fail
            refine (CC.out _).mono ?_
            rintro e4 w4' ⟨rfl, hb4⟩
            have hD4' := HD4.out.below hb4
            clear HD4 hb4 a0 a1 a2 a3 a4 a5 b0 b1 b2 b3 b4 b5
            have HD4 : Hid _ := hD4'
            clear hD4'
            have hi := HE.out.2
            go_wp2
            go_roundw
            case rel =>
              refine ⟨i, by omega, by go_num, ?_⟩
              rw [HN.out.1, HN.out.2]
              exact HD4.out
            case measure => simp [RowKit.intOf] <;> omega
    · have hk0 : k = 0 := by omega
      subst hk0
      rw [show (((0 : Nat) : Int) - 1) = -1 from rfl]
      obtain ⟨e1, e2⟩ := dv_end a b
      rw [e1, e2] at hD
      obtain ⟨q0, q1, q2, q3, q4, q5⟩ := hD.rq.reads
      obtain ⟨r0, r1, r2, r3, r4, r5⟩ := hD.rr.reads
      obtain ⟨z0, z1, z2, z3, z4, z5⟩ := hD.z2.writes
      obtain ⟨y0, y1, y2, y3, y4, y5⟩ := hD.z2.reads
      obtain ⟨x0, x1, x2, x3, x4, x5⟩ := hD.z3.writes
      obtain ⟨v0, v1, v2, v3, v4, v5⟩ := hD.z3.reads
      have HW : Hid _ := hD.bl
      have HS : Hid _ := hD.sz
      clear hD e1 e2 hk h0 CB HA HB
      go_wp2
      go_region
      go_wp2
      refine bodyPost_ret (v := .tuple #[N (a / b), N (a % b), .int .i64 0]) ?_ rfl ⟨rfl, ?_⟩
      · simp [results, Tryd.results33, go_sem, *]
      · exact (below6 (below6 HW.out (by omega) _ _ _ _ _ _) (by omega) _ _ _ _ _ _).drew
end Go.Proofs.YtfmjfgkgoenhnaaDoor
end
