/- Texts of the proof, joined. -/
import Derived.Test.YtgdlhgbdigpfhaaDoorP8
namespace Go.Proofs.YtgdlhgbdigpfhaaDoor
open Go.RowKit
namespace Rg
set_option maxHeartbeats 4000000 in
set_option maxRecDepth 100000 in
theorem leftAll_gen (a r : Nat → Nat)
    (cl : ∀ k, k < 6 → ∀ w, Calls Tryd.prog 25 #[V [a (2 * k), a (2 * k + 1)]] w fun e w' => e = .returned (V [r (2 * k), r (2 * k + 1)]) ∧ Below w.heap.size w w') (w : World) :
    Calls Tryd.prog 33 #[V [a 0, a 1, a 2, a 3, a 4, a 5, a 6, a 7, a 8, a 9, a 10, a 11]] w fun e w' => e = .returned (V [r 0, r 1, r 2, r 3, r 4, r 5, r 6, r 7, r 8, r 9, r 10, r 11]) ∧ Below w.heap.size w w' := by
  have H0 : Hid (_ ∧ _) := ⟨Mm.nil w, Below.refl w.heap.size w⟩
  have CL : Hid _ := cl
  clear cl
  go_enter Tryd.func33, Tryd.ntmps33
  refine wp_seq ?_
  refine walk_seq 2 [.made (cel [a 0, a 1, a 2, a 3, a 4, a 5, a 6, a 7, a 8, a 9, a 10, a 11]) 37, .made (cel [0, 0, 0, 0, 0, 0, 0, 0, 0, 0, 0, 0]) 37] _ ?pre1 ?F1 ?hpre1 (fun γ => ?hF1) (by kernel_rfl) trivial (sB H0) ?ho1 ?he1
  case hpre1 => simp only [tk, tz]; rfl
  case hF1 => simp only [fill, Kind.val, Act.put, sa, sz, ss]; rfl
  case ho1 =>
    refine ak (fun γ => ⟨rfl, fun w' => ex_boxA rfl rfl⟩) ?_
    refine ak (fun γ => ⟨rfl, fun w' => ex_madeE12 rfl⟩) ?_
    exact trivial
  intro γ w1 l hM hl
  have H1 : Hid (Mm w1 [(γ 0, cel [a 0, a 1, a 2, a 3, a 4, a 5, a 6, a 7, a 8, a 9, a 10, a 11]), (γ 1, cel [0, 0, 0, 0, 0, 0, 0, 0, 0, 0, 0, 0])] ∧ _) := growB H0 hM (Nat.le_refl _) hl [0, 1] rfl (by decide)
  have o1_0 := ownB H0 hM (Nat.le_refl _) hl (i := 0) rfl
  have o1_1 := ownB H0 hM (Nat.le_refl _) hl (i := 1) rfl
  clear hM hl l
  generalize γ 0 = γ1_0 at H1 o1_0 ⊢
  generalize γ 1 = γ1_1 at H1 o1_1 ⊢
  clear γ
  refine rest0 rfl (then_normal ?_)
  refine wp_seq ?_
  refine wp_seq ?_
  refine walk_seq 1 [.quiet (.int .i64 0)] _ ?pre2 ?F2 ?hpre2 (fun γ => ?hF2) (by kernel_rfl) trivial (sB H1) ?ho2 ?he2
  case hpre2 => simp only [tk, tz]; rfl
  case hF2 => simp only [fill, Kind.val, Act.put, sa, sz, ss]; rfl
  case ho2 =>
    refine ak (fun _ => ⟨rfl, fun _ _ => rfl⟩) ?_
    exact trivial
  intro γ w2 l hM hl
  have H2 := keepB H1 hM.below
  clear hM hl l H1 γ
  refine rest0 rfl (then_normal ?_)
  refine wp_block ?_
  refine loop_ghost (α := Nat) (fun k a' w' => ∃ s0 : Nat → Value, a' = ⟨#[V [a 0, a 1, a 2, a 3, a 4, a 5, a 6, a 7, a 8, a 9, a 10, a 11], PT γ1_0 0, PT γ1_1 0, s0 3, .int .i64 ((k : Nat) : Int), s0 5, s0 6, s0 7, s0 8, s0 9, s0 10, s0 11, s0 12, s0 13, undef], []⟩ ∧ (Mm w' [(γ1_0, cel (mx12 a r (2 * k))), (γ1_1, cel [0, 0, 0, 0, 0, 0, 0, 0, 0, 0, 0, 0])] ∧ Below w.heap.size w w') ∧ k ≤ 6) (fun k => 6 - k) 0 ?st0 ?rd0
  case st0 => exact ⟨(slotfn [undef, undef, undef, undef, undef, undef, undef, undef, undef, undef, undef, undef, undef, undef]), rfl, ⟨H2.out.1.atk (by rw [mx12_0 a r]), H2.out.2⟩, by omega⟩
  intro k a' w3 hI
  obtain ⟨s0, rfl, hMB, hk0⟩ := hI
  have H3 : Hid (_ ∧ _) := hMB
  clear hMB H2
  by_cases hlt : k < 6
  · have hrd : True := trivial
    clear hrd
    refine wp_seq ?_
    refine walk_seq 1 [.quiet (.bool true)] _ ?pre3 ?F3 ?hpre3 (fun γ => ?hF3) (by kernel_rfl) trivial (sB H3) ?ho3 ?he3
    case hpre3 => simp only [tk, tz]; rfl
    case hF3 => simp only [fill, Kind.val, Act.put, sa, sz, ss]; rfl
    case ho3 =>
      refine ak (by refine fun γ => ⟨rfl, fun w' h => ?_⟩; clear h; go_simp <;> omega) ?_
      exact trivial
    intro γ w4 l hM hl
    have H4 := keepB H3 hM.below
    clear hM hl l H3 γ
    refine rest0 rfl (then_normal ?_)
    refine wp_seq ?_
    refine wp_cond_true rfl ?_
    refine wp_skip ?_
    refine then_normal ?_
    refine wp_seq ?_
    refine wp_block ?_
    refine wp_seq ?_
    refine walk_seq 2 [.quiet (.int .i64 ((k : Nat) : Int)), .quiet (.int .i64 ((k : Nat) : Int))] _ ?pre4 ?F4 ?hpre4 (fun γ => ?hF4) (by kernel_rfl) trivial (sB H4) ?ho4 ?he4
    case hpre4 => simp only [tk, tz]; rfl
    case hF4 => simp only [fill, Kind.val, Act.put, sa, sz, ss]; rfl
    case ho4 =>
      refine ak (fun _ => ⟨rfl, fun _ _ => rfl⟩) ?_
      refine ak (fun _ => ⟨rfl, fun _ _ => rfl⟩) ?_
      exact trivial
    intro γ w5 l hM hl
    have H5 := keepB H4 hM.below
    clear hM hl l H4 γ
    refine rest0 rfl (then_normal ?_)
    refine walk_seq 6 [.quiet (.int .i64 ((k : Nat) : Int)), .quiet (.int .i64 ((k : Nat) : Int)), .quiet (PT γ1_0 (6 * (2 * k))), .quiet (V [a (2 * k), a (2 * k + 1)]), .call (V [r (2 * k), r (2 * k + 1)]), .quiet (PT γ1_0 (6 * (2 * k)))] _ ?pre5 ?F5 ?hpre5 (fun γ => ?hF5) (by kernel_rfl) trivial (sB H5) ?ho5 ?he5
    case hpre5 => simp only [tk, tz]; rfl
    case hF5 => simp only [fill, Kind.val, Act.put, sa, sz, ss]; rfl
    case ho5 =>
      refine ak (fun _ => ⟨rfl, fun _ _ => rfl⟩) ?_
      refine ak (fun _ => ⟨rfl, fun _ _ => rfl⟩) ?_
      refine ak (fun γ => ⟨rfl, fun w' _ => ex_idxE12 rfl rfl rfl (by omega)⟩) ?_
      refine ak (fun γ => ⟨rfl, fun w' h => ex_loadA (i := 2 * k) (k := 2) h 0 rfl rfl rfl Tryd.isAgg26 Tryd.sizeOf26 (mx12_ld a r hlt) rfl⟩) ?_
      refine ak (fun γ => ⟨rfl, fun w' h => ⟨25, #[V [a (2 * k), a (2 * k + 1)]], exec_call rfl call25 rfl (mpn rfl), CL.out k hlt w'⟩⟩) ?_
      refine ak (fun γ => ⟨rfl, fun w' _ => ex_idxE12 rfl rfl rfl (by omega)⟩) ?_
      exact trivial
    intro γ w6 l hM hl
    have H6 := keepB H5 hM.below
    clear hM hl l H5 γ
    refine rest_at (l := [6]) rfl ?_
    refine rest_store rfl rfl rfl (ex_storeA (i := 2 * k) (ms := [r (2 * k), r (2 * k + 1)]) H6.out.1 0 rfl rfl rfl rfl Tryd.sizeOf26 (mx12_bd a r rfl hlt)) ?_
    have H7 : Hid (Mm (w6.setCells γ1_0 (6 * (2 * k)) (cel [r (2 * k), r (2 * k + 1)])) [(γ1_0, cel (mx12 a r (2 * (k + 1)))), (γ1_1, cel [0, 0, 0, 0, 0, 0, 0, 0, 0, 0, 0, 0])] ∧ Below w.heap.size w (w6.setCells γ1_0 (6 * (2 * k)) (cel [r (2 * k), r (2 * k + 1)]))) := ⟨by
      have h := H6.out.1.put 0 (off := 6 * (2 * k)) (vs := cel [r (2 * k), r (2 * k + 1)]) rfl (by rw [cel_len, cel_len]; exact cel_bd (mx12_bd a r rfl hlt))
      rw [cel_patch, mx12_st a r hlt] at h
      exact h, below_setCells _ o1_0.out _ _ _ H6.out.2⟩
    clear H6
    generalize hgw : World.setCells _ _ _ _ = w7 at H7 ⊢
    clear hgw
    refine rest_nil ?_
    refine block_normal ?_
    refine then_normal ?_
    refine walk_seq 1 [.quiet (.int .i64 ((k + 1 : Nat) : Int))] _ ?pre6 ?F6 ?hpre6 (fun γ => ?hF6) (by kernel_rfl) trivial (sB H7) ?ho6 ?he6
    case hpre6 => simp only [tk, tz]; rfl
    case hF6 => simp only [fill, Kind.val, Act.put, sa, sz, ss]; rfl
    case ho6 =>
      refine ak (by refine fun γ => ⟨rfl, fun w' h => ?_⟩; clear h; go_simp; rw [IntKind.wrap_i64]; omega) ?_
      exact trivial
    intro γ w8 l hM hl
    have H8 := keepB H7 hM.below
    clear hM hl l H7 γ
    refine rest_at (l := [1]) rfl ?_
    refine rest_set (d := 4) rfl rfl rfl rfl ?_
    simp only [Act.put, sa, sz, ss]
    refine rest_nil ?_
    refine then_normal ?_
    exact ⟨k + 1, ⟨(slotfn [undef, undef, undef, .int .i64 ((k : Nat) : Int), undef, .bool true, .int .i64 ((k : Nat) : Int), .int .i64 ((k : Nat) : Int), .int .i64 ((k : Nat) : Int), PT γ1_0 (6 * (2 * k)), V [a (2 * k), a (2 * k + 1)], V [r (2 * k), r (2 * k + 1)], PT γ1_0 (6 * (2 * k)), .int .i64 ((k + 1 : Nat) : Int)]), rfl, ⟨H8.out.1, H8.out.2⟩, by omega⟩, by omega⟩
  have hkN : k = 6 := by omega
  subst hkN
  have H9 : Hid (Mm w3 [(γ1_0, cel [r 0, r 1, r 2, r 3, r 4, r 5, r 6, r 7, r 8, r 9, r 10, r 11]), (γ1_1, cel [0, 0, 0, 0, 0, 0, 0, 0, 0, 0, 0, 0])] ∧ Below w.heap.size w w3) := ⟨H3.out.1.atk (by rw [mx12_e a r]), H3.out.2⟩
  clear H3
  refine wp_seq ?_
  refine walk_seq 1 [.quiet (.bool false)] _ ?pre7 ?F7 ?hpre7 (fun γ => ?hF7) (by kernel_rfl) trivial (sB H9) ?ho7 ?he7
  case hpre7 => simp only [tk, tz]; rfl
  case hF7 => simp only [fill, Kind.val, Act.put, sa, sz, ss]; rfl
  case ho7 =>
    refine ak (by refine fun γ => ⟨rfl, fun w' h => ?_⟩; clear h; go_simp <;> omega) ?_
    exact trivial
  intro γ w10 l hM hl
  have H10 := keepB H9 hM.below
  clear hM hl l H9 γ
  refine rest0 rfl (then_normal ?_)
  refine wp_seq ?_
  refine wp_cond_false rfl ?_
  refine wp_exit ?_
  repeat refine then_exit ?_
  refine block_exit ?_
  refine then_normal ?_
  refine wp_seq ?_
  refine walk_seq 1 [.quiet (V [r 0, r 1, r 2, r 3, r 4, r 5, r 6, r 7, r 8, r 9, r 10, r 11])] _ ?pre8 ?F8 ?hpre8 (fun γ => ?hF8) (by kernel_rfl) trivial (sB H10) ?ho8 ?he8
  case hpre8 => simp only [tk, tz]; rfl
  case hF8 => simp only [fill, Kind.val, Act.put, sa, sz, ss]; rfl
  case ho8 =>
    refine ak (fun γ => ⟨rfl, fun w' h => ex_loadA (i := 0) (k := 12) h 0 rfl rfl rfl Tryd.isAgg37 Tryd.sizeOf37 rfl rfl⟩) ?_
    exact trivial
  intro γ w11 l hM hl
  have H11 := keepB H10 hM.below
  clear hM hl l H10 γ
  refine rest_at (l := [1]) rfl ?_
  refine rest_store rfl rfl rfl (ex_storeA (i := 0) (ms := [r 0, r 1, r 2, r 3, r 4, r 5, r 6, r 7, r 8, r 9, r 10, r 11]) H11.out.1 1 rfl rfl rfl rfl Tryd.sizeOf37 (Nat.le_of_ble_eq_true rfl)) ?_
  have H12 : Hid (Mm (w11.setCells γ1_1 (6 * 0) (cel [r 0, r 1, r 2, r 3, r 4, r 5, r 6, r 7, r 8, r 9, r 10, r 11])) [(γ1_0, cel [r 0, r 1, r 2, r 3, r 4, r 5, r 6, r 7, r 8, r 9, r 10, r 11]), (γ1_1, cel [r 0, r 1, r 2, r 3, r 4, r 5, r 6, r 7, r 8, r 9, r 10, r 11])] ∧ Below w.heap.size w (w11.setCells γ1_1 (6 * 0) (cel [r 0, r 1, r 2, r 3, r 4, r 5, r 6, r 7, r 8, r 9, r 10, r 11]))) := ⟨by
    have h := H11.out.1.put 1 (off := 6 * 0) (vs := cel [r 0, r 1, r 2, r 3, r 4, r 5, r 6, r 7, r 8, r 9, r 10, r 11]) rfl (by simp only [cel_len]; exact Nat.le_of_ble_eq_true rfl)
    rw [cel_patch] at h
    exact h, below_setCells _ o1_1.out _ _ _ H11.out.2⟩
  clear H11
  generalize hgw : World.setCells _ _ _ _ = w12 at H12 ⊢
  clear hgw
  refine rest_nil ?_
  refine then_normal ?_
  refine wp_ret ?_
  repeat (first | refine then_ret ?_ | refine block_ret ?_)
  have hf0 := cel_var (k := 12) H12.out.1 1 rfl Tryd.isAgg37 Tryd.sizeOf37 rfl
  refine bodyPost_ret (v := V [r 0, r 1, r 2, r 3, r 4, r 5, r 6, r 7, r 8, r 9, r 10, r 11]) (by simp [results, Tryd.results33, asAddr, hf0]) rfl ?_
  exact ⟨rfl, H12.out.2⟩
set_option maxHeartbeats 1000000 in
set_option maxRecDepth 100000 in
theorem together2_gen (a0 a1 b0 b1 r0 r1 : Nat)
    (c0 : ∀ w, Calls Tryd.prog 43 #[N a0, N b0] w fun e w' => e = .returned (N r0) ∧ Below w.heap.size w w')
    (c1 : ∀ w, Calls Tryd.prog 43 #[N a1, N b1] w fun e w' => e = .returned (N r1) ∧ Below w.heap.size w w') (w : World) :
    Calls Tryd.prog 82 #[V [a0, a1], V [b0, b1]] w fun e w' => e = .returned (V [r0, r1]) ∧ Below w.heap.size w w' := by
  have H0 : Hid (_ ∧ _) := ⟨Mm.nil w, Below.refl w.heap.size w⟩
  have C0 : Hid _ := c0
  have C1 : Hid _ := c1
  clear c0 c1
  go_enter Tryd.func82, Tryd.ntmps82
  refine wp_seq ?_
  refine walk_seq 3 [.made (cel [a0, a1]) 26, .made (cel [b0, b1]) 26, .made (cel [0, 0]) 26] _ ?pre1 ?F1 ?hpre1 (fun γ => ?hF1) (by kernel_rfl) trivial (sB H0) ?ho1 ?he1
  case hpre1 => simp only [tk, tz]; rfl
  case hF1 => simp only [fill, Kind.val, Act.put, sa, sz, ss]; rfl
  case ho1 =>
    refine ak (fun γ => ⟨rfl, fun w' => ex_boxA rfl rfl⟩) ?_
    refine ak (fun γ => ⟨rfl, fun w' => ex_boxA rfl rfl⟩) ?_
    refine ak (fun γ => ⟨rfl, fun w' => ex_madeE2 rfl⟩) ?_
    exact trivial
  intro γ w1 l hM hl
  have H1 : Hid (Mm w1 [(γ 0, cel [a0, a1]), (γ 1, cel [b0, b1]), (γ 2, cel [0, 0])] ∧ _) := growB H0 hM (Nat.le_refl _) hl [0, 1, 2] rfl (by decide)
  have o1_0 := ownB H0 hM (Nat.le_refl _) hl (i := 0) rfl
  have o1_1 := ownB H0 hM (Nat.le_refl _) hl (i := 1) rfl
  have o1_2 := ownB H0 hM (Nat.le_refl _) hl (i := 2) rfl
  clear hM hl l
  generalize γ 0 = γ1_0 at H1 o1_0 ⊢
  generalize γ 1 = γ1_1 at H1 o1_1 ⊢
  generalize γ 2 = γ1_2 at H1 o1_2 ⊢
  clear γ
  refine rest0 rfl (then_normal ?_)
  refine wp_seq ?_
  refine walk_any (by kernel_rfl) 11 [.quiet (PT γ1_0 0), .quiet (N a0), .quiet (PT γ1_1 0), .quiet (N b0), .call (N r0), .quiet (PT γ1_0 6), .quiet (N a1), .quiet (PT γ1_1 6), .quiet (N b1), .call (N r1), .quiet (V [r0, r1])] _ ?pre2 ?F2 ?hpre2 (fun γ => ?hF2) (by kernel_rfl) trivial (sB H1) ?ho2 ?he2
  case hpre2 => simp only [tk, tz]; rfl
  case hF2 => simp only [fill, Kind.val, Act.put, sa, sz, ss]; rfl
  case ho2 =>
    refine ak (by refine fun γ => ⟨rfl, fun w' h => ?_⟩; clear h; go_simp) ?_
    refine ak (fun γ => ⟨rfl, fun w' h => ex_loadN (i := 0) h 0 rfl rfl rfl rfl⟩) ?_
    refine ak (by refine fun γ => ⟨rfl, fun w' h => ?_⟩; clear h; go_simp) ?_
    refine ak (fun γ => ⟨rfl, fun w' h => ex_loadN (i := 0) h 1 rfl rfl rfl rfl⟩) ?_
    refine ak (fun γ => ⟨rfl, fun w' h => ⟨43, #[N a0, N b0], exec_call rfl call43 rfl (mpn rfl), C0.out w'⟩⟩) ?_
    refine ak (by refine fun γ => ⟨rfl, fun w' h => ?_⟩; clear h; go_simp) ?_
    refine ak (fun γ => ⟨rfl, fun w' h => ex_loadN (i := 1) h 0 rfl rfl rfl rfl⟩) ?_
    refine ak (by refine fun γ => ⟨rfl, fun w' h => ?_⟩; clear h; go_simp) ?_
    refine ak (fun γ => ⟨rfl, fun w' h => ex_loadN (i := 1) h 1 rfl rfl rfl rfl⟩) ?_
    refine ak (fun γ => ⟨rfl, fun w' h => ⟨43, #[N a1, N b1], exec_call rfl call43 rfl (mpn rfl), C1.out w'⟩⟩) ?_
    refine ak (fun γ => ⟨rfl, fun w' _ => ex_buildE2 rfl rfl rfl⟩) ?_
    exact trivial
  intro γ w2 l hM hl
  have H2 := keepB H1 hM.below
  clear hM hl l H1 γ
  refine rest_at (l := [11]) rfl ?_
  refine rest_store rfl rfl rfl (ex_storeA (i := 0) (ms := [r0, r1]) H2.out.1 2 rfl rfl rfl rfl Tryd.sizeOf26 (Nat.le_of_ble_eq_true rfl)) ?_
  have H3 : Hid (Mm (w2.setCells γ1_2 (6 * 0) (cel [r0, r1])) [(γ1_0, cel [a0, a1]), (γ1_1, cel [b0, b1]), (γ1_2, cel [r0, r1])] ∧ Below w.heap.size w (w2.setCells γ1_2 (6 * 0) (cel [r0, r1]))) := ⟨by
    have h := H2.out.1.put 2 (off := 6 * 0) (vs := cel [r0, r1]) rfl (by simp only [cel_len]; exact Nat.le_of_ble_eq_true rfl)
    rw [cel_patch] at h
    exact h, below_setCells _ o1_2.out _ _ _ H2.out.2⟩
  clear H2
  generalize hgw : World.setCells _ _ _ _ = w3 at H3 ⊢
  clear hgw
  refine rest_nil ?_
  refine then_normal ?_
  refine wp_ret ?_
  repeat (first | refine then_ret ?_ | refine block_ret ?_)
  have hf0 := cel_var (k := 2) H3.out.1 2 rfl Tryd.isAgg26 Tryd.sizeOf26 rfl
  refine bodyPost_ret (v := V [r0, r1]) (by simp [results, Tryd.results82, asAddr, hf0]) rfl ?_
  exact ⟨rfl, H3.out.2⟩
set_option maxHeartbeats 4000000 in
set_option maxRecDepth 100000 in
theorem three_gen (a b r : Nat → Nat)
    (cl : ∀ k, k < 3 → ∀ w, Calls Tryd.prog 82 #[V [a (2 * k), a (2 * k + 1)], V [b (2 * k), b (2 * k + 1)]] w fun e w' => e = .returned (V [r (2 * k), r (2 * k + 1)]) ∧ Below w.heap.size w w') (w : World) :
    Calls Tryd.prog 57 #[V [a 0, a 1, a 2, a 3, a 4, a 5], V [b 0, b 1, b 2, b 3, b 4, b 5]] w fun e w' => e = .returned (V [r 0, r 1, r 2, r 3, r 4, r 5]) ∧ Below w.heap.size w w' := by
  have H0 : Hid (_ ∧ _) := ⟨Mm.nil w, Below.refl w.heap.size w⟩
  have CL : Hid _ := cl
  clear cl
  go_enter Tryd.func57, Tryd.ntmps57
  refine wp_seq ?_
  refine walk_seq 3 [.made (cel [a 0, a 1, a 2, a 3, a 4, a 5]) 73, .made (cel [b 0, b 1, b 2, b 3, b 4, b 5]) 73, .made (cel [0, 0, 0, 0, 0, 0]) 73] _ ?pre1 ?F1 ?hpre1 (fun γ => ?hF1) (by kernel_rfl) trivial (sB H0) ?ho1 ?he1
  case hpre1 => simp only [tk, tz]; rfl
  case hF1 => simp only [fill, Kind.val, Act.put, sa, sz, ss]; rfl
  case ho1 =>
    refine ak (fun γ => ⟨rfl, fun w' => ex_boxA rfl rfl⟩) ?_
    refine ak (fun γ => ⟨rfl, fun w' => ex_boxA rfl rfl⟩) ?_
    refine ak (fun γ => ⟨rfl, fun w' => ex_madeTH rfl⟩) ?_
    exact trivial
  intro γ w1 l hM hl
  have H1 : Hid (Mm w1 [(γ 0, cel [a 0, a 1, a 2, a 3, a 4, a 5]), (γ 1, cel [b 0, b 1, b 2, b 3, b 4, b 5]), (γ 2, cel [0, 0, 0, 0, 0, 0])] ∧ _) := growB H0 hM (Nat.le_refl _) hl [0, 1, 2] rfl (by decide)
  have o1_0 := ownB H0 hM (Nat.le_refl _) hl (i := 0) rfl
  have o1_1 := ownB H0 hM (Nat.le_refl _) hl (i := 1) rfl
  have o1_2 := ownB H0 hM (Nat.le_refl _) hl (i := 2) rfl
  clear hM hl l
  generalize γ 0 = γ1_0 at H1 o1_0 ⊢
  generalize γ 1 = γ1_1 at H1 o1_1 ⊢
  generalize γ 2 = γ1_2 at H1 o1_2 ⊢
  clear γ
  refine rest0 rfl (then_normal ?_)
  refine wp_seq ?_
  refine wp_seq ?_
  refine walk_seq 1 [.quiet (.int .i64 0)] _ ?pre2 ?F2 ?hpre2 (fun γ => ?hF2) (by kernel_rfl) trivial (sB H1) ?ho2 ?he2
  case hpre2 => simp only [tk, tz]; rfl
  case hF2 => simp only [fill, Kind.val, Act.put, sa, sz, ss]; rfl
  case ho2 =>
    refine ak (fun _ => ⟨rfl, fun _ _ => rfl⟩) ?_
    exact trivial
  intro γ w2 l hM hl
  have H2 := keepB H1 hM.below
  clear hM hl l H1 γ
  refine rest0 rfl (then_normal ?_)
  refine wp_block ?_
  refine loop_ghost (α := Nat) (fun k a' w' => ∃ s0 : Nat → Value, a' = ⟨#[V [a 0, a 1, a 2, a 3, a 4, a 5], V [b 0, b 1, b 2, b 3, b 4, b 5], PT γ1_0 0, PT γ1_1 0, PT γ1_2 0, s0 5, .int .i64 ((k : Nat) : Int), s0 7, s0 8, s0 9, s0 10, s0 11, s0 12, s0 13, s0 14, s0 15, s0 16, s0 17, s0 18, undef], []⟩ ∧ (Mm w' [(γ1_0, cel (mx6 a r (2 * k))), (γ1_1, cel [b 0, b 1, b 2, b 3, b 4, b 5]), (γ1_2, cel [0, 0, 0, 0, 0, 0])] ∧ Below w.heap.size w w') ∧ k ≤ 3) (fun k => 3 - k) 0 ?st0 ?rd0
  case st0 => exact ⟨(slotfn [undef, undef, undef, undef, undef, undef, undef, undef, undef, undef, undef, undef, undef, undef, undef, undef, undef, undef, undef]), rfl, ⟨H2.out.1.atk (by rw [mx6_0 a r]), H2.out.2⟩, by omega⟩
  intro k a' w3 hI
  obtain ⟨s0, rfl, hMB, hk0⟩ := hI
  have H3 : Hid (_ ∧ _) := hMB
  clear hMB H2
  by_cases hlt : k < 3
  · have hrd : True := trivial
    clear hrd
    refine wp_seq ?_
    refine walk_seq 1 [.quiet (.bool true)] _ ?pre3 ?F3 ?hpre3 (fun γ => ?hF3) (by kernel_rfl) trivial (sB H3) ?ho3 ?he3
    case hpre3 => simp only [tk, tz]; rfl
    case hF3 => simp only [fill, Kind.val, Act.put, sa, sz, ss]; rfl
    case ho3 =>
      refine ak (by refine fun γ => ⟨rfl, fun w' h => ?_⟩; clear h; go_simp <;> omega) ?_
      exact trivial
    intro γ w4 l hM hl
    have H4 := keepB H3 hM.below
    clear hM hl l H3 γ
    refine rest0 rfl (then_normal ?_)
    refine wp_seq ?_
    refine wp_cond_true rfl ?_
    refine wp_skip ?_
    refine then_normal ?_
    refine wp_seq ?_
    refine wp_block ?_
    refine wp_seq ?_
    refine walk_seq 2 [.quiet (.int .i64 ((k : Nat) : Int)), .quiet (.int .i64 ((k : Nat) : Int))] _ ?pre4 ?F4 ?hpre4 (fun γ => ?hF4) (by kernel_rfl) trivial (sB H4) ?ho4 ?he4
    case hpre4 => simp only [tk, tz]; rfl
    case hF4 => simp only [fill, Kind.val, Act.put, sa, sz, ss]; rfl
    case ho4 =>
      refine ak (fun _ => ⟨rfl, fun _ _ => rfl⟩) ?_
      refine ak (fun _ => ⟨rfl, fun _ _ => rfl⟩) ?_
      exact trivial
    intro γ w5 l hM hl
    have H5 := keepB H4 hM.below
    clear hM hl l H4 γ
    refine rest0 rfl (then_normal ?_)
    refine walk_any (by kernel_rfl) 9 [.quiet (.int .i64 ((k : Nat) : Int)), .quiet (.int .i64 ((k : Nat) : Int)), .quiet (PT γ1_0 (6 * (2 * k))), .quiet (V [a (2 * k), a (2 * k + 1)]), .quiet (.int .i64 ((k : Nat) : Int)), .quiet (PT γ1_1 (6 * (2 * k))), .quiet (V [b (2 * k), b (2 * k + 1)]), .call (V [r (2 * k), r (2 * k + 1)]), .quiet (PT γ1_0 (6 * (2 * k)))] _ ?pre5 ?F5 ?hpre5 (fun γ => ?hF5) (by kernel_rfl) trivial (sB H5) ?ho5 ?he5
    case hpre5 => simp only [tk, tz]; rfl
    case hF5 => simp only [fill, Kind.val, Act.put, sa, sz, ss]; rfl
    case ho5 =>
      refine ak (fun _ => ⟨rfl, fun _ _ => rfl⟩) ?_
      refine ak (fun _ => ⟨rfl, fun _ _ => rfl⟩) ?_
      refine ak (fun γ => ⟨rfl, fun w' _ => ex_idxTH rfl rfl rfl (by omega)⟩) ?_
      refine ak (fun γ => ⟨rfl, fun w' h => ex_loadA (i := 2 * k) (k := 2) h 0 rfl rfl rfl Tryd.isAgg26 Tryd.sizeOf26 (mx6_ld a r hlt) rfl⟩) ?_
      refine ak (fun _ => ⟨rfl, fun _ _ => rfl⟩) ?_
      refine ak (fun γ => ⟨rfl, fun w' _ => ex_idxTH rfl rfl rfl (by omega)⟩) ?_
      refine ak (fun γ => ⟨rfl, fun w' h => ex_loadA (i := 2 * k) (k := 2) h 1 rfl rfl rfl Tryd.isAgg26 Tryd.sizeOf26 (tl6_ld b hlt) rfl⟩) ?_
      refine ak (fun γ => ⟨rfl, fun w' h => ⟨82, #[V [a (2 * k), a (2 * k + 1)], V [b (2 * k), b (2 * k + 1)]], exec_call rfl call82 rfl (mpn rfl), CL.out k hlt w'⟩⟩) ?_
      refine ak (fun γ => ⟨rfl, fun w' _ => ex_idxTH rfl rfl rfl (by omega)⟩) ?_
      exact trivial
    intro γ w6 l hM hl
    have H6 := keepB H5 hM.below
    clear hM hl l H5 γ
    refine rest_at (l := [9]) rfl ?_
    refine rest_store rfl rfl rfl (ex_storeA (i := 2 * k) (ms := [r (2 * k), r (2 * k + 1)]) H6.out.1 0 rfl rfl rfl rfl Tryd.sizeOf26 (mx6_bd a r rfl hlt)) ?_
    have H7 : Hid (Mm (w6.setCells γ1_0 (6 * (2 * k)) (cel [r (2 * k), r (2 * k + 1)])) [(γ1_0, cel (mx6 a r (2 * (k + 1)))), (γ1_1, cel [b 0, b 1, b 2, b 3, b 4, b 5]), (γ1_2, cel [0, 0, 0, 0, 0, 0])] ∧ Below w.heap.size w (w6.setCells γ1_0 (6 * (2 * k)) (cel [r (2 * k), r (2 * k + 1)]))) := ⟨by
      have h := H6.out.1.put 0 (off := 6 * (2 * k)) (vs := cel [r (2 * k), r (2 * k + 1)]) rfl (by rw [cel_len, cel_len]; exact cel_bd (mx6_bd a r rfl hlt))
      rw [cel_patch, mx6_st a r hlt] at h
      exact h, below_setCells _ o1_0.out _ _ _ H6.out.2⟩
    clear H6
    generalize hgw : World.setCells _ _ _ _ = w7 at H7 ⊢
    clear hgw
    refine rest_nil ?_
    refine block_normal ?_
    refine then_normal ?_
    refine walk_seq 1 [.quiet (.int .i64 ((k + 1 : Nat) : Int))] _ ?pre6 ?F6 ?hpre6 (fun γ => ?hF6) (by kernel_rfl) trivial (sB H7) ?ho6 ?he6
    case hpre6 => simp only [tk, tz]; rfl
    case hF6 => simp only [fill, Kind.val, Act.put, sa, sz, ss]; rfl
    case ho6 =>
      refine ak (by refine fun γ => ⟨rfl, fun w' h => ?_⟩; clear h; go_simp; rw [IntKind.wrap_i64]; omega) ?_
      exact trivial
    intro γ w8 l hM hl
    have H8 := keepB H7 hM.below
    clear hM hl l H7 γ
    refine rest_at (l := [1]) rfl ?_
    refine rest_set (d := 6) rfl rfl rfl rfl ?_
    simp only [Act.put, sa, sz, ss]
    refine rest_nil ?_
    refine then_normal ?_
    exact ⟨k + 1, ⟨(slotfn [undef, undef, undef, undef, undef, .int .i64 ((k : Nat) : Int), undef, .bool true, .int .i64 ((k : Nat) : Int), .int .i64 ((k : Nat) : Int), .int .i64 ((k : Nat) : Int), PT γ1_0 (6 * (2 * k)), V [a (2 * k), a (2 * k + 1)], .int .i64 ((k : Nat) : Int), PT γ1_1 (6 * (2 * k)), V [b (2 * k), b (2 * k + 1)], V [r (2 * k), r (2 * k + 1)], PT γ1_0 (6 * (2 * k)), .int .i64 ((k + 1 : Nat) : Int)]), rfl, ⟨H8.out.1, H8.out.2⟩, by omega⟩, by omega⟩
  have hkN : k = 3 := by omega
  subst hkN
  have H9 : Hid (Mm w3 [(γ1_0, cel [r 0, r 1, r 2, r 3, r 4, r 5]), (γ1_1, cel [b 0, b 1, b 2, b 3, b 4, b 5]), (γ1_2, cel [0, 0, 0, 0, 0, 0])] ∧ Below w.heap.size w w3) := ⟨H3.out.1.atk (by rw [mx6_e a r]), H3.out.2⟩
  clear H3
  refine wp_seq ?_
  refine walk_seq 1 [.quiet (.bool false)] _ ?pre7 ?F7 ?hpre7 (fun γ => ?hF7) (by kernel_rfl) trivial (sB H9) ?ho7 ?he7
  case hpre7 => simp only [tk, tz]; rfl
  case hF7 => simp only [fill, Kind.val, Act.put, sa, sz, ss]; rfl
  case ho7 =>
    refine ak (by refine fun γ => ⟨rfl, fun w' h => ?_⟩; clear h; go_simp <;> omega) ?_
    exact trivial
  intro γ w10 l hM hl
  have H10 := keepB H9 hM.below
  clear hM hl l H9 γ
  refine rest0 rfl (then_normal ?_)
  refine wp_seq ?_
  refine wp_cond_false rfl ?_
  refine wp_exit ?_
  repeat refine then_exit ?_
  refine block_exit ?_
  refine then_normal ?_
  refine wp_seq ?_
  refine walk_seq 1 [.quiet (V [r 0, r 1, r 2, r 3, r 4, r 5])] _ ?pre8 ?F8 ?hpre8 (fun γ => ?hF8) (by kernel_rfl) trivial (sB H10) ?ho8 ?he8
  case hpre8 => simp only [tk, tz]; rfl
  case hF8 => simp only [fill, Kind.val, Act.put, sa, sz, ss]; rfl
  case ho8 =>
    refine ak (fun γ => ⟨rfl, fun w' h => ex_loadA (i := 0) (k := 6) h 0 rfl rfl rfl Tryd.isAgg73 Tryd.sizeOf73 rfl rfl⟩) ?_
    exact trivial
  intro γ w11 l hM hl
  have H11 := keepB H10 hM.below
  clear hM hl l H10 γ
  refine rest_at (l := [1]) rfl ?_
  refine rest_store rfl rfl rfl (ex_storeA (i := 0) (ms := [r 0, r 1, r 2, r 3, r 4, r 5]) H11.out.1 2 rfl rfl rfl rfl Tryd.sizeOf73 (Nat.le_of_ble_eq_true rfl)) ?_
  have H12 : Hid (Mm (w11.setCells γ1_2 (6 * 0) (cel [r 0, r 1, r 2, r 3, r 4, r 5])) [(γ1_0, cel [r 0, r 1, r 2, r 3, r 4, r 5]), (γ1_1, cel [b 0, b 1, b 2, b 3, b 4, b 5]), (γ1_2, cel [r 0, r 1, r 2, r 3, r 4, r 5])] ∧ Below w.heap.size w (w11.setCells γ1_2 (6 * 0) (cel [r 0, r 1, r 2, r 3, r 4, r 5]))) := ⟨by
    have h := H11.out.1.put 2 (off := 6 * 0) (vs := cel [r 0, r 1, r 2, r 3, r 4, r 5]) rfl (by simp only [cel_len]; exact Nat.le_of_ble_eq_true rfl)
    rw [cel_patch] at h
    exact h, below_setCells _ o1_2.out _ _ _ H11.out.2⟩
  clear H11
  generalize hgw : World.setCells _ _ _ _ = w12 at H12 ⊢
  clear hgw
  refine rest_nil ?_
  refine then_normal ?_
  refine wp_ret ?_
  repeat (first | refine then_ret ?_ | refine block_ret ?_)
  have hf0 := cel_var (k := 6) H12.out.1 2 rfl Tryd.isAgg73 Tryd.sizeOf73 rfl
  refine bodyPost_ret (v := V [r 0, r 1, r 2, r 3, r 4, r 5]) (by simp [results, Tryd.results57, asAddr, hf0]) rfl ?_
  exact ⟨rfl, H12.out.2⟩
set_option maxHeartbeats 1000000 in
set_option maxRecDepth 100000 in
theorem plus2_gen (a0 a1 a2 a3 b0 b1 b2 b3 r0 r1 r2 r3 : Nat)
    (c0 : ∀ w, Calls Tryd.prog 75 #[V [a0, a1], V [b0, b1]] w fun e w' => e = .returned (V [r0, r1]) ∧ Below w.heap.size w w')
    (c1 : ∀ w, Calls Tryd.prog 75 #[V [a2, a3], V [b2, b3]] w fun e w' => e = .returned (V [r2, r3]) ∧ Below w.heap.size w w') (w : World) :
    Calls Tryd.prog 59 #[V [a0, a1, a2, a3], V [b0, b1, b2, b3]] w fun e w' => e = .returned (V [r0, r1, r2, r3]) ∧ Below w.heap.size w w' := by
  have H0 : Hid (_ ∧ _) := ⟨Mm.nil w, Below.refl w.heap.size w⟩
  have C0 : Hid _ := c0
  have C1 : Hid _ := c1
  clear c0 c1
  go_enter Tryd.func59, Tryd.ntmps59
  refine wp_seq ?_
  refine walk_seq 3 [.made (cel [a0, a1, a2, a3]) 61, .made (cel [b0, b1, b2, b3]) 61, .made (cel [0, 0, 0, 0]) 61] _ ?pre1 ?F1 ?hpre1 (fun γ => ?hF1) (by kernel_rfl) trivial (sB H0) ?ho1 ?he1
  case hpre1 => simp only [tk, tz]; rfl
  case hF1 => simp only [fill, Kind.val, Act.put, sa, sz, ss]; rfl
  case ho1 =>
    refine ak (fun γ => ⟨rfl, fun w' => ex_boxA rfl rfl⟩) ?_
    refine ak (fun γ => ⟨rfl, fun w' => ex_boxA rfl rfl⟩) ?_
    refine ak (fun γ => ⟨rfl, fun w' => ex_madeW2 rfl⟩) ?_
    exact trivial
  intro γ w1 l hM hl
  have H1 : Hid (Mm w1 [(γ 0, cel [a0, a1, a2, a3]), (γ 1, cel [b0, b1, b2, b3]), (γ 2, cel [0, 0, 0, 0])] ∧ _) := growB H0 hM (Nat.le_refl _) hl [0, 1, 2] rfl (by decide)
  have o1_0 := ownB H0 hM (Nat.le_refl _) hl (i := 0) rfl
  have o1_1 := ownB H0 hM (Nat.le_refl _) hl (i := 1) rfl
  have o1_2 := ownB H0 hM (Nat.le_refl _) hl (i := 2) rfl
  clear hM hl l
  generalize γ 0 = γ1_0 at H1 o1_0 ⊢
  generalize γ 1 = γ1_1 at H1 o1_1 ⊢
  generalize γ 2 = γ1_2 at H1 o1_2 ⊢
  clear γ
  refine rest0 rfl (then_normal ?_)
  refine wp_seq ?_
  refine walk_any (by kernel_rfl) 11 [.quiet (PT γ1_0 0), .quiet (V [a0, a1]), .quiet (PT γ1_1 0), .quiet (V [b0, b1]), .call (V [r0, r1]), .quiet (PT γ1_0 12), .quiet (V [a2, a3]), .quiet (PT γ1_1 12), .quiet (V [b2, b3]), .call (V [r2, r3]), .quiet (V [r0, r1, r2, r3])] _ ?pre2 ?F2 ?hpre2 (fun γ => ?hF2) (by kernel_rfl) trivial (sB H1) ?ho2 ?he2
  case hpre2 => simp only [tk, tz]; rfl
  case hF2 => simp only [fill, Kind.val, Act.put, sa, sz, ss]; rfl
  case ho2 =>
    refine ak (by refine fun γ => ⟨rfl, fun w' h => ?_⟩; clear h; go_simp) ?_
    refine ak (fun γ => ⟨rfl, fun w' h => ex_loadA (i := 0) (k := 2) h 0 rfl rfl rfl Tryd.isAgg59 Tryd.sizeOf59 rfl rfl⟩) ?_
    refine ak (by refine fun γ => ⟨rfl, fun w' h => ?_⟩; clear h; go_simp) ?_
    refine ak (fun γ => ⟨rfl, fun w' h => ex_loadA (i := 0) (k := 2) h 1 rfl rfl rfl Tryd.isAgg59 Tryd.sizeOf59 rfl rfl⟩) ?_
    refine ak (fun γ => ⟨rfl, fun w' h => ⟨75, #[V [a0, a1], V [b0, b1]], exec_call rfl call75 rfl (mpn rfl), C0.out w'⟩⟩) ?_
    refine ak (by refine fun γ => ⟨rfl, fun w' h => ?_⟩; clear h; go_simp) ?_
    refine ak (fun γ => ⟨rfl, fun w' h => ex_loadA (i := 2) (k := 2) h 0 rfl rfl rfl Tryd.isAgg59 Tryd.sizeOf59 rfl rfl⟩) ?_
    refine ak (by refine fun γ => ⟨rfl, fun w' h => ?_⟩; clear h; go_simp) ?_
    refine ak (fun γ => ⟨rfl, fun w' h => ex_loadA (i := 2) (k := 2) h 1 rfl rfl rfl Tryd.isAgg59 Tryd.sizeOf59 rfl rfl⟩) ?_
    refine ak (fun γ => ⟨rfl, fun w' h => ⟨75, #[V [a2, a3], V [b2, b3]], exec_call rfl call75 rfl (mpn rfl), C1.out w'⟩⟩) ?_
    refine ak (fun γ => ⟨rfl, fun w' _ => ex_buildW2 rfl rfl rfl⟩) ?_
    exact trivial
  intro γ w2 l hM hl
  have H2 := keepB H1 hM.below
  clear hM hl l H1 γ
  refine rest_at (l := [11]) rfl ?_
  refine rest_store rfl rfl rfl (ex_storeA (i := 0) (ms := [r0, r1, r2, r3]) H2.out.1 2 rfl rfl rfl rfl Tryd.sizeOf61 (Nat.le_of_ble_eq_true rfl)) ?_
  have H3 : Hid (Mm (w2.setCells γ1_2 (6 * 0) (cel [r0, r1, r2, r3])) [(γ1_0, cel [a0, a1, a2, a3]), (γ1_1, cel [b0, b1, b2, b3]), (γ1_2, cel [r0, r1, r2, r3])] ∧ Below w.heap.size w (w2.setCells γ1_2 (6 * 0) (cel [r0, r1, r2, r3]))) := ⟨by
    have h := H2.out.1.put 2 (off := 6 * 0) (vs := cel [r0, r1, r2, r3]) rfl (by simp only [cel_len]; exact Nat.le_of_ble_eq_true rfl)
    rw [cel_patch] at h
    exact h, below_setCells _ o1_2.out _ _ _ H2.out.2⟩
  clear H2
  generalize hgw : World.setCells _ _ _ _ = w3 at H3 ⊢
  clear hgw
  refine rest_nil ?_
  refine then_normal ?_
  refine wp_ret ?_
  repeat (first | refine then_ret ?_ | refine block_ret ?_)
  have hf0 := cel_var (k := 4) H3.out.1 2 rfl Tryd.isAgg61 Tryd.sizeOf61 rfl
  refine bodyPost_ret (v := V [r0, r1, r2, r3]) (by simp [results, Tryd.results59, asAddr, hf0]) rfl ?_
  exact ⟨rfl, H3.out.2⟩
set_option maxHeartbeats 1000000 in
set_option maxRecDepth 100000 in
theorem less2_gen (a0 a1 a2 a3 b0 b1 b2 b3 r0 r1 r2 r3 : Nat)
    (c0 : ∀ w, Calls Tryd.prog 66 #[V [a0, a1], V [b0, b1]] w fun e w' => e = .returned (V [r0, r1]) ∧ Below w.heap.size w w')
    (c1 : ∀ w, Calls Tryd.prog 66 #[V [a2, a3], V [b2, b3]] w fun e w' => e = .returned (V [r2, r3]) ∧ Below w.heap.size w w') (w : World) :
    Calls Tryd.prog 60 #[V [a0, a1, a2, a3], V [b0, b1, b2, b3]] w fun e w' => e = .returned (V [r0, r1, r2, r3]) ∧ Below w.heap.size w w' := by
  have H0 : Hid (_ ∧ _) := ⟨Mm.nil w, Below.refl w.heap.size w⟩
  have C0 : Hid _ := c0
  have C1 : Hid _ := c1
  clear c0 c1
  go_enter Tryd.func60, Tryd.ntmps60
  refine wp_seq ?_
  refine walk_seq 3 [.made (cel [a0, a1, a2, a3]) 61, .made (cel [b0, b1, b2, b3]) 61, .made (cel [0, 0, 0, 0]) 61] _ ?pre1 ?F1 ?hpre1 (fun γ => ?hF1) (by kernel_rfl) trivial (sB H0) ?ho1 ?he1
  case hpre1 => simp only [tk, tz]; rfl
  case hF1 => simp only [fill, Kind.val, Act.put, sa, sz, ss]; rfl
  case ho1 =>
    refine ak (fun γ => ⟨rfl, fun w' => ex_boxA rfl rfl⟩) ?_
    refine ak (fun γ => ⟨rfl, fun w' => ex_boxA rfl rfl⟩) ?_
    refine ak (fun γ => ⟨rfl, fun w' => ex_madeW2 rfl⟩) ?_
    exact trivial
  intro γ w1 l hM hl
  have H1 : Hid (Mm w1 [(γ 0, cel [a0, a1, a2, a3]), (γ 1, cel [b0, b1, b2, b3]), (γ 2, cel [0, 0, 0, 0])] ∧ _) := growB H0 hM (Nat.le_refl _) hl [0, 1, 2] rfl (by decide)
  have o1_0 := ownB H0 hM (Nat.le_refl _) hl (i := 0) rfl
  have o1_1 := ownB H0 hM (Nat.le_refl _) hl (i := 1) rfl
  have o1_2 := ownB H0 hM (Nat.le_refl _) hl (i := 2) rfl
  clear hM hl l
  generalize γ 0 = γ1_0 at H1 o1_0 ⊢
  generalize γ 1 = γ1_1 at H1 o1_1 ⊢
  generalize γ 2 = γ1_2 at H1 o1_2 ⊢
  clear γ
  refine rest0 rfl (then_normal ?_)
  refine wp_seq ?_
  refine walk_any (by kernel_rfl) 11 [.quiet (PT γ1_0 0), .quiet (V [a0, a1]), .quiet (PT γ1_1 0), .quiet (V [b0, b1]), .call (V [r0, r1]), .quiet (PT γ1_0 12), .quiet (V [a2, a3]), .quiet (PT γ1_1 12), .quiet (V [b2, b3]), .call (V [r2, r3]), .quiet (V [r0, r1, r2, r3])] _ ?pre2 ?F2 ?hpre2 (fun γ => ?hF2) (by kernel_rfl) trivial (sB H1) ?ho2 ?he2
  case hpre2 => simp only [tk, tz]; rfl
  case hF2 => simp only [fill, Kind.val, Act.put, sa, sz, ss]; rfl
  case ho2 =>
    refine ak (by refine fun γ => ⟨rfl, fun w' h => ?_⟩; clear h; go_simp) ?_
    refine ak (fun γ => ⟨rfl, fun w' h => ex_loadA (i := 0) (k := 2) h 0 rfl rfl rfl Tryd.isAgg59 Tryd.sizeOf59 rfl rfl⟩) ?_
    refine ak (by refine fun γ => ⟨rfl, fun w' h => ?_⟩; clear h; go_simp) ?_
    refine ak (fun γ => ⟨rfl, fun w' h => ex_loadA (i := 0) (k := 2) h 1 rfl rfl rfl Tryd.isAgg59 Tryd.sizeOf59 rfl rfl⟩) ?_
    refine ak (fun γ => ⟨rfl, fun w' h => ⟨66, #[V [a0, a1], V [b0, b1]], exec_call rfl call66 rfl (mpn rfl), C0.out w'⟩⟩) ?_
    refine ak (by refine fun γ => ⟨rfl, fun w' h => ?_⟩; clear h; go_simp) ?_
    refine ak (fun γ => ⟨rfl, fun w' h => ex_loadA (i := 2) (k := 2) h 0 rfl rfl rfl Tryd.isAgg59 Tryd.sizeOf59 rfl rfl⟩) ?_
    refine ak (by refine fun γ => ⟨rfl, fun w' h => ?_⟩; clear h; go_simp) ?_
    refine ak (fun γ => ⟨rfl, fun w' h => ex_loadA (i := 2) (k := 2) h 1 rfl rfl rfl Tryd.isAgg59 Tryd.sizeOf59 rfl rfl⟩) ?_
    refine ak (fun γ => ⟨rfl, fun w' h => ⟨66, #[V [a2, a3], V [b2, b3]], exec_call rfl call66 rfl (mpn rfl), C1.out w'⟩⟩) ?_
    refine ak (fun γ => ⟨rfl, fun w' _ => ex_buildW2 rfl rfl rfl⟩) ?_
    exact trivial
  intro γ w2 l hM hl
  have H2 := keepB H1 hM.below
  clear hM hl l H1 γ
  refine rest_at (l := [11]) rfl ?_
  refine rest_store rfl rfl rfl (ex_storeA (i := 0) (ms := [r0, r1, r2, r3]) H2.out.1 2 rfl rfl rfl rfl Tryd.sizeOf61 (Nat.le_of_ble_eq_true rfl)) ?_
  have H3 : Hid (Mm (w2.setCells γ1_2 (6 * 0) (cel [r0, r1, r2, r3])) [(γ1_0, cel [a0, a1, a2, a3]), (γ1_1, cel [b0, b1, b2, b3]), (γ1_2, cel [r0, r1, r2, r3])] ∧ Below w.heap.size w (w2.setCells γ1_2 (6 * 0) (cel [r0, r1, r2, r3]))) := ⟨by
    have h := H2.out.1.put 2 (off := 6 * 0) (vs := cel [r0, r1, r2, r3]) rfl (by simp only [cel_len]; exact Nat.le_of_ble_eq_true rfl)
    rw [cel_patch] at h
    exact h, below_setCells _ o1_2.out _ _ _ H2.out.2⟩
  clear H2
  generalize hgw : World.setCells _ _ _ _ = w3 at H3 ⊢
  clear hgw
  refine rest_nil ?_
  refine then_normal ?_
  refine wp_ret ?_
  repeat (first | refine then_ret ?_ | refine block_ret ?_)
  have hf0 := cel_var (k := 4) H3.out.1 2 rfl Tryd.isAgg61 Tryd.sizeOf61 rfl
  refine bodyPost_ret (v := V [r0, r1, r2, r3]) (by simp [results, Tryd.results60, asAddr, hf0]) rfl ?_
  exact ⟨rfl, H3.out.2⟩
set_option maxHeartbeats 1000000 in
set_option maxRecDepth 100000 in
theorem raised_gen (a0 a1 a2 a3 r0 r1 r2 r3 : Nat)
    (c0 : ∀ w, Calls Tryd.prog 66 #[V [a0, a1], V [a2, a3]] w fun e w' => e = .returned (V [r0, r1]) ∧ Below w.heap.size w w')
    (c1 : ∀ w, Calls Tryd.prog 75 #[V [a0, a1], V [a2, a3]] w fun e w' => e = .returned (V [r2, r3]) ∧ Below w.heap.size w w') (w : World) :
    Calls Tryd.prog 58 #[V [a0, a1, a2, a3]] w fun e w' => e = .returned (V [r0, r1, r2, r3]) ∧ Below w.heap.size w w' := by
  have H0 : Hid (_ ∧ _) := ⟨Mm.nil w, Below.refl w.heap.size w⟩
  have C0 : Hid _ := c0
  have C1 : Hid _ := c1
  clear c0 c1
  go_enter Tryd.func58, Tryd.ntmps58
  refine wp_seq ?_
  refine walk_seq 2 [.made (cel [a0, a1, a2, a3]) 61, .made (cel [0, 0, 0, 0]) 61] _ ?pre1 ?F1 ?hpre1 (fun γ => ?hF1) (by kernel_rfl) trivial (sB H0) ?ho1 ?he1
  case hpre1 => simp only [tk, tz]; rfl
  case hF1 => simp only [fill, Kind.val, Act.put, sa, sz, ss]; rfl
  case ho1 =>
    refine ak (fun γ => ⟨rfl, fun w' => ex_boxA rfl rfl⟩) ?_
    refine ak (fun γ => ⟨rfl, fun w' => ex_madeW2 rfl⟩) ?_
    exact trivial
  intro γ w1 l hM hl
  have H1 : Hid (Mm w1 [(γ 0, cel [a0, a1, a2, a3]), (γ 1, cel [0, 0, 0, 0])] ∧ _) := growB H0 hM (Nat.le_refl _) hl [0, 1] rfl (by decide)
  have o1_0 := ownB H0 hM (Nat.le_refl _) hl (i := 0) rfl
  have o1_1 := ownB H0 hM (Nat.le_refl _) hl (i := 1) rfl
  clear hM hl l
  generalize γ 0 = γ1_0 at H1 o1_0 ⊢
  generalize γ 1 = γ1_1 at H1 o1_1 ⊢
  clear γ
  refine rest0 rfl (then_normal ?_)
  refine wp_seq ?_
  refine walk_any (by kernel_rfl) 11 [.quiet (PT γ1_0 0), .quiet (V [a0, a1]), .quiet (PT γ1_0 12), .quiet (V [a2, a3]), .call (V [r0, r1]), .quiet (PT γ1_0 0), .quiet (V [a0, a1]), .quiet (PT γ1_0 12), .quiet (V [a2, a3]), .call (V [r2, r3]), .quiet (V [r0, r1, r2, r3])] _ ?pre2 ?F2 ?hpre2 (fun γ => ?hF2) (by kernel_rfl) trivial (sB H1) ?ho2 ?he2
  case hpre2 => simp only [tk, tz]; rfl
  case hF2 => simp only [fill, Kind.val, Act.put, sa, sz, ss]; rfl
  case ho2 =>
    refine ak (by refine fun γ => ⟨rfl, fun w' h => ?_⟩; clear h; go_simp) ?_
    refine ak (fun γ => ⟨rfl, fun w' h => ex_loadA (i := 0) (k := 2) h 0 rfl rfl rfl Tryd.isAgg59 Tryd.sizeOf59 rfl rfl⟩) ?_
    refine ak (by refine fun γ => ⟨rfl, fun w' h => ?_⟩; clear h; go_simp) ?_
    refine ak (fun γ => ⟨rfl, fun w' h => ex_loadA (i := 2) (k := 2) h 0 rfl rfl rfl Tryd.isAgg59 Tryd.sizeOf59 rfl rfl⟩) ?_
    refine ak (fun γ => ⟨rfl, fun w' h => ⟨66, #[V [a0, a1], V [a2, a3]], exec_call rfl call66 rfl (mpn rfl), C0.out w'⟩⟩) ?_
    refine ak (by refine fun γ => ⟨rfl, fun w' h => ?_⟩; clear h; go_simp) ?_
    refine ak (fun γ => ⟨rfl, fun w' h => ex_loadA (i := 0) (k := 2) h 0 rfl rfl rfl Tryd.isAgg59 Tryd.sizeOf59 rfl rfl⟩) ?_
    refine ak (by refine fun γ => ⟨rfl, fun w' h => ?_⟩; clear h; go_simp) ?_
    refine ak (fun γ => ⟨rfl, fun w' h => ex_loadA (i := 2) (k := 2) h 0 rfl rfl rfl Tryd.isAgg59 Tryd.sizeOf59 rfl rfl⟩) ?_
    refine ak (fun γ => ⟨rfl, fun w' h => ⟨75, #[V [a0, a1], V [a2, a3]], exec_call rfl call75 rfl (mpn rfl), C1.out w'⟩⟩) ?_
    refine ak (fun γ => ⟨rfl, fun w' _ => ex_buildW2 rfl rfl rfl⟩) ?_
    exact trivial
  intro γ w2 l hM hl
  have H2 := keepB H1 hM.below
  clear hM hl l H1 γ
  refine rest_at (l := [11]) rfl ?_
  refine rest_store rfl rfl rfl (ex_storeA (i := 0) (ms := [r0, r1, r2, r3]) H2.out.1 1 rfl rfl rfl rfl Tryd.sizeOf61 (Nat.le_of_ble_eq_true rfl)) ?_
  have H3 : Hid (Mm (w2.setCells γ1_1 (6 * 0) (cel [r0, r1, r2, r3])) [(γ1_0, cel [a0, a1, a2, a3]), (γ1_1, cel [r0, r1, r2, r3])] ∧ Below w.heap.size w (w2.setCells γ1_1 (6 * 0) (cel [r0, r1, r2, r3]))) := ⟨by
    have h := H2.out.1.put 1 (off := 6 * 0) (vs := cel [r0, r1, r2, r3]) rfl (by simp only [cel_len]; exact Nat.le_of_ble_eq_true rfl)
    rw [cel_patch] at h
    exact h, below_setCells _ o1_1.out _ _ _ H2.out.2⟩
  clear H2
  generalize hgw : World.setCells _ _ _ _ = w3 at H3 ⊢
  clear hgw
  refine rest_nil ?_
  refine then_normal ?_
  refine wp_ret ?_
  repeat (first | refine then_ret ?_ | refine block_ret ?_)
  have hf0 := cel_var (k := 4) H3.out.1 1 rfl Tryd.isAgg61 Tryd.sizeOf61 rfl
  refine bodyPost_ret (v := V [r0, r1, r2, r3]) (by simp [results, Tryd.results58, asAddr, hf0]) rfl ?_
  exact ⟨rfl, H3.out.2⟩
set_option maxHeartbeats 4000000 in
set_option maxRecDepth 100000 in
theorem parts_0 (a : Nat → Nat)
     (w : World) :
    Calls Tryd.prog 55 #[V [a 0, a 1, a 2, a 3, a 4, a 5, a 6, a 7, a 8, a 9, a 10, a 11], .int .i64 0] w fun e w' => e = .returned (V [a 0, a 1, a 4, a 5, a 8, a 9]) ∧ Below w.heap.size w w' := by
  have H0 : Hid (_ ∧ _) := ⟨Mm.nil w, Below.refl w.heap.size w⟩
  go_enter Tryd.func55, Tryd.ntmps55
  refine wp_seq ?_
  refine walk_seq 2 [.made (cel [a 0, a 1, a 2, a 3, a 4, a 5, a 6, a 7, a 8, a 9, a 10, a 11]) 37, .made (cel [0, 0, 0, 0, 0, 0]) 73] _ ?pre1 ?F1 ?hpre1 (fun γ => ?hF1) (by kernel_rfl) trivial (sB H0) ?ho1 ?he1
  case hpre1 => simp only [tk, tz]; rfl
  case hF1 => simp only [fill, Kind.val, Act.put, sa, sz, ss]; rfl
  case ho1 =>
    refine ak (fun γ => ⟨rfl, fun w' => ex_boxA rfl rfl⟩) ?_
    refine ak (fun γ => ⟨rfl, fun w' => ex_madeTH rfl⟩) ?_
    exact trivial
  intro γ w1 l hM hl
  have H1 : Hid (Mm w1 [(γ 0, cel [a 0, a 1, a 2, a 3, a 4, a 5, a 6, a 7, a 8, a 9, a 10, a 11]), (γ 1, cel [0, 0, 0, 0, 0, 0])] ∧ _) := growB H0 hM (Nat.le_refl _) hl [0, 1] rfl (by decide)
  have o1_0 := ownB H0 hM (Nat.le_refl _) hl (i := 0) rfl
  have o1_1 := ownB H0 hM (Nat.le_refl _) hl (i := 1) rfl
  clear hM hl l
  generalize γ 0 = γ1_0 at H1 o1_0 ⊢
  generalize γ 1 = γ1_1 at H1 o1_1 ⊢
  clear γ
  refine rest0 rfl (then_normal ?_)
  refine wp_seq ?_
  refine walk_any (by kernel_rfl) 12 [.quiet (.int .i64 0), .quiet (PT γ1_0 0), .quiet (V [a 0, a 1]), .quiet (.int .i64 0), .quiet (.int .i64 2), .quiet (PT γ1_0 24), .quiet (V [a 4, a 5]), .quiet (.int .i64 0), .quiet (.int .i64 4), .quiet (PT γ1_0 48), .quiet (V [a 8, a 9]), .quiet (V [a 0, a 1, a 4, a 5, a 8, a 9])] _ ?pre2 ?F2 ?hpre2 (fun γ => ?hF2) (by kernel_rfl) trivial (sB H1) ?ho2 ?he2
  case hpre2 => simp only [tk, tz]; rfl
  case hF2 => simp only [fill, Kind.val, Act.put, sa, sz, ss]; rfl
  case ho2 =>
    refine ak (fun _ => ⟨rfl, fun _ _ => rfl⟩) ?_
    refine ak (by refine fun γ => ⟨rfl, fun w' h => ?_⟩; clear h; go_simp) ?_
    refine ak (fun γ => ⟨rfl, fun w' h => ex_loadA (i := 0) (k := 2) h 0 rfl rfl rfl Tryd.isAgg26 Tryd.sizeOf26 rfl rfl⟩) ?_
    refine ak (fun _ => ⟨rfl, fun _ _ => rfl⟩) ?_
    refine ak (by refine fun γ => ⟨rfl, fun w' h => ?_⟩; clear h; go_simp; rfl) ?_
    refine ak (by refine fun γ => ⟨rfl, fun w' h => ?_⟩; clear h; go_simp) ?_
    refine ak (fun γ => ⟨rfl, fun w' h => ex_loadA (i := 4) (k := 2) h 0 rfl rfl rfl Tryd.isAgg26 Tryd.sizeOf26 rfl rfl⟩) ?_
    refine ak (fun _ => ⟨rfl, fun _ _ => rfl⟩) ?_
    refine ak (by refine fun γ => ⟨rfl, fun w' h => ?_⟩; clear h; go_simp; rfl) ?_
    refine ak (by refine fun γ => ⟨rfl, fun w' h => ?_⟩; clear h; go_simp) ?_
    refine ak (fun γ => ⟨rfl, fun w' h => ex_loadA (i := 8) (k := 2) h 0 rfl rfl rfl Tryd.isAgg26 Tryd.sizeOf26 rfl rfl⟩) ?_
    refine ak (fun γ => ⟨rfl, fun w' _ => ex_buildTH rfl rfl rfl rfl⟩) ?_
    exact trivial
  intro γ w2 l hM hl
  have H2 := keepB H1 hM.below
  clear hM hl l H1 γ
  refine rest_at (l := [12]) rfl ?_
  refine rest_store rfl rfl rfl (ex_storeA (i := 0) (ms := [a 0, a 1, a 4, a 5, a 8, a 9]) H2.out.1 1 rfl rfl rfl rfl Tryd.sizeOf73 (Nat.le_of_ble_eq_true rfl)) ?_
  have H3 : Hid (Mm (w2.setCells γ1_1 (6 * 0) (cel [a 0, a 1, a 4, a 5, a 8, a 9])) [(γ1_0, cel [a 0, a 1, a 2, a 3, a 4, a 5, a 6, a 7, a 8, a 9, a 10, a 11]), (γ1_1, cel [a 0, a 1, a 4, a 5, a 8, a 9])] ∧ Below w.heap.size w (w2.setCells γ1_1 (6 * 0) (cel [a 0, a 1, a 4, a 5, a 8, a 9]))) := ⟨by
    have h := H2.out.1.put 1 (off := 6 * 0) (vs := cel [a 0, a 1, a 4, a 5, a 8, a 9]) rfl (by simp only [cel_len]; exact Nat.le_of_ble_eq_true rfl)
    rw [cel_patch] at h
    exact h, below_setCells _ o1_1.out _ _ _ H2.out.2⟩
  clear H2
  generalize hgw : World.setCells _ _ _ _ = w3 at H3 ⊢
  clear hgw
  refine rest_nil ?_
  refine then_normal ?_
  refine wp_ret ?_
  repeat (first | refine then_ret ?_ | refine block_ret ?_)
  have hf0 := cel_var (k := 6) H3.out.1 1 rfl Tryd.isAgg73 Tryd.sizeOf73 rfl
  refine bodyPost_ret (v := V [a 0, a 1, a 4, a 5, a 8, a 9]) (by simp [results, Tryd.results55, asAddr, hf0]) rfl ?_
  exact ⟨rfl, H3.out.2⟩
set_option maxHeartbeats 4000000 in
set_option maxRecDepth 100000 in
theorem parts_1 (a : Nat → Nat)
     (w : World) :
    Calls Tryd.prog 55 #[V [a 0, a 1, a 2, a 3, a 4, a 5, a 6, a 7, a 8, a 9, a 10, a 11], .int .i64 1] w fun e w' => e = .returned (V [a 2, a 3, a 6, a 7, a 10, a 11]) ∧ Below w.heap.size w w' := by
  have H0 : Hid (_ ∧ _) := ⟨Mm.nil w, Below.refl w.heap.size w⟩
  go_enter Tryd.func55, Tryd.ntmps55
  refine wp_seq ?_
  refine walk_seq 2 [.made (cel [a 0, a 1, a 2, a 3, a 4, a 5, a 6, a 7, a 8, a 9, a 10, a 11]) 37, .made (cel [0, 0, 0, 0, 0, 0]) 73] _ ?pre1 ?F1 ?hpre1 (fun γ => ?hF1) (by kernel_rfl) trivial (sB H0) ?ho1 ?he1
  case hpre1 => simp only [tk, tz]; rfl
  case hF1 => simp only [fill, Kind.val, Act.put, sa, sz, ss]; rfl
  case ho1 =>
    refine ak (fun γ => ⟨rfl, fun w' => ex_boxA rfl rfl⟩) ?_
    refine ak (fun γ => ⟨rfl, fun w' => ex_madeTH rfl⟩) ?_
    exact trivial
  intro γ w1 l hM hl
  have H1 : Hid (Mm w1 [(γ 0, cel [a 0, a 1, a 2, a 3, a 4, a 5, a 6, a 7, a 8, a 9, a 10, a 11]), (γ 1, cel [0, 0, 0, 0, 0, 0])] ∧ _) := growB H0 hM (Nat.le_refl _) hl [0, 1] rfl (by decide)
  have o1_0 := ownB H0 hM (Nat.le_refl _) hl (i := 0) rfl
  have o1_1 := ownB H0 hM (Nat.le_refl _) hl (i := 1) rfl
  clear hM hl l
  generalize γ 0 = γ1_0 at H1 o1_0 ⊢
  generalize γ 1 = γ1_1 at H1 o1_1 ⊢
  clear γ
  refine rest0 rfl (then_normal ?_)
  refine wp_seq ?_
  refine walk_any (by kernel_rfl) 12 [.quiet (.int .i64 1), .quiet (PT γ1_0 12), .quiet (V [a 2, a 3]), .quiet (.int .i64 1), .quiet (.int .i64 3), .quiet (PT γ1_0 36), .quiet (V [a 6, a 7]), .quiet (.int .i64 1), .quiet (.int .i64 5), .quiet (PT γ1_0 60), .quiet (V [a 10, a 11]), .quiet (V [a 2, a 3, a 6, a 7, a 10, a 11])] _ ?pre2 ?F2 ?hpre2 (fun γ => ?hF2) (by kernel_rfl) trivial (sB H1) ?ho2 ?he2
  case hpre2 => simp only [tk, tz]; rfl
  case hF2 => simp only [fill, Kind.val, Act.put, sa, sz, ss]; rfl
  case ho2 =>
    refine ak (fun _ => ⟨rfl, fun _ _ => rfl⟩) ?_
    refine ak (by refine fun γ => ⟨rfl, fun w' h => ?_⟩; clear h; go_simp) ?_
    refine ak (fun γ => ⟨rfl, fun w' h => ex_loadA (i := 2) (k := 2) h 0 rfl rfl rfl Tryd.isAgg26 Tryd.sizeOf26 rfl rfl⟩) ?_
    refine ak (fun _ => ⟨rfl, fun _ _ => rfl⟩) ?_
    refine ak (by refine fun γ => ⟨rfl, fun w' h => ?_⟩; clear h; go_simp; rfl) ?_
    refine ak (by refine fun γ => ⟨rfl, fun w' h => ?_⟩; clear h; go_simp) ?_
    refine ak (fun γ => ⟨rfl, fun w' h => ex_loadA (i := 6) (k := 2) h 0 rfl rfl rfl Tryd.isAgg26 Tryd.sizeOf26 rfl rfl⟩) ?_
    refine ak (fun _ => ⟨rfl, fun _ _ => rfl⟩) ?_
    refine ak (by refine fun γ => ⟨rfl, fun w' h => ?_⟩; clear h; go_simp; rfl) ?_
    refine ak (by refine fun γ => ⟨rfl, fun w' h => ?_⟩; clear h; go_simp) ?_
    refine ak (fun γ => ⟨rfl, fun w' h => ex_loadA (i := 10) (k := 2) h 0 rfl rfl rfl Tryd.isAgg26 Tryd.sizeOf26 rfl rfl⟩) ?_
    refine ak (fun γ => ⟨rfl, fun w' _ => ex_buildTH rfl rfl rfl rfl⟩) ?_
    exact trivial
  intro γ w2 l hM hl
  have H2 := keepB H1 hM.below
  clear hM hl l H1 γ
  refine rest_at (l := [12]) rfl ?_
  refine rest_store rfl rfl rfl (ex_storeA (i := 0) (ms := [a 2, a 3, a 6, a 7, a 10, a 11]) H2.out.1 1 rfl rfl rfl rfl Tryd.sizeOf73 (Nat.le_of_ble_eq_true rfl)) ?_
  have H3 : Hid (Mm (w2.setCells γ1_1 (6 * 0) (cel [a 2, a 3, a 6, a 7, a 10, a 11])) [(γ1_0, cel [a 0, a 1, a 2, a 3, a 4, a 5, a 6, a 7, a 8, a 9, a 10, a 11]), (γ1_1, cel [a 2, a 3, a 6, a 7, a 10, a 11])] ∧ Below w.heap.size w (w2.setCells γ1_1 (6 * 0) (cel [a 2, a 3, a 6, a 7, a 10, a 11]))) := ⟨by
    have h := H2.out.1.put 1 (off := 6 * 0) (vs := cel [a 2, a 3, a 6, a 7, a 10, a 11]) rfl (by simp only [cel_len]; exact Nat.le_of_ble_eq_true rfl)
    rw [cel_patch] at h
    exact h, below_setCells _ o1_1.out _ _ _ H2.out.2⟩
  clear H2
  generalize hgw : World.setCells _ _ _ _ = w3 at H3 ⊢
  clear hgw
  refine rest_nil ?_
  refine then_normal ?_
  refine wp_ret ?_
  repeat (first | refine then_ret ?_ | refine block_ret ?_)
  have hf0 := cel_var (k := 6) H3.out.1 1 rfl Tryd.isAgg73 Tryd.sizeOf73 rfl
  refine bodyPost_ret (v := V [a 2, a 3, a 6, a 7, a 10, a 11]) (by simp [results, Tryd.results55, asAddr, hf0]) rfl ?_
  exact ⟨rfl, H3.out.2⟩
set_option maxHeartbeats 1000000 in
set_option maxRecDepth 100000 in
theorem one12_gen (k1 : Nat)
    (c0 : ∀ w, Calls Tryd.prog 35 #[] w fun e w' => e = .returned (V [k1, 0]) ∧ Below w.heap.size w w') (w : World) :
    Calls Tryd.prog 18 #[] w fun e w' => e = .returned (V [k1, 0, 0, 0, 0, 0, 0, 0, 0, 0, 0, 0]) ∧ Below w.heap.size w w' := by
  have H0 : Hid (_ ∧ _) := ⟨Mm.nil w, Below.refl w.heap.size w⟩
  have C0 : Hid _ := c0
  clear c0
  go_enter Tryd.func18, Tryd.ntmps18
  refine wp_seq ?_
  refine walk_seq 1 [.made (cel [0, 0, 0, 0, 0, 0, 0, 0, 0, 0, 0, 0]) 37] _ ?pre1 ?F1 ?hpre1 (fun γ => ?hF1) (by kernel_rfl) trivial (sB H0) ?ho1 ?he1
  case hpre1 => simp only [tk, tz]; rfl
  case hF1 => simp only [fill, Kind.val, Act.put, sa, sz]; rfl
  case ho1 =>
    refine ak (fun γ => ⟨rfl, fun w' => ex_madeE12 rfl⟩) ?_
    exact trivial
  intro γ w1 l hM hl
  have H1 : Hid (Mm w1 [(γ 0, cel [0, 0, 0, 0, 0, 0, 0, 0, 0, 0, 0, 0])] ∧ _) := growB H0 hM (Nat.le_refl _) hl [0] rfl (by decide)
  have o1_0 := ownB H0 hM (Nat.le_refl _) hl (i := 0) rfl
  clear hM hl l
  generalize γ 0 = γ1_0 at H1 o1_0 ⊢
  clear γ
  refine rest0 rfl (then_normal ?_)
  refine wp_seq ?_
  refine walk_seq 2 [.call (V [k1, 0]), .quiet (V [k1, 0, 0, 0, 0, 0, 0, 0, 0, 0, 0, 0])] _ ?pre2 ?F2 ?hpre2 (fun γ => ?hF2) (by kernel_rfl) trivial (sB H1) ?ho2 ?he2
  case hpre2 => simp only [tk, tz]; rfl
  case hF2 => simp only [fill, Kind.val, Act.put, sa, sz, ss]; rfl
  case ho2 =>
    refine ak (fun γ => ⟨rfl, fun w' h => ⟨35, #[], exec_call rfl call35 rfl (mpn rfl), C0.out w'⟩⟩) ?_
    refine ak (fun γ => ⟨rfl, fun w' _ => ex_buildE12a rfl rfl⟩) ?_
    exact trivial
  intro γ w2 l hM hl
  have H2 := keepB H1 hM.below
  clear hM hl l H1 γ
  refine rest_at (l := [2]) rfl ?_
  refine rest_store rfl rfl rfl (ex_storeA (i := 0) (ms := [k1, 0, 0, 0, 0, 0, 0, 0, 0, 0, 0, 0]) H2.out.1 0 rfl rfl rfl rfl Tryd.sizeOf37 (Nat.le_of_ble_eq_true rfl)) ?_
  have H3 : Hid (Mm (w2.setCells γ1_0 (6 * 0) (cel [k1, 0, 0, 0, 0, 0, 0, 0, 0, 0, 0, 0])) [(γ1_0, cel [k1, 0, 0, 0, 0, 0, 0, 0, 0, 0, 0, 0])] ∧ Below w.heap.size w (w2.setCells γ1_0 (6 * 0) (cel [k1, 0, 0, 0, 0, 0, 0, 0, 0, 0, 0, 0]))) := ⟨by
    have h := H2.out.1.put 0 (off := 6 * 0) (vs := cel [k1, 0, 0, 0, 0, 0, 0, 0, 0, 0, 0, 0]) rfl (by simp only [cel_len]; exact Nat.le_of_ble_eq_true rfl)
    rw [cel_patch] at h
    exact h, below_setCells _ o1_0.out _ _ _ H2.out.2⟩
  clear H2
  generalize hgw : World.setCells _ _ _ _ = w3 at H3 ⊢
  clear hgw
  refine rest_nil ?_
  refine then_normal ?_
  refine wp_ret ?_
  repeat (first | refine then_ret ?_ | refine block_ret ?_)
  have hf0 := cel_var (k := 12) H3.out.1 0 rfl Tryd.isAgg37 Tryd.sizeOf37 rfl
  refine bodyPost_ret (v := V [k1, 0, 0, 0, 0, 0, 0, 0, 0, 0, 0, 0]) (by simp [results, Tryd.results18, asAddr, hf0]) rfl ?_
  exact ⟨rfl, H3.out.2⟩
set_option maxRecDepth 100000 in
theorem w_gen (k1 : Nat)
    (c0 : ∀ w, Calls Tryd.prog 12 #[.int .u64 1, .int .u64 0] w fun e w' => e = .returned (V [k1, 0]) ∧ Below w.heap.size w w') (w : World) :
    Calls Tryd.prog 22 #[] w fun e w' => e = .returned (V [0, 0, k1, 0, 0, 0, 0, 0, 0, 0, 0, 0]) ∧ Below w.heap.size w w' := by
  have H0 : Hid (_ ∧ _) := ⟨Mm.nil w, Below.refl w.heap.size w⟩
  have C0 : Hid _ := c0
  clear c0
  go_enter Tryd.func22, Tryd.ntmps22
  refine wp_seq ?_
  refine walk_seq 1 [.made (cel [0, 0, 0, 0, 0, 0, 0, 0, 0, 0, 0, 0]) 37] _ ?pre1 ?F1 ?hpre1 (fun γ => ?hF1) (by kernel_rfl) trivial (sB H0) ?ho1 ?he1
  case hpre1 => simp only [tk, tz]; rfl
  case hF1 => simp only [fill, Kind.val, Act.put, sa, sz]; rfl
  case ho1 =>
    refine ak (fun γ => ⟨rfl, fun w' => ex_madeE12 rfl⟩) ?_
    exact trivial
  intro γ w1 l hM hl
  have H1 : Hid (Mm w1 [(γ 0, cel [0, 0, 0, 0, 0, 0, 0, 0, 0, 0, 0, 0])] ∧ _) := growB H0 hM (Nat.le_refl _) hl [0] rfl (by decide)
  have o1_0 := ownB H0 hM (Nat.le_refl _) hl (i := 0) rfl
  clear hM hl l
  generalize γ 0 = γ1_0 at H1 o1_0 ⊢
  clear γ
  refine rest0 rfl (then_normal ?_)
  refine wp_seq ?_
  refine walk_seq 3 [.quiet (V [0, 0]), .call (V [k1, 0]), .quiet (V [0, 0, k1, 0, 0, 0, 0, 0, 0, 0, 0, 0])] _ ?pre2 ?F2 ?hpre2 (fun γ => ?hF2) (by kernel_rfl) trivial (sB H1) ?ho2 ?he2
  case hpre2 => simp only [tk, tz]; rfl
  case hF2 => simp only [fill, Kind.val, Act.put, sa, sz, ss]; rfl
  case ho2 =>
    refine ak (fun γ => ⟨rfl, fun w' _ => ex_buildE2z rfl⟩) ?_
    refine ak (fun γ => ⟨rfl, fun w' h => ⟨12, #[.int .u64 1, .int .u64 0], exec_call rfl call12 rfl (mpn rfl), C0.out w'⟩⟩) ?_
    refine ak (fun γ => ⟨rfl, fun w' _ => ex_buildE12b rfl rfl rfl⟩) ?_
    exact trivial
  intro γ w2 l hM hl
  have H2 := keepB H1 hM.below
  clear hM hl l H1 γ
  refine rest_at (l := [3]) rfl ?_
  refine rest_store rfl rfl rfl (ex_storeA (i := 0) (ms := [0, 0, k1, 0, 0, 0, 0, 0, 0, 0, 0, 0]) H2.out.1 0 rfl rfl rfl rfl Tryd.sizeOf37 (Nat.le_of_ble_eq_true rfl)) ?_
  have H3 : Hid (Mm (w2.setCells γ1_0 (6 * 0) (cel [0, 0, k1, 0, 0, 0, 0, 0, 0, 0, 0, 0])) [(γ1_0, cel [0, 0, k1, 0, 0, 0, 0, 0, 0, 0, 0, 0])] ∧ Below w.heap.size w (w2.setCells γ1_0 (6 * 0) (cel [0, 0, k1, 0, 0, 0, 0, 0, 0, 0, 0, 0]))) := ⟨by
    have h := H2.out.1.put 0 (off := 6 * 0) (vs := cel [0, 0, k1, 0, 0, 0, 0, 0, 0, 0, 0, 0]) rfl (by simp only [cel_len]; exact Nat.le_of_ble_eq_true rfl)
    rw [cel_patch] at h
    exact h, below_setCells _ o1_0.out _ _ _ H2.out.2⟩
  clear H2
  generalize hgw : World.setCells _ _ _ _ = w3 at H3 ⊢
  clear hgw
  refine rest_nil ?_
  refine then_normal ?_
  refine wp_ret ?_
  repeat (first | refine then_ret ?_ | refine block_ret ?_)
  have hf0 := cel_var (k := 12) H3.out.1 0 rfl Tryd.isAgg37 Tryd.sizeOf37 rfl
  refine bodyPost_ret (v := V [0, 0, k1, 0, 0, 0, 0, 0, 0, 0, 0, 0]) (by simp [results, Tryd.results22, asAddr, hf0]) rfl ?_
  exact ⟨rfl, H3.out.2⟩
end Rg
end Go.Proofs.YtgdlhgbdigpfhaaDoor

namespace Go.Proofs.YtgdlhgbdigpfhaaDoor
open Go.RowKit
namespace Rg
set_option maxHeartbeats 4000000 in
set_option maxRecDepth 100000 in
theorem cross_12 (a b : Nat → Nat) (ga gb t0 t1 u0 u1 r0 r1 r2 r3 : Nat)
    (ca : ∀ w, Calls Tryd.prog 82 #[V [a 2, a 3], V [a 4, a 5]] w fun e w' => e = .returned (V [t0, t1]) ∧ Below w.heap.size w w')
    (cb : ∀ w, Calls Tryd.prog 82 #[V [b 2, b 3], V [b 4, b 5]] w fun e w' => e = .returned (V [u0, u1]) ∧ Below w.heap.size w w')
    (cc : ∀ w, Calls Tryd.prog 41 #[V [t0, t1], V [u0, u1]] w fun e w' => e = .returned (V [r0, r1, r2, r3]) ∧ Below w.heap.size w w') (w : World) (hm : Mm w [(ga, cel [a 0, a 1, a 2, a 3, a 4, a 5]), (gb, cel [b 0, b 1, b 2, b 3, b 4, b 5])]) :
    Calls Tryd.prog 81 #[.int .i64 1, .int .i64 2, PT ga 0, PT gb 0] w fun e w' => e = .returned (V [r0, r1, r2, r3]) ∧ Below w.heap.size w w' := by
  have H0 : Hid (_ ∧ _) := ⟨hm, Below.refl w.heap.size w⟩
  clear hm
  have CA : Hid _ := ca
  have CB : Hid _ := cb
  have CC : Hid _ := cc
  clear ca cb cc
  go_enter Tryd.func81, Tryd.ntmps81
  refine wp_seq ?_
  refine walk_seq 1 [.made (cel [0, 0, 0, 0]) 61] _ ?pre1 ?F1 ?hpre1 (fun γ => ?hF1) (by kernel_rfl) trivial (sB H0) ?ho1 ?he1
  case hpre1 => simp only [tk, tz]; rfl
  case hF1 => simp only [fill, Kind.val, Act.put, sa, sz, ss]; rfl
  case ho1 =>
    refine ak (fun γ => ⟨rfl, fun w' => ex_madeW2 rfl⟩) ?_
    exact trivial
  intro γ w1 l hM hl
  have H1 : Hid (Mm w1 [(γ 0, cel [0, 0, 0, 0]), (ga, cel [a 0, a 1, a 2, a 3, a 4, a 5]), (gb, cel [b 0, b 1, b 2, b 3, b 4, b 5])] ∧ _) := growB H0 hM (Nat.le_refl _) hl [0] rfl (by decide)
  have o1_0 := ownB H0 hM (Nat.le_refl _) hl (i := 0) rfl
  clear hM hl l
  generalize γ 0 = γ1_0 at H1 o1_0 ⊢
  clear γ
  refine rest0 rfl (then_normal ?_)
  refine wp_seq ?_
  refine walk_any (by kernel_rfl) 15 [.quiet (.int .i64 1), .quiet (PT ga 12), .quiet (V [a 2, a 3]), .quiet (.int .i64 2), .quiet (PT ga 24), .quiet (V [a 4, a 5]), .call (V [t0, t1]), .quiet (.int .i64 1), .quiet (PT gb 12), .quiet (V [b 2, b 3]), .quiet (.int .i64 2), .quiet (PT gb 24), .quiet (V [b 4, b 5]), .call (V [u0, u1]), .call (V [r0, r1, r2, r3])] _ ?pre2 ?F2 ?hpre2 (fun γ => ?hF2) (by kernel_rfl) trivial (sB H1) ?ho2 ?he2
  case hpre2 => simp only [tk, tz]; rfl
  case hF2 => simp only [fill, Kind.val, Act.put, sa, sz, ss]; rfl
  case ho2 =>
    refine ak (fun _ => ⟨rfl, fun _ _ => rfl⟩) ?_
    refine ak (by refine fun γ => ⟨rfl, fun w' h => ?_⟩; clear h; go_simp) ?_
    refine ak (fun γ => ⟨rfl, fun w' h => ex_loadA (i := 2) (k := 2) h 1 rfl rfl rfl Tryd.isAgg26 Tryd.sizeOf26 rfl rfl⟩) ?_
    refine ak (fun _ => ⟨rfl, fun _ _ => rfl⟩) ?_
    refine ak (by refine fun γ => ⟨rfl, fun w' h => ?_⟩; clear h; go_simp) ?_
    refine ak (fun γ => ⟨rfl, fun w' h => ex_loadA (i := 4) (k := 2) h 1 rfl rfl rfl Tryd.isAgg26 Tryd.sizeOf26 rfl rfl⟩) ?_
    refine ak (fun γ => ⟨rfl, fun w' h => ⟨82, #[V [a 2, a 3], V [a 4, a 5]], exec_call rfl call82 rfl (mpn rfl), CA.out w'⟩⟩) ?_
    refine ak (fun _ => ⟨rfl, fun _ _ => rfl⟩) ?_
    refine ak (by refine fun γ => ⟨rfl, fun w' h => ?_⟩; clear h; go_simp) ?_
    refine ak (fun γ => ⟨rfl, fun w' h => ex_loadA (i := 2) (k := 2) h 2 rfl rfl rfl Tryd.isAgg26 Tryd.sizeOf26 rfl rfl⟩) ?_
    refine ak (fun _ => ⟨rfl, fun _ _ => rfl⟩) ?_
    refine ak (by refine fun γ => ⟨rfl, fun w' h => ?_⟩; clear h; go_simp) ?_
    refine ak (fun γ => ⟨rfl, fun w' h => ex_loadA (i := 4) (k := 2) h 2 rfl rfl rfl Tryd.isAgg26 Tryd.sizeOf26 rfl rfl⟩) ?_
    refine ak (fun γ => ⟨rfl, fun w' h => ⟨82, #[V [b 2, b 3], V [b 4, b 5]], exec_call rfl call82 rfl (mpn rfl), CB.out w'⟩⟩) ?_
    refine ak (fun γ => ⟨rfl, fun w' h => ⟨41, #[V [t0, t1], V [u0, u1]], exec_call rfl call41 rfl (mpn rfl), CC.out w'⟩⟩) ?_
    exact trivial
  intro γ w2 l hM hl
  have H2 := keepB H1 hM.below
  clear hM hl l H1 γ
  refine rest_at (l := [15]) rfl ?_
  refine rest_store rfl rfl rfl (ex_storeA (i := 0) (ms := [r0, r1, r2, r3]) H2.out.1 0 rfl rfl rfl rfl Tryd.sizeOf61 (Nat.le_of_ble_eq_true rfl)) ?_
  have H3 : Hid (Mm (w2.setCells γ1_0 (6 * 0) (cel [r0, r1, r2, r3])) [(γ1_0, cel [r0, r1, r2, r3]), (ga, cel [a 0, a 1, a 2, a 3, a 4, a 5]), (gb, cel [b 0, b 1, b 2, b 3, b 4, b 5])] ∧ Below w.heap.size w (w2.setCells γ1_0 (6 * 0) (cel [r0, r1, r2, r3]))) := ⟨by
    have h := H2.out.1.put 0 (off := 6 * 0) (vs := cel [r0, r1, r2, r3]) rfl (by simp only [cel_len]; exact Nat.le_of_ble_eq_true rfl)
    rw [cel_patch] at h
    exact h, below_setCells _ o1_0.out _ _ _ H2.out.2⟩
  clear H2
  generalize hgw : World.setCells _ _ _ _ = w3 at H3 ⊢
  clear hgw
  refine rest_nil ?_
  refine then_normal ?_
  refine wp_ret ?_
  repeat (first | refine then_ret ?_ | refine block_ret ?_)
  have hf0 := cel_var (k := 4) H3.out.1 0 rfl Tryd.isAgg61 Tryd.sizeOf61 rfl
  refine bodyPost_ret (v := V [r0, r1, r2, r3]) (by simp [results, Tryd.results81, asAddr, hf0]) rfl ?_
  exact ⟨rfl, H3.out.2⟩
set_option maxHeartbeats 4000000 in
set_option maxRecDepth 100000 in
theorem cross_01 (a b : Nat → Nat) (ga gb t0 t1 u0 u1 r0 r1 r2 r3 : Nat)
    (ca : ∀ w, Calls Tryd.prog 82 #[V [a 0, a 1], V [a 2, a 3]] w fun e w' => e = .returned (V [t0, t1]) ∧ Below w.heap.size w w')
    (cb : ∀ w, Calls Tryd.prog 82 #[V [b 0, b 1], V [b 2, b 3]] w fun e w' => e = .returned (V [u0, u1]) ∧ Below w.heap.size w w')
    (cc : ∀ w, Calls Tryd.prog 41 #[V [t0, t1], V [u0, u1]] w fun e w' => e = .returned (V [r0, r1, r2, r3]) ∧ Below w.heap.size w w') (w : World) (hm : Mm w [(ga, cel [a 0, a 1, a 2, a 3, a 4, a 5]), (gb, cel [b 0, b 1, b 2, b 3, b 4, b 5])]) :
    Calls Tryd.prog 81 #[.int .i64 0, .int .i64 1, PT ga 0, PT gb 0] w fun e w' => e = .returned (V [r0, r1, r2, r3]) ∧ Below w.heap.size w w' := by
  have H0 : Hid (_ ∧ _) := ⟨hm, Below.refl w.heap.size w⟩
  clear hm
  have CA : Hid _ := ca
  have CB : Hid _ := cb
  have CC : Hid _ := cc
  clear ca cb cc
  go_enter Tryd.func81, Tryd.ntmps81
  refine wp_seq ?_
  refine walk_seq 1 [.made (cel [0, 0, 0, 0]) 61] _ ?pre1 ?F1 ?hpre1 (fun γ => ?hF1) (by kernel_rfl) trivial (sB H0) ?ho1 ?he1
  case hpre1 => simp only [tk, tz]; rfl
  case hF1 => simp only [fill, Kind.val, Act.put, sa, sz, ss]; rfl
  case ho1 =>
    refine ak (fun γ => ⟨rfl, fun w' => ex_madeW2 rfl⟩) ?_
    exact trivial
  intro γ w1 l hM hl
  have H1 : Hid (Mm w1 [(γ 0, cel [0, 0, 0, 0]), (ga, cel [a 0, a 1, a 2, a 3, a 4, a 5]), (gb, cel [b 0, b 1, b 2, b 3, b 4, b 5])] ∧ _) := growB H0 hM (Nat.le_refl _) hl [0] rfl (by decide)
  have o1_0 := ownB H0 hM (Nat.le_refl _) hl (i := 0) rfl
  clear hM hl l
  generalize γ 0 = γ1_0 at H1 o1_0 ⊢
  clear γ
  refine rest0 rfl (then_normal ?_)
  refine wp_seq ?_
  refine walk_any (by kernel_rfl) 15 [.quiet (.int .i64 0), .quiet (PT ga 0), .quiet (V [a 0, a 1]), .quiet (.int .i64 1), .quiet (PT ga 12), .quiet (V [a 2, a 3]), .call (V [t0, t1]), .quiet (.int .i64 0), .quiet (PT gb 0), .quiet (V [b 0, b 1]), .quiet (.int .i64 1), .quiet (PT gb 12), .quiet (V [b 2, b 3]), .call (V [u0, u1]), .call (V [r0, r1, r2, r3])] _ ?pre2 ?F2 ?hpre2 (fun γ => ?hF2) (by kernel_rfl) trivial (sB H1) ?ho2 ?he2
  case hpre2 => simp only [tk, tz]; rfl
  case hF2 => simp only [fill, Kind.val, Act.put, sa, sz, ss]; rfl
  case ho2 =>
    refine ak (fun _ => ⟨rfl, fun _ _ => rfl⟩) ?_
    refine ak (by refine fun γ => ⟨rfl, fun w' h => ?_⟩; clear h; go_simp) ?_
    refine ak (fun γ => ⟨rfl, fun w' h => ex_loadA (i := 0) (k := 2) h 1 rfl rfl rfl Tryd.isAgg26 Tryd.sizeOf26 rfl rfl⟩) ?_
    refine ak (fun _ => ⟨rfl, fun _ _ => rfl⟩) ?_
    refine ak (by refine fun γ => ⟨rfl, fun w' h => ?_⟩; clear h; go_simp) ?_
    refine ak (fun γ => ⟨rfl, fun w' h => ex_loadA (i := 2) (k := 2) h 1 rfl rfl rfl Tryd.isAgg26 Tryd.sizeOf26 rfl rfl⟩) ?_
    refine ak (fun γ => ⟨rfl, fun w' h => ⟨82, #[V [a 0, a 1], V [a 2, a 3]], exec_call rfl call82 rfl (mpn rfl), CA.out w'⟩⟩) ?_
    refine ak (fun _ => ⟨rfl, fun _ _ => rfl⟩) ?_
    refine ak (by refine fun γ => ⟨rfl, fun w' h => ?_⟩; clear h; go_simp) ?_
    refine ak (fun γ => ⟨rfl, fun w' h => ex_loadA (i := 0) (k := 2) h 2 rfl rfl rfl Tryd.isAgg26 Tryd.sizeOf26 rfl rfl⟩) ?_
    refine ak (fun _ => ⟨rfl, fun _ _ => rfl⟩) ?_
    refine ak (by refine fun γ => ⟨rfl, fun w' h => ?_⟩; clear h; go_simp) ?_
    refine ak (fun γ => ⟨rfl, fun w' h => ex_loadA (i := 2) (k := 2) h 2 rfl rfl rfl Tryd.isAgg26 Tryd.sizeOf26 rfl rfl⟩) ?_
    refine ak (fun γ => ⟨rfl, fun w' h => ⟨82, #[V [b 0, b 1], V [b 2, b 3]], exec_call rfl call82 rfl (mpn rfl), CB.out w'⟩⟩) ?_
    refine ak (fun γ => ⟨rfl, fun w' h => ⟨41, #[V [t0, t1], V [u0, u1]], exec_call rfl call41 rfl (mpn rfl), CC.out w'⟩⟩) ?_
    exact trivial
  intro γ w2 l hM hl
  have H2 := keepB H1 hM.below
  clear hM hl l H1 γ
  refine rest_at (l := [15]) rfl ?_
  refine rest_store rfl rfl rfl (ex_storeA (i := 0) (ms := [r0, r1, r2, r3]) H2.out.1 0 rfl rfl rfl rfl Tryd.sizeOf61 (Nat.le_of_ble_eq_true rfl)) ?_
  have H3 : Hid (Mm (w2.setCells γ1_0 (6 * 0) (cel [r0, r1, r2, r3])) [(γ1_0, cel [r0, r1, r2, r3]), (ga, cel [a 0, a 1, a 2, a 3, a 4, a 5]), (gb, cel [b 0, b 1, b 2, b 3, b 4, b 5])] ∧ Below w.heap.size w (w2.setCells γ1_0 (6 * 0) (cel [r0, r1, r2, r3]))) := ⟨by
    have h := H2.out.1.put 0 (off := 6 * 0) (vs := cel [r0, r1, r2, r3]) rfl (by simp only [cel_len]; exact Nat.le_of_ble_eq_true rfl)
    rw [cel_patch] at h
    exact h, below_setCells _ o1_0.out _ _ _ H2.out.2⟩
  clear H2
  generalize hgw : World.setCells _ _ _ _ = w3 at H3 ⊢
  clear hgw
  refine rest_nil ?_
  refine then_normal ?_
  refine wp_ret ?_
  repeat (first | refine then_ret ?_ | refine block_ret ?_)
  have hf0 := cel_var (k := 4) H3.out.1 0 rfl Tryd.isAgg61 Tryd.sizeOf61 rfl
  refine bodyPost_ret (v := V [r0, r1, r2, r3]) (by simp [results, Tryd.results81, asAddr, hf0]) rfl ?_
  exact ⟨rfl, H3.out.2⟩
set_option maxHeartbeats 4000000 in
set_option maxRecDepth 100000 in
theorem cross_02 (a b : Nat → Nat) (ga gb t0 t1 u0 u1 r0 r1 r2 r3 : Nat)
    (ca : ∀ w, Calls Tryd.prog 82 #[V [a 0, a 1], V [a 4, a 5]] w fun e w' => e = .returned (V [t0, t1]) ∧ Below w.heap.size w w')
    (cb : ∀ w, Calls Tryd.prog 82 #[V [b 0, b 1], V [b 4, b 5]] w fun e w' => e = .returned (V [u0, u1]) ∧ Below w.heap.size w w')
    (cc : ∀ w, Calls Tryd.prog 41 #[V [t0, t1], V [u0, u1]] w fun e w' => e = .returned (V [r0, r1, r2, r3]) ∧ Below w.heap.size w w') (w : World) (hm : Mm w [(ga, cel [a 0, a 1, a 2, a 3, a 4, a 5]), (gb, cel [b 0, b 1, b 2, b 3, b 4, b 5])]) :
    Calls Tryd.prog 81 #[.int .i64 0, .int .i64 2, PT ga 0, PT gb 0] w fun e w' => e = .returned (V [r0, r1, r2, r3]) ∧ Below w.heap.size w w' := by
  have H0 : Hid (_ ∧ _) := ⟨hm, Below.refl w.heap.size w⟩
  clear hm
  have CA : Hid _ := ca
  have CB : Hid _ := cb
  have CC : Hid _ := cc
  clear ca cb cc
  go_enter Tryd.func81, Tryd.ntmps81
  refine wp_seq ?_
  refine walk_seq 1 [.made (cel [0, 0, 0, 0]) 61] _ ?pre1 ?F1 ?hpre1 (fun γ => ?hF1) (by kernel_rfl) trivial (sB H0) ?ho1 ?he1
  case hpre1 => simp only [tk, tz]; rfl
  case hF1 => simp only [fill, Kind.val, Act.put, sa, sz, ss]; rfl
  case ho1 =>
    refine ak (fun γ => ⟨rfl, fun w' => ex_madeW2 rfl⟩) ?_
    exact trivial
  intro γ w1 l hM hl
  have H1 : Hid (Mm w1 [(γ 0, cel [0, 0, 0, 0]), (ga, cel [a 0, a 1, a 2, a 3, a 4, a 5]), (gb, cel [b 0, b 1, b 2, b 3, b 4, b 5])] ∧ _) := growB H0 hM (Nat.le_refl _) hl [0] rfl (by decide)
  have o1_0 := ownB H0 hM (Nat.le_refl _) hl (i := 0) rfl
  clear hM hl l
  generalize γ 0 = γ1_0 at H1 o1_0 ⊢
  clear γ
  refine rest0 rfl (then_normal ?_)
  refine wp_seq ?_
  refine walk_any (by kernel_rfl) 15 [.quiet (.int .i64 0), .quiet (PT ga 0), .quiet (V [a 0, a 1]), .quiet (.int .i64 2), .quiet (PT ga 24), .quiet (V [a 4, a 5]), .call (V [t0, t1]), .quiet (.int .i64 0), .quiet (PT gb 0), .quiet (V [b 0, b 1]), .quiet (.int .i64 2), .quiet (PT gb 24), .quiet (V [b 4, b 5]), .call (V [u0, u1]), .call (V [r0, r1, r2, r3])] _ ?pre2 ?F2 ?hpre2 (fun γ => ?hF2) (by kernel_rfl) trivial (sB H1) ?ho2 ?he2
  case hpre2 => simp only [tk, tz]; rfl
  case hF2 => simp only [fill, Kind.val, Act.put, sa, sz, ss]; rfl
  case ho2 =>
    refine ak (fun _ => ⟨rfl, fun _ _ => rfl⟩) ?_
    refine ak (by refine fun γ => ⟨rfl, fun w' h => ?_⟩; clear h; go_simp) ?_
    refine ak (fun γ => ⟨rfl, fun w' h => ex_loadA (i := 0) (k := 2) h 1 rfl rfl rfl Tryd.isAgg26 Tryd.sizeOf26 rfl rfl⟩) ?_
    refine ak (fun _ => ⟨rfl, fun _ _ => rfl⟩) ?_
    refine ak (by refine fun γ => ⟨rfl, fun w' h => ?_⟩; clear h; go_simp) ?_
    refine ak (fun γ => ⟨rfl, fun w' h => ex_loadA (i := 4) (k := 2) h 1 rfl rfl rfl Tryd.isAgg26 Tryd.sizeOf26 rfl rfl⟩) ?_
    refine ak (fun γ => ⟨rfl, fun w' h => ⟨82, #[V [a 0, a 1], V [a 4, a 5]], exec_call rfl call82 rfl (mpn rfl), CA.out w'⟩⟩) ?_
    refine ak (fun _ => ⟨rfl, fun _ _ => rfl⟩) ?_
    refine ak (by refine fun γ => ⟨rfl, fun w' h => ?_⟩; clear h; go_simp) ?_
    refine ak (fun γ => ⟨rfl, fun w' h => ex_loadA (i := 0) (k := 2) h 2 rfl rfl rfl Tryd.isAgg26 Tryd.sizeOf26 rfl rfl⟩) ?_
    refine ak (fun _ => ⟨rfl, fun _ _ => rfl⟩) ?_
    refine ak (by refine fun γ => ⟨rfl, fun w' h => ?_⟩; clear h; go_simp) ?_
    refine ak (fun γ => ⟨rfl, fun w' h => ex_loadA (i := 4) (k := 2) h 2 rfl rfl rfl Tryd.isAgg26 Tryd.sizeOf26 rfl rfl⟩) ?_
    refine ak (fun γ => ⟨rfl, fun w' h => ⟨82, #[V [b 0, b 1], V [b 4, b 5]], exec_call rfl call82 rfl (mpn rfl), CB.out w'⟩⟩) ?_
    refine ak (fun γ => ⟨rfl, fun w' h => ⟨41, #[V [t0, t1], V [u0, u1]], exec_call rfl call41 rfl (mpn rfl), CC.out w'⟩⟩) ?_
    exact trivial
  intro γ w2 l hM hl
  have H2 := keepB H1 hM.below
  clear hM hl l H1 γ
  refine rest_at (l := [15]) rfl ?_
  refine rest_store rfl rfl rfl (ex_storeA (i := 0) (ms := [r0, r1, r2, r3]) H2.out.1 0 rfl rfl rfl rfl Tryd.sizeOf61 (Nat.le_of_ble_eq_true rfl)) ?_
  have H3 : Hid (Mm (w2.setCells γ1_0 (6 * 0) (cel [r0, r1, r2, r3])) [(γ1_0, cel [r0, r1, r2, r3]), (ga, cel [a 0, a 1, a 2, a 3, a 4, a 5]), (gb, cel [b 0, b 1, b 2, b 3, b 4, b 5])] ∧ Below w.heap.size w (w2.setCells γ1_0 (6 * 0) (cel [r0, r1, r2, r3]))) := ⟨by
    have h := H2.out.1.put 0 (off := 6 * 0) (vs := cel [r0, r1, r2, r3]) rfl (by simp only [cel_len]; exact Nat.le_of_ble_eq_true rfl)
    rw [cel_patch] at h
    exact h, below_setCells _ o1_0.out _ _ _ H2.out.2⟩
  clear H2
  generalize hgw : World.setCells _ _ _ _ = w3 at H3 ⊢
  clear hgw
  refine rest_nil ?_
  refine then_normal ?_
  refine wp_ret ?_
  repeat (first | refine then_ret ?_ | refine block_ret ?_)
  have hf0 := cel_var (k := 4) H3.out.1 0 rfl Tryd.isAgg61 Tryd.sizeOf61 rfl
  refine bodyPost_ret (v := V [r0, r1, r2, r3]) (by simp [results, Tryd.results81, asAddr, hf0]) rfl ?_
  exact ⟨rfl, H3.out.2⟩
set_option maxHeartbeats 4000000 in
set_option maxRecDepth 100000 in
theorem times3_gen (a b f s t x y z x1 x2 x3 r0 y1 y2 y3 r1 z1 z2 r2 : Nat → Nat)
    (cf : ∀ w, Calls Tryd.prog 41 #[V [a 0, a 1], V [b 0, b 1]] w fun e w' => e = .returned (V [f 0, f 1, f 2, f 3]) ∧ Below w.heap.size w w')
    (cs : ∀ w, Calls Tryd.prog 41 #[V [a 2, a 3], V [b 2, b 3]] w fun e w' => e = .returned (V [s 0, s 1, s 2, s 3]) ∧ Below w.heap.size w w')
    (ct : ∀ w, Calls Tryd.prog 41 #[V [a 4, a 5], V [b 4, b 5]] w fun e w' => e = .returned (V [t 0, t 1, t 2, t 3]) ∧ Below w.heap.size w w')
    (cx : ∀ ga gb w, Mm w [(ga, cel [a 0, a 1, a 2, a 3, a 4, a 5]), (gb, cel [b 0, b 1, b 2, b 3, b 4, b 5])] → Calls Tryd.prog 81 #[.int .i64 1, .int .i64 2, PT ga 0, PT gb 0] w fun e w' => e = .returned (V [x 0, x 1, x 2, x 3]) ∧ Below w.heap.size w w')
    (cy : ∀ ga gb w, Mm w [(ga, cel [a 0, a 1, a 2, a 3, a 4, a 5]), (gb, cel [b 0, b 1, b 2, b 3, b 4, b 5])] → Calls Tryd.prog 81 #[.int .i64 0, .int .i64 1, PT ga 0, PT gb 0] w fun e w' => e = .returned (V [y 0, y 1, y 2, y 3]) ∧ Below w.heap.size w w')
    (cz : ∀ ga gb w, Mm w [(ga, cel [a 0, a 1, a 2, a 3, a 4, a 5]), (gb, cel [b 0, b 1, b 2, b 3, b 4, b 5])] → Calls Tryd.prog 81 #[.int .i64 0, .int .i64 2, PT ga 0, PT gb 0] w fun e w' => e = .returned (V [z 0, z 1, z 2, z 3]) ∧ Below w.heap.size w w')
    (d0 : ∀ w, Calls Tryd.prog 60 #[V [x 0, x 1, x 2, x 3], V [s 0, s 1, s 2, s 3]] w fun e w' => e = .returned (V [x1 0, x1 1, x1 2, x1 3]) ∧ Below w.heap.size w w')
    (d1 : ∀ w, Calls Tryd.prog 60 #[V [x1 0, x1 1, x1 2, x1 3], V [t 0, t 1, t 2, t 3]] w fun e w' => e = .returned (V [x2 0, x2 1, x2 2, x2 3]) ∧ Below w.heap.size w w')
    (d2 : ∀ w, Calls Tryd.prog 58 #[V [x2 0, x2 1, x2 2, x2 3]] w fun e w' => e = .returned (V [x3 0, x3 1, x3 2, x3 3]) ∧ Below w.heap.size w w')
    (d3 : ∀ w, Calls Tryd.prog 59 #[V [f 0, f 1, f 2, f 3], V [x3 0, x3 1, x3 2, x3 3]] w fun e w' => e = .returned (V [r0 0, r0 1, r0 2, r0 3]) ∧ Below w.heap.size w w')
    (d4 : ∀ w, Calls Tryd.prog 60 #[V [y 0, y 1, y 2, y 3], V [f 0, f 1, f 2, f 3]] w fun e w' => e = .returned (V [y1 0, y1 1, y1 2, y1 3]) ∧ Below w.heap.size w w')
    (d5 : ∀ w, Calls Tryd.prog 60 #[V [y1 0, y1 1, y1 2, y1 3], V [s 0, s 1, s 2, s 3]] w fun e w' => e = .returned (V [y2 0, y2 1, y2 2, y2 3]) ∧ Below w.heap.size w w')
    (d6 : ∀ w, Calls Tryd.prog 58 #[V [t 0, t 1, t 2, t 3]] w fun e w' => e = .returned (V [y3 0, y3 1, y3 2, y3 3]) ∧ Below w.heap.size w w')
    (d7 : ∀ w, Calls Tryd.prog 59 #[V [y2 0, y2 1, y2 2, y2 3], V [y3 0, y3 1, y3 2, y3 3]] w fun e w' => e = .returned (V [r1 0, r1 1, r1 2, r1 3]) ∧ Below w.heap.size w w')
    (d8 : ∀ w, Calls Tryd.prog 60 #[V [z 0, z 1, z 2, z 3], V [f 0, f 1, f 2, f 3]] w fun e w' => e = .returned (V [z1 0, z1 1, z1 2, z1 3]) ∧ Below w.heap.size w w')
    (d9 : ∀ w, Calls Tryd.prog 60 #[V [z1 0, z1 1, z1 2, z1 3], V [t 0, t 1, t 2, t 3]] w fun e w' => e = .returned (V [z2 0, z2 1, z2 2, z2 3]) ∧ Below w.heap.size w w')
    (d10 : ∀ w, Calls Tryd.prog 59 #[V [z2 0, z2 1, z2 2, z2 3], V [s 0, s 1, s 2, s 3]] w fun e w' => e = .returned (V [r2 0, r2 1, r2 2, r2 3]) ∧ Below w.heap.size w w') (w : World) :
    Calls Tryd.prog 56 #[V [a 0, a 1, a 2, a 3, a 4, a 5], V [b 0, b 1, b 2, b 3, b 4, b 5]] w fun e w' => e = .returned (V [r0 0, r0 1, r0 2, r0 3, r1 0, r1 1, r1 2, r1 3, r2 0, r2 1, r2 2, r2 3]) ∧ Below w.heap.size w w' := by
  have H0 : Hid (_ ∧ _) := ⟨Mm.nil w, Below.refl w.heap.size w⟩
  have CF : Hid _ := cf
  have CS : Hid _ := cs
  have CT : Hid _ := ct
  have CX : Hid _ := cx
  have CY : Hid _ := cy
  have CZ : Hid _ := cz
  have D0 : Hid _ := d0
  have D1 : Hid _ := d1
  have D2 : Hid _ := d2
  have D3 : Hid _ := d3
  have D4 : Hid _ := d4
  have D5 : Hid _ := d5
  have D6 : Hid _ := d6
  have D7 : Hid _ := d7
  have D8 : Hid _ := d8
  have D9 : Hid _ := d9
  have D10 : Hid _ := d10
  clear cf cs ct cx cy cz d0 d1 d2 d3 d4 d5 d6 d7 d8 d9 d10
  go_enter Tryd.func56, Tryd.ntmps56
  refine wp_seq ?_
  refine walk_seq 3 [.made (cel [a 0, a 1, a 2, a 3, a 4, a 5]) 73, .made (cel [b 0, b 1, b 2, b 3, b 4, b 5]) 73, .made (cel [0, 0, 0, 0, 0, 0, 0, 0, 0, 0, 0, 0]) 76] _ ?pre1 ?F1 ?hpre1 (fun γ => ?hF1) (by kernel_rfl) trivial (sB H0) ?ho1 ?he1
  case hpre1 => simp only [tk, tz]; rfl
  case hF1 => simp only [fill, Kind.val, Act.put, sa, sz, ss]; rfl
  case ho1 =>
    refine ak (fun γ => ⟨rfl, fun w' => ex_boxA rfl rfl⟩) ?_
    refine ak (fun γ => ⟨rfl, fun w' => ex_boxA rfl rfl⟩) ?_
    refine ak (fun γ => ⟨rfl, fun w' => ex_madeW3 rfl⟩) ?_
    exact trivial
  intro γ w1 l hM hl
  have H1 : Hid (Mm w1 [(γ 0, cel [a 0, a 1, a 2, a 3, a 4, a 5]), (γ 1, cel [b 0, b 1, b 2, b 3, b 4, b 5]), (γ 2, cel [0, 0, 0, 0, 0, 0, 0, 0, 0, 0, 0, 0])] ∧ _) := growB H0 hM (Nat.le_refl _) hl [0, 1, 2] rfl (by decide)
  have o1_0 := ownB H0 hM (Nat.le_refl _) hl (i := 0) rfl
  have o1_1 := ownB H0 hM (Nat.le_refl _) hl (i := 1) rfl
  have o1_2 := ownB H0 hM (Nat.le_refl _) hl (i := 2) rfl
  clear hM hl l
  generalize γ 0 = γ1_0 at H1 o1_0 ⊢
  generalize γ 1 = γ1_1 at H1 o1_1 ⊢
  generalize γ 2 = γ1_2 at H1 o1_2 ⊢
  clear γ
  refine rest0 rfl (then_normal ?_)
  refine wp_seq ?_
  refine walk_any (by kernel_rfl) 21 [.quiet (PT γ1_0 0), .quiet (V [a 0, a 1]), .quiet (PT γ1_1 0), .quiet (V [b 0, b 1]), .call (V [f 0, f 1, f 2, f 3]), .quiet (PT γ1_0 12), .quiet (V [a 2, a 3]), .quiet (PT γ1_1 12), .quiet (V [b 2, b 3]), .call (V [s 0, s 1, s 2, s 3]), .quiet (PT γ1_0 24), .quiet (V [a 4, a 5]), .quiet (PT γ1_1 24), .quiet (V [b 4, b 5]), .call (V [t 0, t 1, t 2, t 3]), .made (cel [0, 0, 0, 0]) 61, .made (cel [0, 0, 0, 0]) 61, .made (cel [0, 0, 0, 0]) 61, .laid 15 (cel [0, 0, 0, 0]) (cel [f 0, f 1, f 2, f 3]), .laid 16 (cel [0, 0, 0, 0]) (cel [s 0, s 1, s 2, s 3]), .laid 17 (cel [0, 0, 0, 0]) (cel [t 0, t 1, t 2, t 3])] _ ?pre2 ?F2 ?hpre2 (fun γ => ?hF2) (by kernel_rfl) ?hL2 (sB H1) ?ho2 ?he2
  case hpre2 => simp only [tk, tz]; rfl
  case hF2 => simp only [fill, Kind.val, Act.put, sa, sz, ss]; rfl
  case hL2 => exact ⟨⟨_, rfl⟩, ⟨_, rfl⟩, ⟨_, rfl⟩, trivial⟩
  case ho2 =>
    refine ak (by refine fun γ => ⟨rfl, fun w' h => ?_⟩; clear h; go_simp) ?_
    refine ak (fun γ => ⟨rfl, fun w' h => ex_loadA (i := 0) (k := 2) h 0 rfl rfl rfl Tryd.isAgg26 Tryd.sizeOf26 rfl rfl⟩) ?_
    refine ak (by refine fun γ => ⟨rfl, fun w' h => ?_⟩; clear h; go_simp) ?_
    refine ak (fun γ => ⟨rfl, fun w' h => ex_loadA (i := 0) (k := 2) h 1 rfl rfl rfl Tryd.isAgg26 Tryd.sizeOf26 rfl rfl⟩) ?_
    refine ak (fun γ => ⟨rfl, fun w' h => ⟨41, #[V [a 0, a 1], V [b 0, b 1]], exec_call rfl call41 rfl (mpn rfl), CF.out w'⟩⟩) ?_
    refine ak (by refine fun γ => ⟨rfl, fun w' h => ?_⟩; clear h; go_simp) ?_
    refine ak (fun γ => ⟨rfl, fun w' h => ex_loadA (i := 2) (k := 2) h 0 rfl rfl rfl Tryd.isAgg26 Tryd.sizeOf26 rfl rfl⟩) ?_
    refine ak (by refine fun γ => ⟨rfl, fun w' h => ?_⟩; clear h; go_simp) ?_
    refine ak (fun γ => ⟨rfl, fun w' h => ex_loadA (i := 2) (k := 2) h 1 rfl rfl rfl Tryd.isAgg26 Tryd.sizeOf26 rfl rfl⟩) ?_
    refine ak (fun γ => ⟨rfl, fun w' h => ⟨41, #[V [a 2, a 3], V [b 2, b 3]], exec_call rfl call41 rfl (mpn rfl), CS.out w'⟩⟩) ?_
    refine ak (by refine fun γ => ⟨rfl, fun w' h => ?_⟩; clear h; go_simp) ?_
    refine ak (fun γ => ⟨rfl, fun w' h => ex_loadA (i := 4) (k := 2) h 0 rfl rfl rfl Tryd.isAgg26 Tryd.sizeOf26 rfl rfl⟩) ?_
    refine ak (by refine fun γ => ⟨rfl, fun w' h => ?_⟩; clear h; go_simp) ?_
    refine ak (fun γ => ⟨rfl, fun w' h => ex_loadA (i := 4) (k := 2) h 1 rfl rfl rfl Tryd.isAgg26 Tryd.sizeOf26 rfl rfl⟩) ?_
    refine ak (fun γ => ⟨rfl, fun w' h => ⟨41, #[V [a 4, a 5], V [b 4, b 5]], exec_call rfl call41 rfl (mpn rfl), CT.out w'⟩⟩) ?_
    refine ak (fun γ => ⟨rfl, fun w' => ex_madeW2 rfl⟩) ?_
    refine ak (fun γ => ⟨rfl, fun w' => ex_madeW2 rfl⟩) ?_
    refine ak (fun γ => ⟨rfl, fun w' => ex_madeW2 rfl⟩) ?_
    refine ak (fun γ => ⟨rfl, rfl, rfl, fun w' h => ex_laidA h rfl Tryd.sizeOf61 rfl rfl rfl⟩) ?_
    refine ak (fun γ => ⟨rfl, rfl, rfl, fun w' h => ex_laidA h rfl Tryd.sizeOf61 rfl rfl rfl⟩) ?_
    refine ak (fun γ => ⟨rfl, rfl, rfl, fun w' h => ex_laidA h rfl Tryd.sizeOf61 rfl rfl rfl⟩) ?_
    exact trivial
  intro γ w2 l hM hl
  have H2 : Hid (Mm w2 [(γ 15, cel [f 0, f 1, f 2, f 3]), (γ 16, cel [s 0, s 1, s 2, s 3]), (γ 17, cel [t 0, t 1, t 2, t 3]), (γ1_0, cel [a 0, a 1, a 2, a 3, a 4, a 5]), (γ1_1, cel [b 0, b 1, b 2, b 3, b 4, b 5]), (γ1_2, cel [0, 0, 0, 0, 0, 0, 0, 0, 0, 0, 0, 0])] ∧ _) := growB H1 hM (Nat.le_refl _) hl [15, 16, 17] rfl (by decide)
  have o2_15 := ownB H1 hM (Nat.le_refl _) hl (i := 15) rfl
  have o2_16 := ownB H1 hM (Nat.le_refl _) hl (i := 16) rfl
  have o2_17 := ownB H1 hM (Nat.le_refl _) hl (i := 17) rfl
  clear hM hl l H1
  generalize γ 15 = γ2_15 at H2 o2_15 ⊢
  generalize γ 16 = γ2_16 at H2 o2_16 ⊢
  generalize γ 17 = γ2_17 at H2 o2_17 ⊢
  clear γ
  refine rest0 rfl (then_normal ?_)
  refine wp_seq ?_
  refine walk_seq 2 [.quiet (.func (.func 81) #[] #[PT γ1_0 0, PT γ1_1 0]), .quiet (.func (.func 81) #[] #[PT γ1_0 0, PT γ1_1 0])] _ ?pre3 ?F3 ?hpre3 (fun γ => ?hF3) (by kernel_rfl) trivial (sB H2) ?ho3 ?he3
  case hpre3 => simp only [tk, tz]; rfl
  case hF3 => simp only [fill, Kind.val, Act.put, sa, sz, ss]; rfl
  case ho3 =>
    refine ak (fun γ => ⟨rfl, fun w' _ => ex_makeC rfl (mpn rfl)⟩) ?_
    refine ak (fun _ => ⟨rfl, fun _ _ => rfl⟩) ?_
    exact trivial
  intro γ w3 l hM hl
  have H3 := keepB H2 hM.below
  clear hM hl l H2 γ
  refine rest0 rfl (then_normal ?_)
  refine wp_seq ?_
  refine walk_any (by kernel_rfl) 27 [.quiet (V [f 0, f 1, f 2, f 3]), .quiet (.func (.func 81) #[] #[PT γ1_0 0, PT γ1_1 0]), .call (V [x 0, x 1, x 2, x 3]), .quiet (V [s 0, s 1, s 2, s 3]), .call (V [x1 0, x1 1, x1 2, x1 3]), .quiet (V [t 0, t 1, t 2, t 3]), .call (V [x2 0, x2 1, x2 2, x2 3]), .call (V [x3 0, x3 1, x3 2, x3 3]), .call (V [r0 0, r0 1, r0 2, r0 3]), .quiet (.func (.func 81) #[] #[PT γ1_0 0, PT γ1_1 0]), .call (V [y 0, y 1, y 2, y 3]), .quiet (V [f 0, f 1, f 2, f 3]), .call (V [y1 0, y1 1, y1 2, y1 3]), .quiet (V [s 0, s 1, s 2, s 3]), .call (V [y2 0, y2 1, y2 2, y2 3]), .quiet (V [t 0, t 1, t 2, t 3]), .call (V [y3 0, y3 1, y3 2, y3 3]), .call (V [r1 0, r1 1, r1 2, r1 3]), .quiet (.func (.func 81) #[] #[PT γ1_0 0, PT γ1_1 0]), .call (V [z 0, z 1, z 2, z 3]), .quiet (V [f 0, f 1, f 2, f 3]), .call (V [z1 0, z1 1, z1 2, z1 3]), .quiet (V [t 0, t 1, t 2, t 3]), .call (V [z2 0, z2 1, z2 2, z2 3]), .quiet (V [s 0, s 1, s 2, s 3]), .call (V [r2 0, r2 1, r2 2, r2 3]), .quiet (V [r0 0, r0 1, r0 2, r0 3, r1 0, r1 1, r1 2, r1 3, r2 0, r2 1, r2 2, r2 3])] _ ?pre4 ?F4 ?hpre4 (fun γ => ?hF4) (by kernel_rfl) trivial (sB H3) ?ho4 ?he4
  case hpre4 => simp only [tk, tz]; rfl
  case hF4 => simp only [fill, Kind.val, Act.put, sa, sz, ss]; rfl
  case ho4 =>
    refine ak (fun γ => ⟨rfl, fun w' h => ex_loadA (i := 0) (k := 4) h 0 rfl rfl rfl Tryd.isAgg61 Tryd.sizeOf61 rfl rfl⟩) ?_
    refine ak (fun _ => ⟨rfl, fun _ _ => rfl⟩) ?_
    refine ak (fun γ => ⟨rfl, fun w' h => ⟨81, #[.int .i64 1, .int .i64 2, PT γ1_0 0, PT γ1_1 0], ex_callC rfl call81 rfl (mpn rfl), CX.out _ _ w' (h.two 3 4 rfl rfl (by decide))⟩⟩) ?_
    refine ak (fun γ => ⟨rfl, fun w' h => ex_loadA (i := 0) (k := 4) h 1 rfl rfl rfl Tryd.isAgg61 Tryd.sizeOf61 rfl rfl⟩) ?_
    refine ak (fun γ => ⟨rfl, fun w' h => ⟨60, #[V [x 0, x 1, x 2, x 3], V [s 0, s 1, s 2, s 3]], exec_call rfl call60 rfl (mpn rfl), D0.out w'⟩⟩) ?_
    refine ak (fun γ => ⟨rfl, fun w' h => ex_loadA (i := 0) (k := 4) h 2 rfl rfl rfl Tryd.isAgg61 Tryd.sizeOf61 rfl rfl⟩) ?_
    refine ak (fun γ => ⟨rfl, fun w' h => ⟨60, #[V [x1 0, x1 1, x1 2, x1 3], V [t 0, t 1, t 2, t 3]], exec_call rfl call60 rfl (mpn rfl), D1.out w'⟩⟩) ?_
    refine ak (fun γ => ⟨rfl, fun w' h => ⟨58, #[V [x2 0, x2 1, x2 2, x2 3]], exec_call rfl call58 rfl (mpn rfl), D2.out w'⟩⟩) ?_
    refine ak (fun γ => ⟨rfl, fun w' h => ⟨59, #[V [f 0, f 1, f 2, f 3], V [x3 0, x3 1, x3 2, x3 3]], exec_call rfl call59 rfl (mpn rfl), D3.out w'⟩⟩) ?_
    refine ak (fun _ => ⟨rfl, fun _ _ => rfl⟩) ?_
    refine ak (fun γ => ⟨rfl, fun w' h => ⟨81, #[.int .i64 0, .int .i64 1, PT γ1_0 0, PT γ1_1 0], ex_callC rfl call81 rfl (mpn rfl), CY.out _ _ w' (h.two 3 4 rfl rfl (by decide))⟩⟩) ?_
    refine ak (fun γ => ⟨rfl, fun w' h => ex_loadA (i := 0) (k := 4) h 0 rfl rfl rfl Tryd.isAgg61 Tryd.sizeOf61 rfl rfl⟩) ?_
    refine ak (fun γ => ⟨rfl, fun w' h => ⟨60, #[V [y 0, y 1, y 2, y 3], V [f 0, f 1, f 2, f 3]], exec_call rfl call60 rfl (mpn rfl), D4.out w'⟩⟩) ?_
    refine ak (fun γ => ⟨rfl, fun w' h => ex_loadA (i := 0) (k := 4) h 1 rfl rfl rfl Tryd.isAgg61 Tryd.sizeOf61 rfl rfl⟩) ?_
    refine ak (fun γ => ⟨rfl, fun w' h => ⟨60, #[V [y1 0, y1 1, y1 2, y1 3], V [s 0, s 1, s 2, s 3]], exec_call rfl call60 rfl (mpn rfl), D5.out w'⟩⟩) ?_
    refine ak (fun γ => ⟨rfl, fun w' h => ex_loadA (i := 0) (k := 4) h 2 rfl rfl rfl Tryd.isAgg61 Tryd.sizeOf61 rfl rfl⟩) ?_
    refine ak (fun γ => ⟨rfl, fun w' h => ⟨58, #[V [t 0, t 1, t 2, t 3]], exec_call rfl call58 rfl (mpn rfl), D6.out w'⟩⟩) ?_
    refine ak (fun γ => ⟨rfl, fun w' h => ⟨59, #[V [y2 0, y2 1, y2 2, y2 3], V [y3 0, y3 1, y3 2, y3 3]], exec_call rfl call59 rfl (mpn rfl), D7.out w'⟩⟩) ?_
    refine ak (fun _ => ⟨rfl, fun _ _ => rfl⟩) ?_
    refine ak (fun γ => ⟨rfl, fun w' h => ⟨81, #[.int .i64 0, .int .i64 2, PT γ1_0 0, PT γ1_1 0], ex_callC rfl call81 rfl (mpn rfl), CZ.out _ _ w' (h.two 3 4 rfl rfl (by decide))⟩⟩) ?_
    refine ak (fun γ => ⟨rfl, fun w' h => ex_loadA (i := 0) (k := 4) h 0 rfl rfl rfl Tryd.isAgg61 Tryd.sizeOf61 rfl rfl⟩) ?_
    refine ak (fun γ => ⟨rfl, fun w' h => ⟨60, #[V [z 0, z 1, z 2, z 3], V [f 0, f 1, f 2, f 3]], exec_call rfl call60 rfl (mpn rfl), D8.out w'⟩⟩) ?_
    refine ak (fun γ => ⟨rfl, fun w' h => ex_loadA (i := 0) (k := 4) h 2 rfl rfl rfl Tryd.isAgg61 Tryd.sizeOf61 rfl rfl⟩) ?_
    refine ak (fun γ => ⟨rfl, fun w' h => ⟨60, #[V [z1 0, z1 1, z1 2, z1 3], V [t 0, t 1, t 2, t 3]], exec_call rfl call60 rfl (mpn rfl), D9.out w'⟩⟩) ?_
    refine ak (fun γ => ⟨rfl, fun w' h => ex_loadA (i := 0) (k := 4) h 1 rfl rfl rfl Tryd.isAgg61 Tryd.sizeOf61 rfl rfl⟩) ?_
    refine ak (fun γ => ⟨rfl, fun w' h => ⟨59, #[V [z2 0, z2 1, z2 2, z2 3], V [s 0, s 1, s 2, s 3]], exec_call rfl call59 rfl (mpn rfl), D10.out w'⟩⟩) ?_
    refine ak (fun γ => ⟨rfl, fun w' _ => ex_buildW3 rfl rfl rfl rfl⟩) ?_
    exact trivial
  intro γ w4 l hM hl
  have H4 := keepB H3 hM.below
  clear hM hl l H3 γ
  refine rest_at (l := [27]) rfl ?_
  refine rest_store rfl rfl rfl (ex_storeA (i := 0) (ms := [r0 0, r0 1, r0 2, r0 3, r1 0, r1 1, r1 2, r1 3, r2 0, r2 1, r2 2, r2 3]) H4.out.1 5 rfl rfl rfl rfl Tryd.sizeOf76 (Nat.le_of_ble_eq_true rfl)) ?_
  have H5 : Hid (Mm (w4.setCells γ1_2 (6 * 0) (cel [r0 0, r0 1, r0 2, r0 3, r1 0, r1 1, r1 2, r1 3, r2 0, r2 1, r2 2, r2 3])) [(γ2_15, cel [f 0, f 1, f 2, f 3]), (γ2_16, cel [s 0, s 1, s 2, s 3]), (γ2_17, cel [t 0, t 1, t 2, t 3]), (γ1_0, cel [a 0, a 1, a 2, a 3, a 4, a 5]), (γ1_1, cel [b 0, b 1, b 2, b 3, b 4, b 5]), (γ1_2, cel [r0 0, r0 1, r0 2, r0 3, r1 0, r1 1, r1 2, r1 3, r2 0, r2 1, r2 2, r2 3])] ∧ Below w.heap.size w (w4.setCells γ1_2 (6 * 0) (cel [r0 0, r0 1, r0 2, r0 3, r1 0, r1 1, r1 2, r1 3, r2 0, r2 1, r2 2, r2 3]))) := ⟨by
    have h := H4.out.1.put 5 (off := 6 * 0) (vs := cel [r0 0, r0 1, r0 2, r0 3, r1 0, r1 1, r1 2, r1 3, r2 0, r2 1, r2 2, r2 3]) rfl (by simp only [cel_len]; exact Nat.le_of_ble_eq_true rfl)
    rw [cel_patch] at h
    exact h, below_setCells _ o1_2.out _ _ _ H4.out.2⟩
  clear H4
  generalize hgw : World.setCells _ _ _ _ = w5 at H5 ⊢
  clear hgw
  refine rest_nil ?_
  refine then_normal ?_
  refine wp_ret ?_
  repeat (first | refine then_ret ?_ | refine block_ret ?_)
  have hf0 := cel_var (k := 12) H5.out.1 5 rfl Tryd.isAgg76 Tryd.sizeOf76 rfl
  refine bodyPost_ret (v := V [r0 0, r0 1, r0 2, r0 3, r1 0, r1 1, r1 2, r1 3, r2 0, r2 1, r2 2, r2 3]) (by simp [results, Tryd.results56, asAddr, hf0]) rfl ?_
  exact ⟨rfl, H5.out.2⟩
end Rg
end Go.Proofs.YtgdlhgbdigpfhaaDoor

namespace Go.Proofs.YtgdlhgbdigpfhaaDoor
open Go.RowKit
namespace Rg
set_option maxHeartbeats 8000000 in
set_option maxRecDepth 100000 in
theorem mulF12_gen (a b ee oo t u q y p x v z r : Nat → Nat) (g n o s : Nat)
    (ce : ∀ w, Calls Tryd.prog 56 #[V [a 0, a 1, a 4, a 5, a 8, a 9], V [b 0, b 1, b 4, b 5, b 8, b 9]] w fun e w' => e = .returned (V [ee 0, ee 1, ee 2, ee 3, ee 4, ee 5, ee 6, ee 7, ee 8, ee 9, ee 10, ee 11]) ∧ Below w.heap.size w w')
    (co : ∀ w, Calls Tryd.prog 56 #[V [a 2, a 3, a 6, a 7, a 10, a 11], V [b 2, b 3, b 6, b 7, b 10, b 11]] w fun e w' => e = .returned (V [oo 0, oo 1, oo 2, oo 3, oo 4, oo 5, oo 6, oo 7, oo 8, oo 9, oo 10, oo 11]) ∧ Below w.heap.size w w')
    (ct : ∀ w, Calls Tryd.prog 57 #[V [a 0, a 1, a 4, a 5, a 8, a 9], V [a 2, a 3, a 6, a 7, a 10, a 11]] w fun e w' => e = .returned (V [t 0, t 1, t 2, t 3, t 4, t 5]) ∧ Below w.heap.size w w')
    (cu : ∀ w, Calls Tryd.prog 57 #[V [b 0, b 1, b 4, b 5, b 8, b 9], V [b 2, b 3, b 6, b 7, b 10, b 11]] w fun e w' => e = .returned (V [u 0, u 1, u 2, u 3, u 4, u 5]) ∧ Below w.heap.size w w')
    (cq : ∀ w, Calls Tryd.prog 56 #[V [t 0, t 1, t 2, t 3, t 4, t 5], V [u 0, u 1, u 2, u 3, u 4, u 5]] w fun e w' => e = .returned (V [q 0, q 1, q 2, q 3, q 4, q 5, q 6, q 7, q 8, q 9, q 10, q 11]) ∧ Below w.heap.size w w')
    (cr : ∀ w, Calls Tryd.prog 58 #[V [oo 8, oo 9, oo 10, oo 11]] w fun e w' => e = .returned (V [y 0, y 1, y 2, y 3]) ∧ Below w.heap.size w w')
    (hp : [y 0, y 1, y 2, y 3, oo 0, oo 1, oo 2, oo 3, oo 4, oo 5, oo 6, oo 7] = [p 0, p 1, p 2, p 3, p 4, p 5, p 6, p 7, p 8, p 9, p 10, p 11])
    (cx : ∀ k, k < 3 → ∀ w, Calls Tryd.prog 59 #[V [ee (4 * k), ee (4 * k + 1), ee (4 * k + 2), ee (4 * k + 3)], V [p (4 * k), p (4 * k + 1), p (4 * k + 2), p (4 * k + 3)]] w fun e w' => e = .returned (V [x (4 * k), x (4 * k + 1), x (4 * k + 2), x (4 * k + 3)]) ∧ Below w.heap.size w w')
    (cy : ∀ k, k < 3 → ∀ w, Mm w [(g, modx n o s)] → Calls Tryd.prog 40 #[.agg #[PT g 0], V [x (4 * k), x (4 * k + 1), x (4 * k + 2), x (4 * k + 3)]] w fun e w' => e = .returned (V [r (2 * (2 * k)), r (2 * (2 * k) + 1)]) ∧ Below w.heap.size w w')
    (cv : ∀ k, k < 3 → ∀ w, Calls Tryd.prog 60 #[V [q (4 * k), q (4 * k + 1), q (4 * k + 2), q (4 * k + 3)], V [ee (4 * k), ee (4 * k + 1), ee (4 * k + 2), ee (4 * k + 3)]] w fun e w' => e = .returned (V [v (4 * k), v (4 * k + 1), v (4 * k + 2), v (4 * k + 3)]) ∧ Below w.heap.size w w')
    (cz : ∀ k, k < 3 → ∀ w, Calls Tryd.prog 60 #[V [v (4 * k), v (4 * k + 1), v (4 * k + 2), v (4 * k + 3)], V [oo (4 * k), oo (4 * k + 1), oo (4 * k + 2), oo (4 * k + 3)]] w fun e w' => e = .returned (V [z (4 * k), z (4 * k + 1), z (4 * k + 2), z (4 * k + 3)]) ∧ Below w.heap.size w w')
    (cw : ∀ k, k < 3 → ∀ w, Mm w [(g, modx n o s)] → Calls Tryd.prog 40 #[.agg #[PT g 0], V [z (4 * k), z (4 * k + 1), z (4 * k + 2), z (4 * k + 3)]] w fun e w' => e = .returned (V [r (2 * (2 * k + 1)), r (2 * (2 * k + 1) + 1)]) ∧ Below w.heap.size w w') (w : World) (hm : Mm w [(g, modx n o s)]) :
    Calls Tryd.prog 34 #[.agg #[PT g 0], V [a 0, a 1, a 2, a 3, a 4, a 5, a 6, a 7, a 8, a 9, a 10, a 11], V [b 0, b 1, b 2, b 3, b 4, b 5, b 6, b 7, b 8, b 9, b 10, b 11]] w fun e w' => e = .returned (V [r 0, r 1, r 2, r 3, r 4, r 5, r 6, r 7, r 8, r 9, r 10, r 11]) ∧ Below w.heap.size w w' := by
  have H0 : Hid (_ ∧ _) := ⟨hm, Below.refl w.heap.size w⟩
  clear hm
  have CE : Hid _ := ce
  have CO : Hid _ := co
  have CT : Hid _ := ct
  have CU : Hid _ := cu
  have CQ : Hid _ := cq
  have CR : Hid _ := cr
  have HP : Hid _ := hp
  have CX : Hid _ := cx
  have CY : Hid _ := cy
  have CV : Hid _ := cv
  have CZ : Hid _ := cz
  have CW : Hid _ := cw
  clear ce co ct cu cq cr hp cx cy cv cz cw
  go_enter Tryd.func34, Tryd.ntmps34
  refine wp_seq ?_
  refine walk_seq 4 [.made [PT g 0] 47, .made (cel [a 0, a 1, a 2, a 3, a 4, a 5, a 6, a 7, a 8, a 9, a 10, a 11]) 37, .made (cel [b 0, b 1, b 2, b 3, b 4, b 5, b 6, b 7, b 8, b 9, b 10, b 11]) 37, .made (cel [0, 0, 0, 0, 0, 0, 0, 0, 0, 0, 0, 0]) 37] _ ?pre1 ?F1 ?hpre1 (fun γ => ?hF1) (by kernel_rfl) trivial (sB H0) ?ho1 ?he1
  case hpre1 => simp only [tk, tz]; rfl
  case hF1 => simp only [fill, Kind.val, Act.put, sa, sz, ss]; rfl
  case ho1 =>
    refine ak (fun γ => ⟨rfl, fun w' => ex_boxF rfl rfl⟩) ?_
    refine ak (fun γ => ⟨rfl, fun w' => ex_boxA rfl rfl⟩) ?_
    refine ak (fun γ => ⟨rfl, fun w' => ex_boxA rfl rfl⟩) ?_
    refine ak (fun γ => ⟨rfl, fun w' => ex_madeE12 rfl⟩) ?_
    exact trivial
  intro γ w1 l hM hl
  have H1 : Hid (Mm w1 [(γ 0, [PT g 0]), (γ 1, cel [a 0, a 1, a 2, a 3, a 4, a 5, a 6, a 7, a 8, a 9, a 10, a 11]), (γ 2, cel [b 0, b 1, b 2, b 3, b 4, b 5, b 6, b 7, b 8, b 9, b 10, b 11]), (γ 3, cel [0, 0, 0, 0, 0, 0, 0, 0, 0, 0, 0, 0]), (g, modx n o s)] ∧ _) := growB H0 hM (Nat.le_refl _) hl [0, 1, 2, 3] rfl (by decide)
  have o1_0 := ownB H0 hM (Nat.le_refl _) hl (i := 0) rfl
  have o1_1 := ownB H0 hM (Nat.le_refl _) hl (i := 1) rfl
  have o1_2 := ownB H0 hM (Nat.le_refl _) hl (i := 2) rfl
  have o1_3 := ownB H0 hM (Nat.le_refl _) hl (i := 3) rfl
  clear hM hl l
  generalize γ 0 = γ1_0 at H1 o1_0 ⊢
  generalize γ 1 = γ1_1 at H1 o1_1 ⊢
  generalize γ 2 = γ1_2 at H1 o1_2 ⊢
  generalize γ 3 = γ1_3 at H1 o1_3 ⊢
  clear γ
  refine rest0 rfl (then_normal ?_)
  refine wp_seq ?_
  refine walk_any (by kernel_rfl) 16 [.quiet (V [a 0, a 1, a 2, a 3, a 4, a 5, a 6, a 7, a 8, a 9, a 10, a 11]), .call (V [a 0, a 1, a 4, a 5, a 8, a 9]), .quiet (V [a 0, a 1, a 2, a 3, a 4, a 5, a 6, a 7, a 8, a 9, a 10, a 11]), .call (V [a 2, a 3, a 6, a 7, a 10, a 11]), .quiet (V [b 0, b 1, b 2, b 3, b 4, b 5, b 6, b 7, b 8, b 9, b 10, b 11]), .call (V [b 0, b 1, b 4, b 5, b 8, b 9]), .quiet (V [b 0, b 1, b 2, b 3, b 4, b 5, b 6, b 7, b 8, b 9, b 10, b 11]), .call (V [b 2, b 3, b 6, b 7, b 10, b 11]), .made (cel [0, 0, 0, 0, 0, 0]) 73, .made (cel [0, 0, 0, 0, 0, 0]) 73, .made (cel [0, 0, 0, 0, 0, 0]) 73, .made (cel [0, 0, 0, 0, 0, 0]) 73, .laid 8 (cel [0, 0, 0, 0, 0, 0]) (cel [a 0, a 1, a 4, a 5, a 8, a 9]), .laid 9 (cel [0, 0, 0, 0, 0, 0]) (cel [a 2, a 3, a 6, a 7, a 10, a 11]), .laid 10 (cel [0, 0, 0, 0, 0, 0]) (cel [b 0, b 1, b 4, b 5, b 8, b 9]), .laid 11 (cel [0, 0, 0, 0, 0, 0]) (cel [b 2, b 3, b 6, b 7, b 10, b 11])] _ ?pre2 ?F2 ?hpre2 (fun γ => ?hF2) (by kernel_rfl) ?hL2 (sB H1) ?ho2 ?he2
  case hpre2 => simp only [tk, tz]; rfl
  case hF2 => simp only [fill, Kind.val, Act.put, sa, sz, ss]; rfl
  case hL2 => exact ⟨⟨_, rfl⟩, ⟨_, rfl⟩, ⟨_, rfl⟩, ⟨_, rfl⟩, trivial⟩
  case ho2 =>
    refine ak (fun γ => ⟨rfl, fun w' h => ex_loadA (i := 0) (k := 12) h 1 rfl rfl rfl Tryd.isAgg37 Tryd.sizeOf37 rfl rfl⟩) ?_
    refine ak (fun γ => ⟨rfl, fun w' h => ⟨55, #[V [a 0, a 1, a 2, a 3, a 4, a 5, a 6, a 7, a 8, a 9, a 10, a 11], .int .i64 0], exec_call rfl call55 rfl (mpn rfl), parts_0 a w'⟩⟩) ?_
    refine ak (fun γ => ⟨rfl, fun w' h => ex_loadA (i := 0) (k := 12) h 1 rfl rfl rfl Tryd.isAgg37 Tryd.sizeOf37 rfl rfl⟩) ?_
    refine ak (fun γ => ⟨rfl, fun w' h => ⟨55, #[V [a 0, a 1, a 2, a 3, a 4, a 5, a 6, a 7, a 8, a 9, a 10, a 11], .int .i64 1], exec_call rfl call55 rfl (mpn rfl), parts_1 a w'⟩⟩) ?_
    refine ak (fun γ => ⟨rfl, fun w' h => ex_loadA (i := 0) (k := 12) h 2 rfl rfl rfl Tryd.isAgg37 Tryd.sizeOf37 rfl rfl⟩) ?_
    refine ak (fun γ => ⟨rfl, fun w' h => ⟨55, #[V [b 0, b 1, b 2, b 3, b 4, b 5, b 6, b 7, b 8, b 9, b 10, b 11], .int .i64 0], exec_call rfl call55 rfl (mpn rfl), parts_0 b w'⟩⟩) ?_
    refine ak (fun γ => ⟨rfl, fun w' h => ex_loadA (i := 0) (k := 12) h 2 rfl rfl rfl Tryd.isAgg37 Tryd.sizeOf37 rfl rfl⟩) ?_
    refine ak (fun γ => ⟨rfl, fun w' h => ⟨55, #[V [b 0, b 1, b 2, b 3, b 4, b 5, b 6, b 7, b 8, b 9, b 10, b 11], .int .i64 1], exec_call rfl call55 rfl (mpn rfl), parts_1 b w'⟩⟩) ?_
    refine ak (fun γ => ⟨rfl, fun w' => ex_madeTH rfl⟩) ?_
    refine ak (fun γ => ⟨rfl, fun w' => ex_madeTH rfl⟩) ?_
    refine ak (fun γ => ⟨rfl, fun w' => ex_madeTH rfl⟩) ?_
    refine ak (fun γ => ⟨rfl, fun w' => ex_madeTH rfl⟩) ?_
    refine ak (fun γ => ⟨rfl, rfl, rfl, fun w' h => ex_laidA h rfl Tryd.sizeOf73 rfl rfl rfl⟩) ?_
    refine ak (fun γ => ⟨rfl, rfl, rfl, fun w' h => ex_laidA h rfl Tryd.sizeOf73 rfl rfl rfl⟩) ?_
    refine ak (fun γ => ⟨rfl, rfl, rfl, fun w' h => ex_laidA h rfl Tryd.sizeOf73 rfl rfl rfl⟩) ?_
    refine ak (fun γ => ⟨rfl, rfl, rfl, fun w' h => ex_laidA h rfl Tryd.sizeOf73 rfl rfl rfl⟩) ?_
    exact trivial
  intro γ w2 l hM hl
  have H2 : Hid (Mm w2 [(γ 8, cel [a 0, a 1, a 4, a 5, a 8, a 9]), (γ 9, cel [a 2, a 3, a 6, a 7, a 10, a 11]), (γ 10, cel [b 0, b 1, b 4, b 5, b 8, b 9]), (γ 11, cel [b 2, b 3, b 6, b 7, b 10, b 11]), (γ1_0, [PT g 0]), (γ1_1, cel [a 0, a 1, a 2, a 3, a 4, a 5, a 6, a 7, a 8, a 9, a 10, a 11]), (γ1_2, cel [b 0, b 1, b 2, b 3, b 4, b 5, b 6, b 7, b 8, b 9, b 10, b 11]), (γ1_3, cel [0, 0, 0, 0, 0, 0, 0, 0, 0, 0, 0, 0]), (g, modx n o s)] ∧ _) := growB H1 hM (Nat.le_refl _) hl [8, 9, 10, 11] rfl (by decide)
  have o2_8 := ownB H1 hM (Nat.le_refl _) hl (i := 8) rfl
  have o2_9 := ownB H1 hM (Nat.le_refl _) hl (i := 9) rfl
  have o2_10 := ownB H1 hM (Nat.le_refl _) hl (i := 10) rfl
  have o2_11 := ownB H1 hM (Nat.le_refl _) hl (i := 11) rfl
  clear hM hl l H1
  generalize γ 8 = γ2_8 at H2 o2_8 ⊢
  generalize γ 9 = γ2_9 at H2 o2_9 ⊢
  generalize γ 10 = γ2_10 at H2 o2_10 ⊢
  generalize γ 11 = γ2_11 at H2 o2_11 ⊢
  clear γ
  refine rest0 rfl (then_normal ?_)
  refine wp_seq ?_
  refine walk_any (by kernel_rfl) 10 [.quiet (V [a 0, a 1, a 4, a 5, a 8, a 9]), .quiet (V [b 0, b 1, b 4, b 5, b 8, b 9]), .call (V [ee 0, ee 1, ee 2, ee 3, ee 4, ee 5, ee 6, ee 7, ee 8, ee 9, ee 10, ee 11]), .quiet (V [a 2, a 3, a 6, a 7, a 10, a 11]), .quiet (V [b 2, b 3, b 6, b 7, b 10, b 11]), .call (V [oo 0, oo 1, oo 2, oo 3, oo 4, oo 5, oo 6, oo 7, oo 8, oo 9, oo 10, oo 11]), .made (cel [0, 0, 0, 0, 0, 0, 0, 0, 0, 0, 0, 0]) 76, .made (cel [0, 0, 0, 0, 0, 0, 0, 0, 0, 0, 0, 0]) 76, .laid 6 (cel [0, 0, 0, 0, 0, 0, 0, 0, 0, 0, 0, 0]) (cel [ee 0, ee 1, ee 2, ee 3, ee 4, ee 5, ee 6, ee 7, ee 8, ee 9, ee 10, ee 11]), .laid 7 (cel [0, 0, 0, 0, 0, 0, 0, 0, 0, 0, 0, 0]) (cel [oo 0, oo 1, oo 2, oo 3, oo 4, oo 5, oo 6, oo 7, oo 8, oo 9, oo 10, oo 11])] _ ?pre3 ?F3 ?hpre3 (fun γ => ?hF3) (by kernel_rfl) ?hL3 (sB H2) ?ho3 ?he3
  case hpre3 => simp only [tk, tz]; rfl
  case hF3 => simp only [fill, Kind.val, Act.put, sa, sz, ss]; rfl
  case hL3 => exact ⟨⟨_, rfl⟩, ⟨_, rfl⟩, trivial⟩
  case ho3 =>
    refine ak (fun γ => ⟨rfl, fun w' h => ex_loadA (i := 0) (k := 6) h 0 rfl rfl rfl Tryd.isAgg73 Tryd.sizeOf73 rfl rfl⟩) ?_
    refine ak (fun γ => ⟨rfl, fun w' h => ex_loadA (i := 0) (k := 6) h 2 rfl rfl rfl Tryd.isAgg73 Tryd.sizeOf73 rfl rfl⟩) ?_
    refine ak (fun γ => ⟨rfl, fun w' h => ⟨56, #[V [a 0, a 1, a 4, a 5, a 8, a 9], V [b 0, b 1, b 4, b 5, b 8, b 9]], exec_call rfl call56 rfl (mpn rfl), CE.out w'⟩⟩) ?_
    refine ak (fun γ => ⟨rfl, fun w' h => ex_loadA (i := 0) (k := 6) h 1 rfl rfl rfl Tryd.isAgg73 Tryd.sizeOf73 rfl rfl⟩) ?_
    refine ak (fun γ => ⟨rfl, fun w' h => ex_loadA (i := 0) (k := 6) h 3 rfl rfl rfl Tryd.isAgg73 Tryd.sizeOf73 rfl rfl⟩) ?_
    refine ak (fun γ => ⟨rfl, fun w' h => ⟨56, #[V [a 2, a 3, a 6, a 7, a 10, a 11], V [b 2, b 3, b 6, b 7, b 10, b 11]], exec_call rfl call56 rfl (mpn rfl), CO.out w'⟩⟩) ?_
    refine ak (fun γ => ⟨rfl, fun w' => ex_madeW3 rfl⟩) ?_
    refine ak (fun γ => ⟨rfl, fun w' => ex_madeW3 rfl⟩) ?_
    refine ak (fun γ => ⟨rfl, rfl, rfl, fun w' h => ex_laidA h rfl Tryd.sizeOf76 rfl rfl rfl⟩) ?_
    refine ak (fun γ => ⟨rfl, rfl, rfl, fun w' h => ex_laidA h rfl Tryd.sizeOf76 rfl rfl rfl⟩) ?_
    exact trivial
  intro γ w3 l hM hl
  have H3 : Hid (Mm w3 [(γ 6, cel [ee 0, ee 1, ee 2, ee 3, ee 4, ee 5, ee 6, ee 7, ee 8, ee 9, ee 10, ee 11]), (γ 7, cel [oo 0, oo 1, oo 2, oo 3, oo 4, oo 5, oo 6, oo 7, oo 8, oo 9, oo 10, oo 11]), (γ2_8, cel [a 0, a 1, a 4, a 5, a 8, a 9]), (γ2_9, cel [a 2, a 3, a 6, a 7, a 10, a 11]), (γ2_10, cel [b 0, b 1, b 4, b 5, b 8, b 9]), (γ2_11, cel [b 2, b 3, b 6, b 7, b 10, b 11]), (γ1_0, [PT g 0]), (γ1_1, cel [a 0, a 1, a 2, a 3, a 4, a 5, a 6, a 7, a 8, a 9, a 10, a 11]), (γ1_2, cel [b 0, b 1, b 2, b 3, b 4, b 5, b 6, b 7, b 8, b 9, b 10, b 11]), (γ1_3, cel [0, 0, 0, 0, 0, 0, 0, 0, 0, 0, 0, 0]), (g, modx n o s)] ∧ _) := growB H2 hM (Nat.le_refl _) hl [6, 7] rfl (by decide)
  have o3_6 := ownB H2 hM (Nat.le_refl _) hl (i := 6) rfl
  have o3_7 := ownB H2 hM (Nat.le_refl _) hl (i := 7) rfl
  clear hM hl l H2
  generalize γ 6 = γ3_6 at H3 o3_6 ⊢
  generalize γ 7 = γ3_7 at H3 o3_7 ⊢
  clear γ
  refine rest0 rfl (then_normal ?_)
  refine wp_seq ?_
  refine walk_any (by kernel_rfl) 9 [.quiet (V [a 0, a 1, a 4, a 5, a 8, a 9]), .quiet (V [a 2, a 3, a 6, a 7, a 10, a 11]), .call (V [t 0, t 1, t 2, t 3, t 4, t 5]), .quiet (V [b 0, b 1, b 4, b 5, b 8, b 9]), .quiet (V [b 2, b 3, b 6, b 7, b 10, b 11]), .call (V [u 0, u 1, u 2, u 3, u 4, u 5]), .call (V [q 0, q 1, q 2, q 3, q 4, q 5, q 6, q 7, q 8, q 9, q 10, q 11]), .made (cel [0, 0, 0, 0, 0, 0, 0, 0, 0, 0, 0, 0]) 76, .laid 7 (cel [0, 0, 0, 0, 0, 0, 0, 0, 0, 0, 0, 0]) (cel [q 0, q 1, q 2, q 3, q 4, q 5, q 6, q 7, q 8, q 9, q 10, q 11])] _ ?pre4 ?F4 ?hpre4 (fun γ => ?hF4) (by kernel_rfl) ?hL4 (sB H3) ?ho4 ?he4
  case hpre4 => simp only [tk, tz]; rfl
  case hF4 => simp only [fill, Kind.val, Act.put, sa, sz, ss]; rfl
  case hL4 => exact ⟨⟨_, rfl⟩, trivial⟩
  case ho4 =>
    refine ak (fun γ => ⟨rfl, fun w' h => ex_loadA (i := 0) (k := 6) h 2 rfl rfl rfl Tryd.isAgg73 Tryd.sizeOf73 rfl rfl⟩) ?_
    refine ak (fun γ => ⟨rfl, fun w' h => ex_loadA (i := 0) (k := 6) h 3 rfl rfl rfl Tryd.isAgg73 Tryd.sizeOf73 rfl rfl⟩) ?_
    refine ak (fun γ => ⟨rfl, fun w' h => ⟨57, #[V [a 0, a 1, a 4, a 5, a 8, a 9], V [a 2, a 3, a 6, a 7, a 10, a 11]], exec_call rfl call57 rfl (mpn rfl), CT.out w'⟩⟩) ?_
    refine ak (fun γ => ⟨rfl, fun w' h => ex_loadA (i := 0) (k := 6) h 4 rfl rfl rfl Tryd.isAgg73 Tryd.sizeOf73 rfl rfl⟩) ?_
    refine ak (fun γ => ⟨rfl, fun w' h => ex_loadA (i := 0) (k := 6) h 5 rfl rfl rfl Tryd.isAgg73 Tryd.sizeOf73 rfl rfl⟩) ?_
    refine ak (fun γ => ⟨rfl, fun w' h => ⟨57, #[V [b 0, b 1, b 4, b 5, b 8, b 9], V [b 2, b 3, b 6, b 7, b 10, b 11]], exec_call rfl call57 rfl (mpn rfl), CU.out w'⟩⟩) ?_
    refine ak (fun γ => ⟨rfl, fun w' h => ⟨56, #[V [t 0, t 1, t 2, t 3, t 4, t 5], V [u 0, u 1, u 2, u 3, u 4, u 5]], exec_call rfl call56 rfl (mpn rfl), CQ.out w'⟩⟩) ?_
    refine ak (fun γ => ⟨rfl, fun w' => ex_madeW3 rfl⟩) ?_
    refine ak (fun γ => ⟨rfl, rfl, rfl, fun w' h => ex_laidA h rfl Tryd.sizeOf76 rfl rfl rfl⟩) ?_
    exact trivial
  intro γ w4 l hM hl
  have H4 : Hid (Mm w4 [(γ 7, cel [q 0, q 1, q 2, q 3, q 4, q 5, q 6, q 7, q 8, q 9, q 10, q 11]), (γ3_6, cel [ee 0, ee 1, ee 2, ee 3, ee 4, ee 5, ee 6, ee 7, ee 8, ee 9, ee 10, ee 11]), (γ3_7, cel [oo 0, oo 1, oo 2, oo 3, oo 4, oo 5, oo 6, oo 7, oo 8, oo 9, oo 10, oo 11]), (γ2_8, cel [a 0, a 1, a 4, a 5, a 8, a 9]), (γ2_9, cel [a 2, a 3, a 6, a 7, a 10, a 11]), (γ2_10, cel [b 0, b 1, b 4, b 5, b 8, b 9]), (γ2_11, cel [b 2, b 3, b 6, b 7, b 10, b 11]), (γ1_0, [PT g 0]), (γ1_1, cel [a 0, a 1, a 2, a 3, a 4, a 5, a 6, a 7, a 8, a 9, a 10, a 11]), (γ1_2, cel [b 0, b 1, b 2, b 3, b 4, b 5, b 6, b 7, b 8, b 9, b 10, b 11]), (γ1_3, cel [0, 0, 0, 0, 0, 0, 0, 0, 0, 0, 0, 0]), (g, modx n o s)] ∧ _) := growB H3 hM (Nat.le_refl _) hl [7] rfl (by decide)
  have o4_7 := ownB H3 hM (Nat.le_refl _) hl (i := 7) rfl
  clear hM hl l H3
  generalize γ 7 = γ4_7 at H4 o4_7 ⊢
  clear γ
  refine rest0 rfl (then_normal ?_)
  refine wp_seq ?_
  refine walk_any (by kernel_rfl) 10 [.quiet (PT γ3_7 48), .quiet (V [oo 8, oo 9, oo 10, oo 11]), .call (V [y 0, y 1, y 2, y 3]), .quiet (PT γ3_7 0), .quiet (V [oo 0, oo 1, oo 2, oo 3]), .quiet (PT γ3_7 24), .quiet (V [oo 4, oo 5, oo 6, oo 7]), .quiet (V [y 0, y 1, y 2, y 3, oo 0, oo 1, oo 2, oo 3, oo 4, oo 5, oo 6, oo 7]), .made (cel [0, 0, 0, 0, 0, 0, 0, 0, 0, 0, 0, 0]) 76, .laid 8 (cel [0, 0, 0, 0, 0, 0, 0, 0, 0, 0, 0, 0]) (cel [y 0, y 1, y 2, y 3, oo 0, oo 1, oo 2, oo 3, oo 4, oo 5, oo 6, oo 7])] _ ?pre5 ?F5 ?hpre5 (fun γ => ?hF5) (by kernel_rfl) ?hL5 (sB H4) ?ho5 ?he5
  case hpre5 => simp only [tk, tz]; rfl
  case hF5 => simp only [fill, Kind.val, Act.put, sa, sz, ss]; rfl
  case hL5 => exact ⟨⟨_, rfl⟩, trivial⟩
  case ho5 =>
    refine ak (by refine fun γ => ⟨rfl, fun w' h => ?_⟩; clear h; go_simp) ?_
    refine ak (fun γ => ⟨rfl, fun w' h => ex_loadA (i := 8) (k := 4) h 2 rfl rfl rfl Tryd.isAgg61 Tryd.sizeOf61 rfl rfl⟩) ?_
    refine ak (fun γ => ⟨rfl, fun w' h => ⟨58, #[V [oo 8, oo 9, oo 10, oo 11]], exec_call rfl call58 rfl (mpn rfl), CR.out w'⟩⟩) ?_
    refine ak (by refine fun γ => ⟨rfl, fun w' h => ?_⟩; clear h; go_simp) ?_
    refine ak (fun γ => ⟨rfl, fun w' h => ex_loadA (i := 0) (k := 4) h 2 rfl rfl rfl Tryd.isAgg61 Tryd.sizeOf61 rfl rfl⟩) ?_
    refine ak (by refine fun γ => ⟨rfl, fun w' h => ?_⟩; clear h; go_simp) ?_
    refine ak (fun γ => ⟨rfl, fun w' h => ex_loadA (i := 4) (k := 4) h 2 rfl rfl rfl Tryd.isAgg61 Tryd.sizeOf61 rfl rfl⟩) ?_
    refine ak (fun γ => ⟨rfl, fun w' _ => ex_buildW3 rfl rfl rfl rfl⟩) ?_
    refine ak (fun γ => ⟨rfl, fun w' => ex_madeW3 rfl⟩) ?_
    refine ak (fun γ => ⟨rfl, rfl, rfl, fun w' h => ex_laidA h rfl Tryd.sizeOf76 rfl rfl rfl⟩) ?_
    exact trivial
  intro γ w5 l hM hl
  have H5 : Hid (Mm w5 [(γ 8, cel [y 0, y 1, y 2, y 3, oo 0, oo 1, oo 2, oo 3, oo 4, oo 5, oo 6, oo 7]), (γ4_7, cel [q 0, q 1, q 2, q 3, q 4, q 5, q 6, q 7, q 8, q 9, q 10, q 11]), (γ3_6, cel [ee 0, ee 1, ee 2, ee 3, ee 4, ee 5, ee 6, ee 7, ee 8, ee 9, ee 10, ee 11]), (γ3_7, cel [oo 0, oo 1, oo 2, oo 3, oo 4, oo 5, oo 6, oo 7, oo 8, oo 9, oo 10, oo 11]), (γ2_8, cel [a 0, a 1, a 4, a 5, a 8, a 9]), (γ2_9, cel [a 2, a 3, a 6, a 7, a 10, a 11]), (γ2_10, cel [b 0, b 1, b 4, b 5, b 8, b 9]), (γ2_11, cel [b 2, b 3, b 6, b 7, b 10, b 11]), (γ1_0, [PT g 0]), (γ1_1, cel [a 0, a 1, a 2, a 3, a 4, a 5, a 6, a 7, a 8, a 9, a 10, a 11]), (γ1_2, cel [b 0, b 1, b 2, b 3, b 4, b 5, b 6, b 7, b 8, b 9, b 10, b 11]), (γ1_3, cel [0, 0, 0, 0, 0, 0, 0, 0, 0, 0, 0, 0]), (g, modx n o s)] ∧ _) := growB H4 hM (Nat.le_refl _) hl [8] rfl (by decide)
  have o5_8 := ownB H4 hM (Nat.le_refl _) hl (i := 8) rfl
  clear hM hl l H4
  generalize γ 8 = γ5_8 at H5 o5_8 ⊢
  clear γ
  refine rest0 rfl (then_normal ?_)
  refine wp_seq ?_
  refine walk_seq 1 [.made (cel [0, 0, 0, 0, 0, 0, 0, 0, 0, 0, 0, 0]) 37] _ ?pre6 ?F6 ?hpre6 (fun γ => ?hF6) (by kernel_rfl) trivial (sB H5) ?ho6 ?he6
  case hpre6 => simp only [tk, tz]; rfl
  case hF6 => simp only [fill, Kind.val, Act.put, sa, sz, ss]; rfl
  case ho6 =>
    refine ak (fun γ => ⟨rfl, fun w' => ex_madeE12 rfl⟩) ?_
    exact trivial
  intro γ w6 l hM hl
  have H6 : Hid (Mm w6 [(γ 0, cel [0, 0, 0, 0, 0, 0, 0, 0, 0, 0, 0, 0]), (γ5_8, cel [y 0, y 1, y 2, y 3, oo 0, oo 1, oo 2, oo 3, oo 4, oo 5, oo 6, oo 7]), (γ4_7, cel [q 0, q 1, q 2, q 3, q 4, q 5, q 6, q 7, q 8, q 9, q 10, q 11]), (γ3_6, cel [ee 0, ee 1, ee 2, ee 3, ee 4, ee 5, ee 6, ee 7, ee 8, ee 9, ee 10, ee 11]), (γ3_7, cel [oo 0, oo 1, oo 2, oo 3, oo 4, oo 5, oo 6, oo 7, oo 8, oo 9, oo 10, oo 11]), (γ2_8, cel [a 0, a 1, a 4, a 5, a 8, a 9]), (γ2_9, cel [a 2, a 3, a 6, a 7, a 10, a 11]), (γ2_10, cel [b 0, b 1, b 4, b 5, b 8, b 9]), (γ2_11, cel [b 2, b 3, b 6, b 7, b 10, b 11]), (γ1_0, [PT g 0]), (γ1_1, cel [a 0, a 1, a 2, a 3, a 4, a 5, a 6, a 7, a 8, a 9, a 10, a 11]), (γ1_2, cel [b 0, b 1, b 2, b 3, b 4, b 5, b 6, b 7, b 8, b 9, b 10, b 11]), (γ1_3, cel [0, 0, 0, 0, 0, 0, 0, 0, 0, 0, 0, 0]), (g, modx n o s)] ∧ _) := growB H5 hM (Nat.le_refl _) hl [0] rfl (by decide)
  have o6_0 := ownB H5 hM (Nat.le_refl _) hl (i := 0) rfl
  clear hM hl l H5
  generalize γ 0 = γ6_0 at H6 o6_0 ⊢
  clear γ
  refine rest0 rfl (then_normal ?_)
  refine wp_seq ?_
  refine wp_seq ?_
  refine walk_seq 1 [.quiet (.int .i64 0)] _ ?pre7 ?F7 ?hpre7 (fun γ => ?hF7) (by kernel_rfl) trivial (sB H6) ?ho7 ?he7
  case hpre7 => simp only [tk, tz]; rfl
  case hF7 => simp only [fill, Kind.val, Act.put, sa, sz, ss]; rfl
  case ho7 =>
    refine ak (fun _ => ⟨rfl, fun _ _ => rfl⟩) ?_
    exact trivial
  intro γ w7 l hM hl
  have H7 := keepB H6 hM.below
  clear hM hl l H6 γ
  refine rest0 rfl (then_normal ?_)
  have H8 : Hid (Mm w7 [(γ6_0, cel [0, 0, 0, 0, 0, 0, 0, 0, 0, 0, 0, 0]), (γ5_8, cel [p 0, p 1, p 2, p 3, p 4, p 5, p 6, p 7, p 8, p 9, p 10, p 11]), (γ4_7, cel [q 0, q 1, q 2, q 3, q 4, q 5, q 6, q 7, q 8, q 9, q 10, q 11]), (γ3_6, cel [ee 0, ee 1, ee 2, ee 3, ee 4, ee 5, ee 6, ee 7, ee 8, ee 9, ee 10, ee 11]), (γ3_7, cel [oo 0, oo 1, oo 2, oo 3, oo 4, oo 5, oo 6, oo 7, oo 8, oo 9, oo 10, oo 11]), (γ2_8, cel [a 0, a 1, a 4, a 5, a 8, a 9]), (γ2_9, cel [a 2, a 3, a 6, a 7, a 10, a 11]), (γ2_10, cel [b 0, b 1, b 4, b 5, b 8, b 9]), (γ2_11, cel [b 2, b 3, b 6, b 7, b 10, b 11]), (γ1_0, [PT g 0]), (γ1_1, cel [a 0, a 1, a 2, a 3, a 4, a 5, a 6, a 7, a 8, a 9, a 10, a 11]), (γ1_2, cel [b 0, b 1, b 2, b 3, b 4, b 5, b 6, b 7, b 8, b 9, b 10, b 11]), (γ1_3, cel [0, 0, 0, 0, 0, 0, 0, 0, 0, 0, 0, 0]), (g, modx n o s)] ∧ Below w.heap.size w w7) := ⟨H7.out.1.atk (by rw [HP.out]), H7.out.2⟩
  clear H7
  refine wp_block ?_
  refine loop_ghost (α := Nat) (fun k a' w' => ∃ s0 : Nat → Value, a' = ⟨#[.agg #[PT g 0], V [a 0, a 1, a 2, a 3, a 4, a 5, a 6, a 7, a 8, a 9, a 10, a 11], V [b 0, b 1, b 2, b 3, b 4, b 5, b 6, b 7, b 8, b 9, b 10, b 11], PT γ1_0 0, PT γ1_1 0, PT γ1_2 0, PT γ1_3 0, PT γ2_8 0, PT γ2_9 0, PT γ2_10 0, PT γ2_11 0, PT γ3_6 0, PT γ3_7 0, PT γ4_7 0, PT γ5_8 0, PT γ6_0 0, s0 16, V [a 0, a 1, a 2, a 3, a 4, a 5, a 6, a 7, a 8, a 9, a 10, a 11], V [a 0, a 1, a 4, a 5, a 8, a 9], V [a 0, a 1, a 2, a 3, a 4, a 5, a 6, a 7, a 8, a 9, a 10, a 11], V [a 2, a 3, a 6, a 7, a 10, a 11], V [b 0, b 1, b 2, b 3, b 4, b 5, b 6, b 7, b 8, b 9, b 10, b 11], V [b 0, b 1, b 4, b 5, b 8, b 9], V [b 0, b 1, b 2, b 3, b 4, b 5, b 6, b 7, b 8, b 9, b 10, b 11], V [b 2, b 3, b 6, b 7, b 10, b 11], V [a 0, a 1, a 4, a 5, a 8, a 9], V [b 0, b 1, b 4, b 5, b 8, b 9], V [ee 0, ee 1, ee 2, ee 3, ee 4, ee 5, ee 6, ee 7, ee 8, ee 9, ee 10, ee 11], V [a 2, a 3, a 6, a 7, a 10, a 11], V [b 2, b 3, b 6, b 7, b 10, b 11], V [oo 0, oo 1, oo 2, oo 3, oo 4, oo 5, oo 6, oo 7, oo 8, oo 9, oo 10, oo 11], V [a 0, a 1, a 4, a 5, a 8, a 9], V [a 2, a 3, a 6, a 7, a 10, a 11], V [t 0, t 1, t 2, t 3, t 4, t 5], V [b 0, b 1, b 4, b 5, b 8, b 9], V [b 2, b 3, b 6, b 7, b 10, b 11], V [u 0, u 1, u 2, u 3, u 4, u 5], V [q 0, q 1, q 2, q 3, q 4, q 5, q 6, q 7, q 8, q 9, q 10, q 11], PT γ3_7 48, V [oo 8, oo 9, oo 10, oo 11], V [y 0, y 1, y 2, y 3], PT γ3_7 0, V [oo 0, oo 1, oo 2, oo 3], PT γ3_7 24, V [oo 4, oo 5, oo 6, oo 7], V [y 0, y 1, y 2, y 3, oo 0, oo 1, oo 2, oo 3, oo 4, oo 5, oo 6, oo 7], .int .i64 ((k : Nat) : Int), s0 47, s0 48, s0 49, s0 50, s0 51, s0 52, s0 53, s0 54, s0 55, s0 56, s0 57, s0 58, s0 59, s0 60, s0 61, s0 62, s0 63, s0 64, s0 65, s0 66, s0 67, s0 68, s0 69, s0 70, s0 71, s0 72, s0 73, s0 74, s0 75, s0 76, s0 77, s0 78, undef], []⟩ ∧ (Mm w' [(γ6_0, cel (mx12 zf r (2 * (2 * k)))), (γ5_8, cel [p 0, p 1, p 2, p 3, p 4, p 5, p 6, p 7, p 8, p 9, p 10, p 11]), (γ4_7, cel [q 0, q 1, q 2, q 3, q 4, q 5, q 6, q 7, q 8, q 9, q 10, q 11]), (γ3_6, cel [ee 0, ee 1, ee 2, ee 3, ee 4, ee 5, ee 6, ee 7, ee 8, ee 9, ee 10, ee 11]), (γ3_7, cel [oo 0, oo 1, oo 2, oo 3, oo 4, oo 5, oo 6, oo 7, oo 8, oo 9, oo 10, oo 11]), (γ2_8, cel [a 0, a 1, a 4, a 5, a 8, a 9]), (γ2_9, cel [a 2, a 3, a 6, a 7, a 10, a 11]), (γ2_10, cel [b 0, b 1, b 4, b 5, b 8, b 9]), (γ2_11, cel [b 2, b 3, b 6, b 7, b 10, b 11]), (γ1_0, [PT g 0]), (γ1_1, cel [a 0, a 1, a 2, a 3, a 4, a 5, a 6, a 7, a 8, a 9, a 10, a 11]), (γ1_2, cel [b 0, b 1, b 2, b 3, b 4, b 5, b 6, b 7, b 8, b 9, b 10, b 11]), (γ1_3, cel [0, 0, 0, 0, 0, 0, 0, 0, 0, 0, 0, 0]), (g, modx n o s)] ∧ Below w.heap.size w w') ∧ k ≤ 3) (fun k => 3 - k) 0 ?st0 ?rd0
  case st0 => exact ⟨(slotfn [undef, undef, undef, undef, undef, undef, undef, undef, undef, undef, undef, undef, undef, undef, undef, undef, undef, undef, undef, undef, undef, undef, undef, undef, undef, undef, undef, undef, undef, undef, undef, undef, undef, undef, undef, undef, undef, undef, undef, undef, undef, undef, undef, undef, undef, undef, undef, undef, undef, undef, undef, undef, undef, undef, undef, undef, undef, undef, undef, undef, undef, undef, undef, undef, undef, undef, undef, undef, undef, undef, undef, undef, undef, undef, undef, undef, undef, undef, undef]), rfl, ⟨H8.out.1.atk (by rw [zf_0 r]), H8.out.2⟩, by omega⟩
  intro k a' w9 hI
  obtain ⟨s0, rfl, hMB, hk0⟩ := hI
  have H9 : Hid (_ ∧ _) := hMB
  clear hMB H8
  by_cases hlt : k < 3
  · have hrd : True := trivial
    clear hrd
    refine wp_seq ?_
    refine walk_seq 1 [.quiet (.bool true)] _ ?pre8 ?F8 ?hpre8 (fun γ => ?hF8) (by kernel_rfl) trivial (sB H9) ?ho8 ?he8
    case hpre8 => simp only [tk, tz]; rfl
    case hF8 => simp only [fill, Kind.val, Act.put, sa, sz, ss]; rfl
    case ho8 =>
      refine ak (by refine fun γ => ⟨rfl, fun w' h => ?_⟩; clear h; go_simp <;> omega) ?_
      exact trivial
    intro γ w10 l hM hl
    have H10 := keepB H9 hM.below
    clear hM hl l H9 γ
    refine rest0 rfl (then_normal ?_)
    refine wp_seq ?_
    refine wp_cond_true rfl ?_
    refine wp_skip ?_
    refine then_normal ?_
    refine wp_seq ?_
    refine wp_block ?_
    refine wp_seq ?_
    refine walk_seq 2 [.quiet (.int .i64 ((k : Nat) : Int)), .quiet (.int .i64 ((k : Nat) : Int))] _ ?pre9 ?F9 ?hpre9 (fun γ => ?hF9) (by kernel_rfl) trivial (sB H10) ?ho9 ?he9
    case hpre9 => simp only [tk, tz]; rfl
    case hF9 => simp only [fill, Kind.val, Act.put, sa, sz, ss]; rfl
    case ho9 =>
      refine ak (fun _ => ⟨rfl, fun _ _ => rfl⟩) ?_
      refine ak (fun _ => ⟨rfl, fun _ _ => rfl⟩) ?_
      exact trivial
    intro γ w11 l hM hl
    have H11 := keepB H10 hM.below
    clear hM hl l H10 γ
    refine rest0 rfl (then_normal ?_)
    refine wp_seq ?_
    refine walk_any (by kernel_rfl) 12 [.quiet (.int .i64 ((k : Nat) : Int)), .quiet (.int .i64 ((2 * k : Nat) : Int)), .quiet (.agg #[PT g 0]), .quiet (.int .i64 ((k : Nat) : Int)), .quiet (PT γ3_6 (6 * (4 * k))), .quiet (V [ee (4 * k), ee (4 * k + 1), ee (4 * k + 2), ee (4 * k + 3)]), .quiet (.int .i64 ((k : Nat) : Int)), .quiet (PT γ5_8 (6 * (4 * k))), .quiet (V [p (4 * k), p (4 * k + 1), p (4 * k + 2), p (4 * k + 3)]), .call (V [x (4 * k), x (4 * k + 1), x (4 * k + 2), x (4 * k + 3)]), .call (V [r (2 * (2 * k)), r (2 * (2 * k) + 1)]), .quiet (PT γ6_0 (6 * (2 * (2 * k))))] _ ?pre10 ?F10 ?hpre10 (fun γ => ?hF10) (by kernel_rfl) trivial (sB H11) ?ho10 ?he10
    case hpre10 => simp only [tk, tz]; rfl
    case hF10 => simp only [fill, Kind.val, Act.put, sa, sz, ss]; rfl
    case ho10 =>
      refine ak (fun _ => ⟨rfl, fun _ _ => rfl⟩) ?_
      refine ak (by refine fun γ => ⟨rfl, fun w' h => ?_⟩; clear h; go_simp; rw [IntKind.wrap_i64]; omega) ?_
      refine ak (fun γ => ⟨rfl, fun w' h => ex_loadF h 9 rfl rfl rfl rfl⟩) ?_
      refine ak (fun _ => ⟨rfl, fun _ _ => rfl⟩) ?_
      refine ak (fun γ => ⟨rfl, fun w' _ => ex_idxW3 rfl rfl rfl (by omega)⟩) ?_
      refine ak (fun γ => ⟨rfl, fun w' h => ex_loadA (i := 4 * k) (k := 4) h 3 rfl rfl rfl Tryd.isAgg61 Tryd.sizeOf61 (tl12_ld4 ee hlt) rfl⟩) ?_
      refine ak (fun _ => ⟨rfl, fun _ _ => rfl⟩) ?_
      refine ak (fun γ => ⟨rfl, fun w' _ => ex_idxW3 rfl rfl rfl (by omega)⟩) ?_
      refine ak (fun γ => ⟨rfl, fun w' h => ex_loadA (i := 4 * k) (k := 4) h 1 rfl rfl rfl Tryd.isAgg61 Tryd.sizeOf61 (tl12_ld4 p hlt) rfl⟩) ?_
      refine ak (fun γ => ⟨rfl, fun w' h => ⟨59, #[V [ee (4 * k), ee (4 * k + 1), ee (4 * k + 2), ee (4 * k + 3)], V [p (4 * k), p (4 * k + 1), p (4 * k + 2), p (4 * k + 3)]], exec_call rfl call59 rfl (mpn rfl), CX.out k hlt w'⟩⟩) ?_
      refine ak (fun γ => ⟨rfl, fun w' h => ⟨40, #[.agg #[PT g 0], V [x (4 * k), x (4 * k + 1), x (4 * k + 2), x (4 * k + 3)]], exec_call rfl call40 rfl (mpn rfl), CY.out k hlt w' (h.one 13 rfl)⟩⟩) ?_
      refine ak (fun γ => ⟨rfl, fun w' _ => ex_idxE12 rfl rfl rfl (by omega)⟩) ?_
      exact trivial
    intro γ w12 l hM hl
    have H12 := keepB H11 hM.below
    clear hM hl l H11 γ
    refine rest_at (l := [12]) rfl ?_
    refine rest_store rfl rfl rfl (ex_storeA (i := 2 * (2 * k)) (ms := [r (2 * (2 * k)), r (2 * (2 * k) + 1)]) H12.out.1 0 rfl rfl rfl rfl Tryd.sizeOf26 (mx12_bd zf r rfl (by omega))) ?_
    have H13 : Hid (Mm (w12.setCells γ6_0 (6 * (2 * (2 * k))) (cel [r (2 * (2 * k)), r (2 * (2 * k) + 1)])) [(γ6_0, cel (mx12 zf r (2 * (2 * k + 1)))), (γ5_8, cel [p 0, p 1, p 2, p 3, p 4, p 5, p 6, p 7, p 8, p 9, p 10, p 11]), (γ4_7, cel [q 0, q 1, q 2, q 3, q 4, q 5, q 6, q 7, q 8, q 9, q 10, q 11]), (γ3_6, cel [ee 0, ee 1, ee 2, ee 3, ee 4, ee 5, ee 6, ee 7, ee 8, ee 9, ee 10, ee 11]), (γ3_7, cel [oo 0, oo 1, oo 2, oo 3, oo 4, oo 5, oo 6, oo 7, oo 8, oo 9, oo 10, oo 11]), (γ2_8, cel [a 0, a 1, a 4, a 5, a 8, a 9]), (γ2_9, cel [a 2, a 3, a 6, a 7, a 10, a 11]), (γ2_10, cel [b 0, b 1, b 4, b 5, b 8, b 9]), (γ2_11, cel [b 2, b 3, b 6, b 7, b 10, b 11]), (γ1_0, [PT g 0]), (γ1_1, cel [a 0, a 1, a 2, a 3, a 4, a 5, a 6, a 7, a 8, a 9, a 10, a 11]), (γ1_2, cel [b 0, b 1, b 2, b 3, b 4, b 5, b 6, b 7, b 8, b 9, b 10, b 11]), (γ1_3, cel [0, 0, 0, 0, 0, 0, 0, 0, 0, 0, 0, 0]), (g, modx n o s)] ∧ Below w.heap.size w (w12.setCells γ6_0 (6 * (2 * (2 * k))) (cel [r (2 * (2 * k)), r (2 * (2 * k) + 1)]))) := ⟨by
      have h := H12.out.1.put 0 (off := 6 * (2 * (2 * k))) (vs := cel [r (2 * (2 * k)), r (2 * (2 * k) + 1)]) rfl (by rw [cel_len, cel_len]; exact cel_bd (mx12_bd zf r rfl (by omega)))
      rw [cel_patch, mx12_st zf r (by omega)] at h
      exact h, below_setCells _ o6_0.out _ _ _ H12.out.2⟩
    clear H12
    generalize hgw : World.setCells _ _ _ _ = w13 at H13 ⊢
    clear hgw
    refine rest_nil ?_
    refine then_normal ?_
    refine walk_any (by kernel_rfl) 17 [.quiet (.int .i64 ((k : Nat) : Int)), .quiet (.int .i64 ((2 * k : Nat) : Int)), .quiet (.int .i64 ((2 * k + 1 : Nat) : Int)), .quiet (.agg #[PT g 0]), .quiet (.int .i64 ((k : Nat) : Int)), .quiet (PT γ4_7 (6 * (4 * k))), .quiet (V [q (4 * k), q (4 * k + 1), q (4 * k + 2), q (4 * k + 3)]), .quiet (.int .i64 ((k : Nat) : Int)), .quiet (PT γ3_6 (6 * (4 * k))), .quiet (V [ee (4 * k), ee (4 * k + 1), ee (4 * k + 2), ee (4 * k + 3)]), .call (V [v (4 * k), v (4 * k + 1), v (4 * k + 2), v (4 * k + 3)]), .quiet (.int .i64 ((k : Nat) : Int)), .quiet (PT γ3_7 (6 * (4 * k))), .quiet (V [oo (4 * k), oo (4 * k + 1), oo (4 * k + 2), oo (4 * k + 3)]), .call (V [z (4 * k), z (4 * k + 1), z (4 * k + 2), z (4 * k + 3)]), .call (V [r (2 * (2 * k + 1)), r (2 * (2 * k + 1) + 1)]), .quiet (PT γ6_0 (6 * (2 * (2 * k + 1))))] _ ?pre11 ?F11 ?hpre11 (fun γ => ?hF11) (by kernel_rfl) trivial (sB H13) ?ho11 ?he11
    case hpre11 => simp only [tk, tz]; rfl
    case hF11 => simp only [fill, Kind.val, Act.put, sa, sz, ss]; rfl
    case ho11 =>
      refine ak (fun _ => ⟨rfl, fun _ _ => rfl⟩) ?_
      refine ak (by refine fun γ => ⟨rfl, fun w' h => ?_⟩; clear h; go_simp; rw [IntKind.wrap_i64]; omega) ?_
      refine ak (by refine fun γ => ⟨rfl, fun w' h => ?_⟩; clear h; go_simp; rw [IntKind.wrap_i64]; omega) ?_
      refine ak (fun γ => ⟨rfl, fun w' h => ex_loadF h 9 rfl rfl rfl rfl⟩) ?_
      refine ak (fun _ => ⟨rfl, fun _ _ => rfl⟩) ?_
      refine ak (fun γ => ⟨rfl, fun w' _ => ex_idxW3 rfl rfl rfl (by omega)⟩) ?_
      refine ak (fun γ => ⟨rfl, fun w' h => ex_loadA (i := 4 * k) (k := 4) h 2 rfl rfl rfl Tryd.isAgg61 Tryd.sizeOf61 (tl12_ld4 q hlt) rfl⟩) ?_
      refine ak (fun _ => ⟨rfl, fun _ _ => rfl⟩) ?_
      refine ak (fun γ => ⟨rfl, fun w' _ => ex_idxW3 rfl rfl rfl (by omega)⟩) ?_
      refine ak (fun γ => ⟨rfl, fun w' h => ex_loadA (i := 4 * k) (k := 4) h 3 rfl rfl rfl Tryd.isAgg61 Tryd.sizeOf61 (tl12_ld4 ee hlt) rfl⟩) ?_
      refine ak (fun γ => ⟨rfl, fun w' h => ⟨60, #[V [q (4 * k), q (4 * k + 1), q (4 * k + 2), q (4 * k + 3)], V [ee (4 * k), ee (4 * k + 1), ee (4 * k + 2), ee (4 * k + 3)]], exec_call rfl call60 rfl (mpn rfl), CV.out k hlt w'⟩⟩) ?_
      refine ak (fun _ => ⟨rfl, fun _ _ => rfl⟩) ?_
      refine ak (fun γ => ⟨rfl, fun w' _ => ex_idxW3 rfl rfl rfl (by omega)⟩) ?_
      refine ak (fun γ => ⟨rfl, fun w' h => ex_loadA (i := 4 * k) (k := 4) h 4 rfl rfl rfl Tryd.isAgg61 Tryd.sizeOf61 (tl12_ld4 oo hlt) rfl⟩) ?_
      refine ak (fun γ => ⟨rfl, fun w' h => ⟨60, #[V [v (4 * k), v (4 * k + 1), v (4 * k + 2), v (4 * k + 3)], V [oo (4 * k), oo (4 * k + 1), oo (4 * k + 2), oo (4 * k + 3)]], exec_call rfl call60 rfl (mpn rfl), CZ.out k hlt w'⟩⟩) ?_
      refine ak (fun γ => ⟨rfl, fun w' h => ⟨40, #[.agg #[PT g 0], V [z (4 * k), z (4 * k + 1), z (4 * k + 2), z (4 * k + 3)]], exec_call rfl call40 rfl (mpn rfl), CW.out k hlt w' (h.one 13 rfl)⟩⟩) ?_
      refine ak (fun γ => ⟨rfl, fun w' _ => ex_idxE12 rfl rfl rfl (by omega)⟩) ?_
      exact trivial
    intro γ w14 l hM hl
    have H14 := keepB H13 hM.below
    clear hM hl l H13 γ
    refine rest_at (l := [17]) rfl ?_
    refine rest_store rfl rfl rfl (ex_storeA (i := 2 * (2 * k + 1)) (ms := [r (2 * (2 * k + 1)), r (2 * (2 * k + 1) + 1)]) H14.out.1 0 rfl rfl rfl rfl Tryd.sizeOf26 (mx12_bd zf r rfl (by omega))) ?_
    have H15 : Hid (Mm (w14.setCells γ6_0 (6 * (2 * (2 * k + 1))) (cel [r (2 * (2 * k + 1)), r (2 * (2 * k + 1) + 1)])) [(γ6_0, cel (mx12 zf r (2 * (2 * k + 1 + 1)))), (γ5_8, cel [p 0, p 1, p 2, p 3, p 4, p 5, p 6, p 7, p 8, p 9, p 10, p 11]), (γ4_7, cel [q 0, q 1, q 2, q 3, q 4, q 5, q 6, q 7, q 8, q 9, q 10, q 11]), (γ3_6, cel [ee 0, ee 1, ee 2, ee 3, ee 4, ee 5, ee 6, ee 7, ee 8, ee 9, ee 10, ee 11]), (γ3_7, cel [oo 0, oo 1, oo 2, oo 3, oo 4, oo 5, oo 6, oo 7, oo 8, oo 9, oo 10, oo 11]), (γ2_8, cel [a 0, a 1, a 4, a 5, a 8, a 9]), (γ2_9, cel [a 2, a 3, a 6, a 7, a 10, a 11]), (γ2_10, cel [b 0, b 1, b 4, b 5, b 8, b 9]), (γ2_11, cel [b 2, b 3, b 6, b 7, b 10, b 11]), (γ1_0, [PT g 0]), (γ1_1, cel [a 0, a 1, a 2, a 3, a 4, a 5, a 6, a 7, a 8, a 9, a 10, a 11]), (γ1_2, cel [b 0, b 1, b 2, b 3, b 4, b 5, b 6, b 7, b 8, b 9, b 10, b 11]), (γ1_3, cel [0, 0, 0, 0, 0, 0, 0, 0, 0, 0, 0, 0]), (g, modx n o s)] ∧ Below w.heap.size w (w14.setCells γ6_0 (6 * (2 * (2 * k + 1))) (cel [r (2 * (2 * k + 1)), r (2 * (2 * k + 1) + 1)]))) := ⟨by
      have h := H14.out.1.put 0 (off := 6 * (2 * (2 * k + 1))) (vs := cel [r (2 * (2 * k + 1)), r (2 * (2 * k + 1) + 1)]) rfl (by rw [cel_len, cel_len]; exact cel_bd (mx12_bd zf r rfl (by omega)))
      rw [cel_patch, mx12_st zf r (by omega)] at h
      exact h, below_setCells _ o6_0.out _ _ _ H14.out.2⟩
    clear H14
    generalize hgw : World.setCells _ _ _ _ = w15 at H15 ⊢
    clear hgw
    refine rest_nil ?_
    refine block_normal ?_
    refine then_normal ?_
    refine walk_seq 1 [.quiet (.int .i64 ((k + 1 : Nat) : Int))] _ ?pre12 ?F12 ?hpre12 (fun γ => ?hF12) (by kernel_rfl) trivial (sB H15) ?ho12 ?he12
    case hpre12 => simp only [tk, tz]; rfl
    case hF12 => simp only [fill, Kind.val, Act.put, sa, sz, ss]; rfl
    case ho12 =>
      refine ak (by refine fun γ => ⟨rfl, fun w' h => ?_⟩; clear h; go_simp; rw [IntKind.wrap_i64]; omega) ?_
      exact trivial
    intro γ w16 l hM hl
    have H16 := keepB H15 hM.below
    clear hM hl l H15 γ
    refine rest_at (l := [1]) rfl ?_
    refine rest_set (d := 46) rfl rfl rfl rfl ?_
    simp only [Act.put, sa, sz, ss]
    refine rest_nil ?_
    refine then_normal ?_
    exact ⟨k + 1, ⟨(slotfn [undef, undef, undef, undef, undef, undef, undef, undef, undef, undef, undef, undef, undef, undef, undef, undef, .int .i64 ((k : Nat) : Int), undef, undef, undef, undef, undef, undef, undef, undef, undef, undef, undef, undef, undef, undef, undef, undef, undef, undef, undef, undef, undef, undef, undef, undef, undef, undef, undef, undef, undef, undef, .bool true, .int .i64 ((k : Nat) : Int), .int .i64 ((k : Nat) : Int), .int .i64 ((2 * k : Nat) : Int), .agg #[PT g 0], .int .i64 ((k : Nat) : Int), PT γ3_6 (6 * (4 * k)), V [ee (4 * k), ee (4 * k + 1), ee (4 * k + 2), ee (4 * k + 3)], .int .i64 ((k : Nat) : Int), PT γ5_8 (6 * (4 * k)), V [p (4 * k), p (4 * k + 1), p (4 * k + 2), p (4 * k + 3)], V [x (4 * k), x (4 * k + 1), x (4 * k + 2), x (4 * k + 3)], V [r (2 * (2 * k)), r (2 * (2 * k) + 1)], PT γ6_0 (6 * (2 * (2 * k))), .int .i64 ((k : Nat) : Int), .int .i64 ((2 * k : Nat) : Int), .int .i64 ((2 * k + 1 : Nat) : Int), .agg #[PT g 0], .int .i64 ((k : Nat) : Int), PT γ4_7 (6 * (4 * k)), V [q (4 * k), q (4 * k + 1), q (4 * k + 2), q (4 * k + 3)], .int .i64 ((k : Nat) : Int), PT γ3_6 (6 * (4 * k)), V [ee (4 * k), ee (4 * k + 1), ee (4 * k + 2), ee (4 * k + 3)], V [v (4 * k), v (4 * k + 1), v (4 * k + 2), v (4 * k + 3)], .int .i64 ((k : Nat) : Int), PT γ3_7 (6 * (4 * k)), V [oo (4 * k), oo (4 * k + 1), oo (4 * k + 2), oo (4 * k + 3)], V [z (4 * k), z (4 * k + 1), z (4 * k + 2), z (4 * k + 3)], V [r (2 * (2 * k + 1)), r (2 * (2 * k + 1) + 1)], PT γ6_0 (6 * (2 * (2 * k + 1))), .int .i64 ((k + 1 : Nat) : Int)]), rfl, ⟨(H16.out.1).atk (by rw [show 2 * k + 1 + 1 = 2 * (k + 1) by omega]), H16.out.2⟩, by omega⟩, by omega⟩
  have hkN : k = 3 := by omega
  subst hkN
  have H17 : Hid (Mm w9 [(γ6_0, cel [r 0, r 1, r 2, r 3, r 4, r 5, r 6, r 7, r 8, r 9, r 10, r 11]), (γ5_8, cel [p 0, p 1, p 2, p 3, p 4, p 5, p 6, p 7, p 8, p 9, p 10, p 11]), (γ4_7, cel [q 0, q 1, q 2, q 3, q 4, q 5, q 6, q 7, q 8, q 9, q 10, q 11]), (γ3_6, cel [ee 0, ee 1, ee 2, ee 3, ee 4, ee 5, ee 6, ee 7, ee 8, ee 9, ee 10, ee 11]), (γ3_7, cel [oo 0, oo 1, oo 2, oo 3, oo 4, oo 5, oo 6, oo 7, oo 8, oo 9, oo 10, oo 11]), (γ2_8, cel [a 0, a 1, a 4, a 5, a 8, a 9]), (γ2_9, cel [a 2, a 3, a 6, a 7, a 10, a 11]), (γ2_10, cel [b 0, b 1, b 4, b 5, b 8, b 9]), (γ2_11, cel [b 2, b 3, b 6, b 7, b 10, b 11]), (γ1_0, [PT g 0]), (γ1_1, cel [a 0, a 1, a 2, a 3, a 4, a 5, a 6, a 7, a 8, a 9, a 10, a 11]), (γ1_2, cel [b 0, b 1, b 2, b 3, b 4, b 5, b 6, b 7, b 8, b 9, b 10, b 11]), (γ1_3, cel [0, 0, 0, 0, 0, 0, 0, 0, 0, 0, 0, 0]), (g, modx n o s)] ∧ Below w.heap.size w w9) := ⟨H9.out.1.atk (by rw [zf_e r]), H9.out.2⟩
  clear H9
  refine wp_seq ?_
  refine walk_seq 1 [.quiet (.bool false)] _ ?pre13 ?F13 ?hpre13 (fun γ => ?hF13) (by kernel_rfl) trivial (sB H17) ?ho13 ?he13
  case hpre13 => simp only [tk, tz]; rfl
  case hF13 => simp only [fill, Kind.val, Act.put, sa, sz, ss]; rfl
  case ho13 =>
    refine ak (by refine fun γ => ⟨rfl, fun w' h => ?_⟩; clear h; go_simp <;> omega) ?_
    exact trivial
  intro γ w18 l hM hl
  have H18 := keepB H17 hM.below
  clear hM hl l H17 γ
  refine rest0 rfl (then_normal ?_)
  refine wp_seq ?_
  refine wp_cond_false rfl ?_
  refine wp_exit ?_
  repeat refine then_exit ?_
  refine block_exit ?_
  refine then_normal ?_
  refine wp_seq ?_
  refine walk_seq 1 [.quiet (V [r 0, r 1, r 2, r 3, r 4, r 5, r 6, r 7, r 8, r 9, r 10, r 11])] _ ?pre14 ?F14 ?hpre14 (fun γ => ?hF14) (by kernel_rfl) trivial (sB H18) ?ho14 ?he14
  case hpre14 => simp only [tk, tz]; rfl
  case hF14 => simp only [fill, Kind.val, Act.put, sa, sz, ss]; rfl
  case ho14 =>
    refine ak (fun γ => ⟨rfl, fun w' h => ex_loadA (i := 0) (k := 12) h 0 rfl rfl rfl Tryd.isAgg37 Tryd.sizeOf37 rfl rfl⟩) ?_
    exact trivial
  intro γ w19 l hM hl
  have H19 := keepB H18 hM.below
  clear hM hl l H18 γ
  refine rest_at (l := [1]) rfl ?_
  refine rest_store rfl rfl rfl (ex_storeA (i := 0) (ms := [r 0, r 1, r 2, r 3, r 4, r 5, r 6, r 7, r 8, r 9, r 10, r 11]) H19.out.1 12 rfl rfl rfl rfl Tryd.sizeOf37 (Nat.le_of_ble_eq_true rfl)) ?_
  have H20 : Hid (Mm (w19.setCells γ1_3 (6 * 0) (cel [r 0, r 1, r 2, r 3, r 4, r 5, r 6, r 7, r 8, r 9, r 10, r 11])) [(γ6_0, cel [r 0, r 1, r 2, r 3, r 4, r 5, r 6, r 7, r 8, r 9, r 10, r 11]), (γ5_8, cel [p 0, p 1, p 2, p 3, p 4, p 5, p 6, p 7, p 8, p 9, p 10, p 11]), (γ4_7, cel [q 0, q 1, q 2, q 3, q 4, q 5, q 6, q 7, q 8, q 9, q 10, q 11]), (γ3_6, cel [ee 0, ee 1, ee 2, ee 3, ee 4, ee 5, ee 6, ee 7, ee 8, ee 9, ee 10, ee 11]), (γ3_7, cel [oo 0, oo 1, oo 2, oo 3, oo 4, oo 5, oo 6, oo 7, oo 8, oo 9, oo 10, oo 11]), (γ2_8, cel [a 0, a 1, a 4, a 5, a 8, a 9]), (γ2_9, cel [a 2, a 3, a 6, a 7, a 10, a 11]), (γ2_10, cel [b 0, b 1, b 4, b 5, b 8, b 9]), (γ2_11, cel [b 2, b 3, b 6, b 7, b 10, b 11]), (γ1_0, [PT g 0]), (γ1_1, cel [a 0, a 1, a 2, a 3, a 4, a 5, a 6, a 7, a 8, a 9, a 10, a 11]), (γ1_2, cel [b 0, b 1, b 2, b 3, b 4, b 5, b 6, b 7, b 8, b 9, b 10, b 11]), (γ1_3, cel [r 0, r 1, r 2, r 3, r 4, r 5, r 6, r 7, r 8, r 9, r 10, r 11]), (g, modx n o s)] ∧ Below w.heap.size w (w19.setCells γ1_3 (6 * 0) (cel [r 0, r 1, r 2, r 3, r 4, r 5, r 6, r 7, r 8, r 9, r 10, r 11]))) := ⟨by
    have h := H19.out.1.put 12 (off := 6 * 0) (vs := cel [r 0, r 1, r 2, r 3, r 4, r 5, r 6, r 7, r 8, r 9, r 10, r 11]) rfl (by simp only [cel_len]; exact Nat.le_of_ble_eq_true rfl)
    rw [cel_patch] at h
    exact h, below_setCells _ o1_3.out _ _ _ H19.out.2⟩
  clear H19
  generalize hgw : World.setCells _ _ _ _ = w20 at H20 ⊢
  clear hgw
  refine rest_nil ?_
  refine then_normal ?_
  refine wp_ret ?_
  repeat (first | refine then_ret ?_ | refine block_ret ?_)
  have hf0 := cel_var (k := 12) H20.out.1 12 rfl Tryd.isAgg37 Tryd.sizeOf37 rfl
  refine bodyPost_ret (v := V [r 0, r 1, r 2, r 3, r 4, r 5, r 6, r 7, r 8, r 9, r 10, r 11]) (by simp [results, Tryd.results34, asAddr, hf0]) rfl ?_
  exact ⟨rfl, H20.out.2⟩
end Rg
end Go.Proofs.YtgdlhgbdigpfhaaDoor

namespace Go.Proofs.YtgdlhgbdigpfhaaDoor
open Go.RowKit
namespace Rg
set_option maxHeartbeats 4000000 in
set_option maxRecDepth 100000 in
theorem powT_gen (n ee L k1 : Nat) (hl : L ≤ 384) (a m : Nat → Nat) (P Q : Nat → Nat → Nat) (bv : Nat → Int)
    (fl : [k1, 0, 0, 0, 0, 0, 0, 0, 0, 0, 0, 0] = [P L 0, P L 1, P L 2, P L 3, P L 4, P L 5, P L 6, P L 7, P L 8, P L 9, P L 10, P L 11])
    (hbv : ∀ k, bv k = 1 ∨ bv k = 0)
    (fq : ∀ k, bv k = 0 → [Q k 0, Q k 1, Q k 2, Q k 3, Q k 4, Q k 5, Q k 6, Q k 7, Q k 8, Q k 9, Q k 10, Q k 11] = [P k 0, P k 1, P k 2, P k 3, P k 4, P k 5, P k 6, P k 7, P k 8, P k 9, P k 10, P k 11])
    (cg : ∀ w, Calls Tryd.prog 23 #[] w fun e w' => Below w.heap.size w w' ∧ ∃ g, e = .returned (.agg #[PT g 0]) ∧ w.heap.size ≤ g ∧ g < w'.heap.size ∧ Blk w' g (modc n))
    (ca : ∀ w, Calls Tryd.prog 33 #[V [a 0, a 1, a 2, a 3, a 4, a 5, a 6, a 7, a 8, a 9, a 10, a 11]] w fun e w' => e = .returned (V [m 0, m 1, m 2, m 3, m 4, m 5, m 6, m 7, m 8, m 9, m 10, m 11]) ∧ Below w.heap.size w w')
    (co : ∀ w, Calls Tryd.prog 18 #[] w fun e w' => e = .returned (V [k1, 0, 0, 0, 0, 0, 0, 0, 0, 0, 0, 0]) ∧ Below w.heap.size w w')
    (cl : ∀ w, Calls Tryd.prog 36 #[N ee] w fun e w' => e = .returned (.int .i64 ((L : Nat) : Int)) ∧ Below w.heap.size w w')
    (cs : ∀ k g w, Mm w [(g, modc n)] → Calls Tryd.prog 34 #[.agg #[PT g 0], V [P (k + 1) 0, P (k + 1) 1, P (k + 1) 2, P (k + 1) 3, P (k + 1) 4, P (k + 1) 5, P (k + 1) 6, P (k + 1) 7, P (k + 1) 8, P (k + 1) 9, P (k + 1) 10, P (k + 1) 11], V [P (k + 1) 0, P (k + 1) 1, P (k + 1) 2, P (k + 1) 3, P (k + 1) 4, P (k + 1) 5, P (k + 1) 6, P (k + 1) 7, P (k + 1) 8, P (k + 1) 9, P (k + 1) 10, P (k + 1) 11]] w fun e w' => e = .returned (V [Q k 0, Q k 1, Q k 2, Q k 3, Q k 4, Q k 5, Q k 6, Q k 7, Q k 8, Q k 9, Q k 10, Q k 11]) ∧ Below w.heap.size w w')
    (ci : ∀ k w, k + 1 ≤ 384 → Calls Tryd.prog 37 #[N ee, .int .i64 (((k + 1 : Nat) : Int) - 1)] w fun e w' => e = .returned (.int .i64 (bv k)) ∧ Below w.heap.size w w')
    (cu : ∀ k, bv k = 1 → ∀ g w, Mm w [(g, modc n)] → Calls Tryd.prog 34 #[.agg #[PT g 0], V [Q k 0, Q k 1, Q k 2, Q k 3, Q k 4, Q k 5, Q k 6, Q k 7, Q k 8, Q k 9, Q k 10, Q k 11], V [m 0, m 1, m 2, m 3, m 4, m 5, m 6, m 7, m 8, m 9, m 10, m 11]] w fun e w' => e = .returned (V [P k 0, P k 1, P k 2, P k 3, P k 4, P k 5, P k 6, P k 7, P k 8, P k 9, P k 10, P k 11]) ∧ Below w.heap.size w w') (w : World) :
    Calls Tryd.prog 21 #[V [a 0, a 1, a 2, a 3, a 4, a 5, a 6, a 7, a 8, a 9, a 10, a 11], N ee] w fun e w' => e = .returned (V [P 0 0, P 0 1, P 0 2, P 0 3, P 0 4, P 0 5, P 0 6, P 0 7, P 0 8, P 0 9, P 0 10, P 0 11]) ∧ Below w.heap.size w w' := by
  have H0 : Hid (_ ∧ _) := ⟨Mm.nil w, Below.refl w.heap.size w⟩
  have FL : Hid _ := fl
  have HB : Hid _ := hbv
  have FQ : Hid _ := fq
  have CG : Hid _ := cg
  have CA : Hid _ := ca
  have CO : Hid _ := co
  have CL : Hid _ := cl
  have CS : Hid _ := cs
  have CI : Hid _ := ci
  have CM : Hid _ := cu
  clear fl hbv fq cg ca co cl cs ci cu
  go_enter Tryd.func21, Tryd.ntmps21
  refine wp_seq ?_
  refine walk_seq 3 [.made (cel [a 0, a 1, a 2, a 3, a 4, a 5, a 6, a 7, a 8, a 9, a 10, a 11]) 37, .made (cells6 ee) 24, .made (cel [0, 0, 0, 0, 0, 0, 0, 0, 0, 0, 0, 0]) 37] _ ?pre1 ?F1 ?hpre1 (fun γ => ?hF1) (by kernel_rfl) trivial (sB H0) ?ho1 ?he1
  case hpre1 => simp only [tk, tz]; rfl
  case hF1 => simp only [fill, Kind.val, Act.put, sa, sz, ss]; rfl
  case ho1 =>
    refine ak (fun γ => ⟨rfl, fun w' => ex_boxA rfl rfl⟩) ?_
    refine ak (fun γ => ⟨rfl, fun w' => ex_box6 rfl rfl⟩) ?_
    refine ak (fun γ => ⟨rfl, fun w' => ex_madeE12 rfl⟩) ?_
    exact trivial
  intro γ w1 l hM hl
  have H1 : Hid (Mm w1 [(γ 0, cel [a 0, a 1, a 2, a 3, a 4, a 5, a 6, a 7, a 8, a 9, a 10, a 11]), (γ 1, cells6 ee), (γ 2, cel [0, 0, 0, 0, 0, 0, 0, 0, 0, 0, 0, 0])] ∧ _) := growB H0 hM (Nat.le_refl _) hl [0, 1, 2] rfl (by decide)
  have o1_0 := ownB H0 hM (Nat.le_refl _) hl (i := 0) rfl
  have o1_1 := ownB H0 hM (Nat.le_refl _) hl (i := 1) rfl
  have o1_2 := ownB H0 hM (Nat.le_refl _) hl (i := 2) rfl
  clear hM hl l
  generalize γ 0 = γ1_0 at H1 o1_0 ⊢
  generalize γ 1 = γ1_1 at H1 o1_1 ⊢
  generalize γ 2 = γ1_2 at H1 o1_2 ⊢
  clear γ
  refine rest0 rfl (then_normal ?_)
  refine wp_seq ?_
  refine walk_put (by kernel_rfl) 6 [] [.born (fun g => .agg #[PT g 0]) (modc n), .quiet (V [a 0, a 1, a 2, a 3, a 4, a 5, a 6, a 7, a 8, a 9, a 10, a 11]), .call (V [m 0, m 1, m 2, m 3, m 4, m 5, m 6, m 7, m 8, m 9, m 10, m 11]), .call (V [k1, 0, 0, 0, 0, 0, 0, 0, 0, 0, 0, 0]), .made [.pointer none] 47, .made (cel [0, 0, 0, 0, 0, 0, 0, 0, 0, 0, 0, 0]) 37] _ ?pre2 ?F2 _ ?hpre2 (fun γ => ?hF2) (by kernel_rfl) rfl trivial (sB H1) ?ho2 ?hla2 ?he2
  case hpre2 => simp only [tk, tz]; rfl
  case hF2 => simp only [fill, Kind.val, Act.put, sa, sz, ss]; rfl
  case ho2 =>
    refine ak (fun γ => ⟨rfl, fun w' h => ⟨23, #[], exec_call rfl call23 rfl (mpn rfl), CG.out w'⟩⟩) ?_
    refine ak (fun γ => ⟨rfl, fun w' h => ex_loadA (i := 0) (k := 12) h 0 rfl rfl rfl Tryd.isAgg37 Tryd.sizeOf37 rfl rfl⟩) ?_
    refine ak (fun γ => ⟨rfl, fun w' h => ⟨33, #[V [a 0, a 1, a 2, a 3, a 4, a 5, a 6, a 7, a 8, a 9, a 10, a 11]], exec_call rfl call33 rfl (mpn rfl), CA.out w'⟩⟩) ?_
    refine ak (fun γ => ⟨rfl, fun w' h => ⟨18, #[], exec_call rfl call18 rfl (mpn rfl), CO.out w'⟩⟩) ?_
    refine ak (fun γ => ⟨rfl, fun w' => ex_madeF rfl⟩) ?_
    refine ak (fun γ => ⟨rfl, fun w' => ex_madeE12 rfl⟩) ?_
    exact trivial
  case hla2 => exact trivial
  intro γ w2 l hM hl
  have H2 : Hid (Mm w2 [(γ 0, modc n), (γ 4, [.pointer none]), (γ 5, cel [0, 0, 0, 0, 0, 0, 0, 0, 0, 0, 0, 0]), (γ1_0, cel [a 0, a 1, a 2, a 3, a 4, a 5, a 6, a 7, a 8, a 9, a 10, a 11]), (γ1_1, cells6 ee), (γ1_2, cel [0, 0, 0, 0, 0, 0, 0, 0, 0, 0, 0, 0])] ∧ _) := growB H1 hM (Nat.le_refl _) hl [0, 4, 5] rfl (by decide)
  have o2_0 := ownB H1 hM (Nat.le_refl _) hl (i := 0) rfl
  have o2_4 := ownB H1 hM (Nat.le_refl _) hl (i := 4) rfl
  have o2_5 := ownB H1 hM (Nat.le_refl _) hl (i := 5) rfl
  clear hM hl l H1
  generalize γ 0 = γ2_0 at H2 o2_0 ⊢
  generalize γ 4 = γ2_4 at H2 o2_4 ⊢
  generalize γ 5 = γ2_5 at H2 o2_5 ⊢
  clear γ
  refine ⟨_, ex_storeF H2.out.1 1 rfl rfl rfl rfl (Nat.le_of_ble_eq_true rfl), ?_⟩
  have H3 : Hid (Mm (w2.setCells γ2_4 0 [PT γ2_0 0]) [(γ2_0, modc n), (γ2_4, [PT γ2_0 0]), (γ2_5, cel [0, 0, 0, 0, 0, 0, 0, 0, 0, 0, 0, 0]), (γ1_0, cel [a 0, a 1, a 2, a 3, a 4, a 5, a 6, a 7, a 8, a 9, a 10, a 11]), (γ1_1, cells6 ee), (γ1_2, cel [0, 0, 0, 0, 0, 0, 0, 0, 0, 0, 0, 0])] ∧ Below w.heap.size w (w2.setCells γ2_4 0 [PT γ2_0 0])) := ⟨H2.out.1.put 1 (off := 0) (vs := [PT γ2_0 0]) rfl (Nat.le_of_ble_eq_true rfl), below_setCells _ o2_4.out _ _ _ H2.out.2⟩
  clear H2
  generalize hgw : World.setCells _ _ _ _ = w3 at H3 ⊢
  clear hgw
  refine rest_at (l := [7, 8]) rfl ?_
  refine rest_store rfl rfl rfl (ex_storeA (i := 0) (ms := [m 0, m 1, m 2, m 3, m 4, m 5, m 6, m 7, m 8, m 9, m 10, m 11]) H3.out.1 3 rfl rfl rfl rfl Tryd.sizeOf37 (Nat.le_of_ble_eq_true rfl)) ?_
  have H4 : Hid (Mm (w3.setCells γ1_0 (6 * 0) (cel [m 0, m 1, m 2, m 3, m 4, m 5, m 6, m 7, m 8, m 9, m 10, m 11])) [(γ2_0, modc n), (γ2_4, [PT γ2_0 0]), (γ2_5, cel [0, 0, 0, 0, 0, 0, 0, 0, 0, 0, 0, 0]), (γ1_0, cel [m 0, m 1, m 2, m 3, m 4, m 5, m 6, m 7, m 8, m 9, m 10, m 11]), (γ1_1, cells6 ee), (γ1_2, cel [0, 0, 0, 0, 0, 0, 0, 0, 0, 0, 0, 0])] ∧ Below w.heap.size w (w3.setCells γ1_0 (6 * 0) (cel [m 0, m 1, m 2, m 3, m 4, m 5, m 6, m 7, m 8, m 9, m 10, m 11]))) := ⟨by
    have h := H3.out.1.put 3 (off := 6 * 0) (vs := cel [m 0, m 1, m 2, m 3, m 4, m 5, m 6, m 7, m 8, m 9, m 10, m 11]) rfl (by simp only [cel_len]; exact Nat.le_of_ble_eq_true rfl)
    rw [cel_patch] at h
    exact h, below_setCells _ o1_0.out _ _ _ H3.out.2⟩
  clear H3
  generalize hgw : World.setCells _ _ _ _ = w4 at H4 ⊢
  clear hgw
  refine rest_store rfl rfl rfl (ex_storeA (i := 0) (ms := [k1, 0, 0, 0, 0, 0, 0, 0, 0, 0, 0, 0]) H4.out.1 2 rfl rfl rfl rfl Tryd.sizeOf37 (Nat.le_of_ble_eq_true rfl)) ?_
  have H5 : Hid (Mm (w4.setCells γ2_5 (6 * 0) (cel [k1, 0, 0, 0, 0, 0, 0, 0, 0, 0, 0, 0])) [(γ2_0, modc n), (γ2_4, [PT γ2_0 0]), (γ2_5, cel [k1, 0, 0, 0, 0, 0, 0, 0, 0, 0, 0, 0]), (γ1_0, cel [m 0, m 1, m 2, m 3, m 4, m 5, m 6, m 7, m 8, m 9, m 10, m 11]), (γ1_1, cells6 ee), (γ1_2, cel [0, 0, 0, 0, 0, 0, 0, 0, 0, 0, 0, 0])] ∧ Below w.heap.size w (w4.setCells γ2_5 (6 * 0) (cel [k1, 0, 0, 0, 0, 0, 0, 0, 0, 0, 0, 0]))) := ⟨by
    have h := H4.out.1.put 2 (off := 6 * 0) (vs := cel [k1, 0, 0, 0, 0, 0, 0, 0, 0, 0, 0, 0]) rfl (by simp only [cel_len]; exact Nat.le_of_ble_eq_true rfl)
    rw [cel_patch] at h
    exact h, below_setCells _ o2_5.out _ _ _ H4.out.2⟩
  clear H4
  generalize hgw : World.setCells _ _ _ _ = w5 at H5 ⊢
  clear hgw
  refine rest_nil ?_
  refine then_normal ?_
  refine wp_seq ?_
  refine wp_seq ?_
  refine walk_seq 4 [.quiet (N ee), .call (.int .i64 ((L : Nat) : Int)), .quiet (.int .i64 (((L : Nat) : Int) - 1)), .quiet (.int .i64 (((L : Nat) : Int) - 1))] _ ?pre3 ?F3 ?hpre3 (fun γ => ?hF3) (by kernel_rfl) trivial (sB H5) ?ho3 ?he3
  case hpre3 => simp only [tk, tz]; rfl
  case hF3 => simp only [fill, Kind.val, Act.put, sa, sz, ss]; rfl
  case ho3 =>
    refine ak (fun γ => ⟨rfl, fun w' h => ex_load6 h 4 rfl rfl rfl rfl⟩) ?_
    refine ak (fun γ => ⟨rfl, fun w' h => ⟨36, #[N ee], exec_call rfl call36 rfl (mpn rfl), CL.out w'⟩⟩) ?_
    refine ak (by refine fun γ => ⟨rfl, fun w' h => ?_⟩; clear h; go_simp; rw [IntKind.wrap_i64]; omega) ?_
    refine ak (fun _ => ⟨rfl, fun _ _ => rfl⟩) ?_
    exact trivial
  intro γ w6 l hM hl
  have H6 := keepB H5 hM.below
  clear hM hl l H5 γ
  refine rest0 rfl (then_normal ?_)
  refine wp_block ?_
  refine loop_ghost (α := Nat) (fun k a' w' => ∃ s0 : Nat → Value, a' = ⟨#[V [a 0, a 1, a 2, a 3, a 4, a 5, a 6, a 7, a 8, a 9, a 10, a 11], N ee, PT γ1_0 0, PT γ1_1 0, PT γ1_2 0, PT γ2_4 0, PT γ2_5 0, .int .i64 (((k : Nat) : Int) - 1), .agg #[PT γ2_0 0], V [a 0, a 1, a 2, a 3, a 4, a 5, a 6, a 7, a 8, a 9, a 10, a 11], V [m 0, m 1, m 2, m 3, m 4, m 5, m 6, m 7, m 8, m 9, m 10, m 11], V [k1, 0, 0, 0, 0, 0, 0, 0, 0, 0, 0, 0], N ee, .int .i64 ((L : Nat) : Int), .int .i64 (((L : Nat) : Int) - 1), s0 15, s0 16, s0 17, s0 18, s0 19, s0 20, s0 21, s0 22, s0 23, s0 24, s0 25, s0 26, s0 27, s0 28, s0 29, s0 30, undef], []⟩ ∧ (Mm w' [(γ2_0, modc n), (γ2_4, [PT γ2_0 0]), (γ2_5, cel [P k 0, P k 1, P k 2, P k 3, P k 4, P k 5, P k 6, P k 7, P k 8, P k 9, P k 10, P k 11]), (γ1_0, cel [m 0, m 1, m 2, m 3, m 4, m 5, m 6, m 7, m 8, m 9, m 10, m 11]), (γ1_1, cells6 ee), (γ1_2, cel [0, 0, 0, 0, 0, 0, 0, 0, 0, 0, 0, 0])] ∧ Below w.heap.size w w') ∧ k ≤ L) (fun k => k) L ?st0 ?rd0
  case st0 => exact ⟨(slotfn [undef, undef, undef, undef, undef, undef, undef, undef, undef, undef, undef, undef, undef, undef, undef, undef, undef, undef, undef, undef, undef, undef, undef, undef, undef, undef, undef, undef, undef, undef, undef]), rfl, ⟨H6.out.1.atk (by rw [FL.out]), H6.out.2⟩, by omega⟩
  intro k a' w7 hI
  obtain ⟨s0, rfl, hMB, hk0⟩ := hI
  have H7 : Hid (_ ∧ _) := hMB
  clear hMB H6
  by_cases hlt : 1 ≤ k
  · have hrd : True := trivial
    clear hrd
    obtain ⟨j, rfl⟩ : ∃ j, k = j + 1 := ⟨k - 1, by omega⟩
    by_cases hb : bv j = 1
    · have hrd : True := trivial
      clear hrd
      have hb' : bv j = 1 := hb
      refine wp_seq ?_
      refine wp_seq ?_
      refine walk_seq 2 [.quiet (.int .i64 (((j + 1 : Nat) : Int) - 1)), .quiet (.bool true)] _ ?pre4 ?F4 ?hpre4 (fun γ => ?hF4) (by kernel_rfl) trivial (sB H7) ?ho4 ?he4
      case hpre4 => simp only [tk, tz]; rfl
      case hF4 => simp only [fill, Kind.val, Act.put, sa, sz, ss]; rfl
      case ho4 =>
        refine ak (fun _ => ⟨rfl, fun _ _ => rfl⟩) ?_
        refine ak (by refine fun γ => ⟨rfl, fun w' h => ?_⟩; clear h; go_simp <;> omega) ?_
        exact trivial
      intro γ w8 l hM hl
      have H8 := keepB H7 hM.below
      clear hM hl l H7 γ
      refine rest0 rfl (then_normal ?_)
      refine wp_cond_true rfl ?_
      refine wp_skip ?_
      refine then_normal ?_
      refine wp_seq ?_
      refine wp_block ?_
      refine wp_seq ?_
      refine walk_seq 4 [.quiet (.agg #[PT γ2_0 0]), .quiet (V [P (j + 1) 0, P (j + 1) 1, P (j + 1) 2, P (j + 1) 3, P (j + 1) 4, P (j + 1) 5, P (j + 1) 6, P (j + 1) 7, P (j + 1) 8, P (j + 1) 9, P (j + 1) 10, P (j + 1) 11]), .quiet (V [P (j + 1) 0, P (j + 1) 1, P (j + 1) 2, P (j + 1) 3, P (j + 1) 4, P (j + 1) 5, P (j + 1) 6, P (j + 1) 7, P (j + 1) 8, P (j + 1) 9, P (j + 1) 10, P (j + 1) 11]), .call (V [Q j 0, Q j 1, Q j 2, Q j 3, Q j 4, Q j 5, Q j 6, Q j 7, Q j 8, Q j 9, Q j 10, Q j 11])] _ ?pre5 ?F5 ?hpre5 (fun γ => ?hF5) (by kernel_rfl) trivial (sB H8) ?ho5 ?he5
      case hpre5 => simp only [tk, tz]; rfl
      case hF5 => simp only [fill, Kind.val, Act.put, sa, sz, ss]; rfl
      case ho5 =>
        refine ak (fun γ => ⟨rfl, fun w' h => ex_loadF h 1 rfl rfl rfl rfl⟩) ?_
        refine ak (fun γ => ⟨rfl, fun w' h => ex_loadA (i := 0) (k := 12) h 2 rfl rfl rfl Tryd.isAgg37 Tryd.sizeOf37 rfl rfl⟩) ?_
        refine ak (fun γ => ⟨rfl, fun w' h => ex_loadA (i := 0) (k := 12) h 2 rfl rfl rfl Tryd.isAgg37 Tryd.sizeOf37 rfl rfl⟩) ?_
        refine ak (fun γ => ⟨rfl, fun w' h => ⟨34, #[.agg #[PT γ2_0 0], V [P (j + 1) 0, P (j + 1) 1, P (j + 1) 2, P (j + 1) 3, P (j + 1) 4, P (j + 1) 5, P (j + 1) 6, P (j + 1) 7, P (j + 1) 8, P (j + 1) 9, P (j + 1) 10, P (j + 1) 11], V [P (j + 1) 0, P (j + 1) 1, P (j + 1) 2, P (j + 1) 3, P (j + 1) 4, P (j + 1) 5, P (j + 1) 6, P (j + 1) 7, P (j + 1) 8, P (j + 1) 9, P (j + 1) 10, P (j + 1) 11]], exec_call rfl call34 rfl (mpn rfl), CS.out j _ w' (h.one 0 rfl)⟩⟩) ?_
        exact trivial
      intro γ w9 l hM hl
      have H9 := keepB H8 hM.below
      clear hM hl l H8 γ
      refine rest_at (l := [4]) rfl ?_
      refine rest_store rfl rfl rfl (ex_storeA (i := 0) (ms := [Q j 0, Q j 1, Q j 2, Q j 3, Q j 4, Q j 5, Q j 6, Q j 7, Q j 8, Q j 9, Q j 10, Q j 11]) H9.out.1 2 rfl rfl rfl rfl Tryd.sizeOf37 (Nat.le_of_ble_eq_true rfl)) ?_
      have H10 : Hid (Mm (w9.setCells γ2_5 (6 * 0) (cel [Q j 0, Q j 1, Q j 2, Q j 3, Q j 4, Q j 5, Q j 6, Q j 7, Q j 8, Q j 9, Q j 10, Q j 11])) [(γ2_0, modc n), (γ2_4, [PT γ2_0 0]), (γ2_5, cel [Q j 0, Q j 1, Q j 2, Q j 3, Q j 4, Q j 5, Q j 6, Q j 7, Q j 8, Q j 9, Q j 10, Q j 11]), (γ1_0, cel [m 0, m 1, m 2, m 3, m 4, m 5, m 6, m 7, m 8, m 9, m 10, m 11]), (γ1_1, cells6 ee), (γ1_2, cel [0, 0, 0, 0, 0, 0, 0, 0, 0, 0, 0, 0])] ∧ Below w.heap.size w (w9.setCells γ2_5 (6 * 0) (cel [Q j 0, Q j 1, Q j 2, Q j 3, Q j 4, Q j 5, Q j 6, Q j 7, Q j 8, Q j 9, Q j 10, Q j 11]))) := ⟨by
        have h := H9.out.1.put 2 (off := 6 * 0) (vs := cel [Q j 0, Q j 1, Q j 2, Q j 3, Q j 4, Q j 5, Q j 6, Q j 7, Q j 8, Q j 9, Q j 10, Q j 11]) rfl (by simp only [cel_len]; exact Nat.le_of_ble_eq_true rfl)
        rw [cel_patch] at h
        exact h, below_setCells _ o2_5.out _ _ _ H9.out.2⟩
      clear H9
      generalize hgw : World.setCells _ _ _ _ = w10 at H10 ⊢
      clear hgw
      refine rest_nil ?_
      refine then_normal ?_
      refine wp_seq ?_
      refine walk_seq 4 [.quiet (N ee), .quiet (.int .i64 (((j + 1 : Nat) : Int) - 1)), .call (.int .i64 (bv j)), .quiet (.bool true)] _ ?pre6 ?F6 ?hpre6 (fun γ => ?hF6) (by kernel_rfl) trivial (sB H10) ?ho6 ?he6
      case hpre6 => simp only [tk, tz]; rfl
      case hF6 => simp only [fill, Kind.val, Act.put, sa, sz, ss]; rfl
      case ho6 =>
        refine ak (fun γ => ⟨rfl, fun w' h => ex_load6 h 4 rfl rfl rfl rfl⟩) ?_
        refine ak (fun _ => ⟨rfl, fun _ _ => rfl⟩) ?_
        refine ak (fun γ => ⟨rfl, fun w' h => ⟨37, #[N ee, .int .i64 (((j + 1 : Nat) : Int) - 1)], exec_call rfl call37 rfl (mpn rfl), CI.out j w' (by omega)⟩⟩) ?_
        refine ak (by refine fun γ => ⟨rfl, fun w' h => ?_⟩; clear h; go_simp <;> omega) ?_
        exact trivial
      intro γ w11 l hM hl
      have H11 := keepB H10 hM.below
      clear hM hl l H10 γ
      refine rest0 rfl (then_normal ?_)
      refine wp_cond_true rfl ?_
      refine walk_seq 4 [.quiet (.agg #[PT γ2_0 0]), .quiet (V [Q j 0, Q j 1, Q j 2, Q j 3, Q j 4, Q j 5, Q j 6, Q j 7, Q j 8, Q j 9, Q j 10, Q j 11]), .quiet (V [m 0, m 1, m 2, m 3, m 4, m 5, m 6, m 7, m 8, m 9, m 10, m 11]), .call (V [P j 0, P j 1, P j 2, P j 3, P j 4, P j 5, P j 6, P j 7, P j 8, P j 9, P j 10, P j 11])] _ ?pre7 ?F7 ?hpre7 (fun γ => ?hF7) (by kernel_rfl) trivial (sB H11) ?ho7 ?he7
      case hpre7 => simp only [tk, tz]; rfl
      case hF7 => simp only [fill, Kind.val, Act.put, sa, sz, ss]; rfl
      case ho7 =>
        refine ak (fun γ => ⟨rfl, fun w' h => ex_loadF h 1 rfl rfl rfl rfl⟩) ?_
        refine ak (fun γ => ⟨rfl, fun w' h => ex_loadA (i := 0) (k := 12) h 2 rfl rfl rfl Tryd.isAgg37 Tryd.sizeOf37 rfl rfl⟩) ?_
        refine ak (fun γ => ⟨rfl, fun w' h => ex_loadA (i := 0) (k := 12) h 3 rfl rfl rfl Tryd.isAgg37 Tryd.sizeOf37 rfl rfl⟩) ?_
        refine ak (fun γ => ⟨rfl, fun w' h => ⟨34, #[.agg #[PT γ2_0 0], V [Q j 0, Q j 1, Q j 2, Q j 3, Q j 4, Q j 5, Q j 6, Q j 7, Q j 8, Q j 9, Q j 10, Q j 11], V [m 0, m 1, m 2, m 3, m 4, m 5, m 6, m 7, m 8, m 9, m 10, m 11]], exec_call rfl call34 rfl (mpn rfl), CM.out j hb' _ w' (h.one 0 rfl)⟩⟩) ?_
        exact trivial
      intro γ w12 l hM hl
      have H12 := keepB H11 hM.below
      clear hM hl l H11 γ
      refine rest_at (l := [4]) rfl ?_
      refine rest_store rfl rfl rfl (ex_storeA (i := 0) (ms := [P j 0, P j 1, P j 2, P j 3, P j 4, P j 5, P j 6, P j 7, P j 8, P j 9, P j 10, P j 11]) H12.out.1 2 rfl rfl rfl rfl Tryd.sizeOf37 (Nat.le_of_ble_eq_true rfl)) ?_
      have H13 : Hid (Mm (w12.setCells γ2_5 (6 * 0) (cel [P j 0, P j 1, P j 2, P j 3, P j 4, P j 5, P j 6, P j 7, P j 8, P j 9, P j 10, P j 11])) [(γ2_0, modc n), (γ2_4, [PT γ2_0 0]), (γ2_5, cel [P j 0, P j 1, P j 2, P j 3, P j 4, P j 5, P j 6, P j 7, P j 8, P j 9, P j 10, P j 11]), (γ1_0, cel [m 0, m 1, m 2, m 3, m 4, m 5, m 6, m 7, m 8, m 9, m 10, m 11]), (γ1_1, cells6 ee), (γ1_2, cel [0, 0, 0, 0, 0, 0, 0, 0, 0, 0, 0, 0])] ∧ Below w.heap.size w (w12.setCells γ2_5 (6 * 0) (cel [P j 0, P j 1, P j 2, P j 3, P j 4, P j 5, P j 6, P j 7, P j 8, P j 9, P j 10, P j 11]))) := ⟨by
        have h := H12.out.1.put 2 (off := 6 * 0) (vs := cel [P j 0, P j 1, P j 2, P j 3, P j 4, P j 5, P j 6, P j 7, P j 8, P j 9, P j 10, P j 11]) rfl (by simp only [cel_len]; exact Nat.le_of_ble_eq_true rfl)
        rw [cel_patch] at h
        exact h, below_setCells _ o2_5.out _ _ _ H12.out.2⟩
      clear H12
      generalize hgw : World.setCells _ _ _ _ = w13 at H13 ⊢
      clear hgw
      refine rest_nil ?_
      refine block_normal ?_
      refine then_normal ?_
      refine walk_seq 2 [.quiet (.int .i64 (((j + 1 : Nat) : Int) - 1)), .quiet (.int .i64 (((j : Nat) : Int) - 1))] _ ?pre8 ?F8 ?hpre8 (fun γ => ?hF8) (by kernel_rfl) trivial (sB H13) ?ho8 ?he8
      case hpre8 => simp only [tk, tz]; rfl
      case hF8 => simp only [fill, Kind.val, Act.put, sa, sz, ss]; rfl
      case ho8 =>
        refine ak (fun _ => ⟨rfl, fun _ _ => rfl⟩) ?_
        refine ak (by refine fun γ => ⟨rfl, fun w' h => ?_⟩; clear h; go_simp; rw [IntKind.wrap_i64]; omega) ?_
        exact trivial
      intro γ w14 l hM hl
      have H14 := keepB H13 hM.below
      clear hM hl l H13 γ
      refine rest_at (l := [2]) rfl ?_
      refine rest_set (d := 7) rfl rfl rfl rfl ?_
      simp only [Act.put, sa, sz, ss]
      refine rest_nil ?_
      refine then_normal ?_
      exact ⟨j, ⟨(slotfn [undef, undef, undef, undef, undef, undef, undef, undef, undef, undef, undef, undef, undef, undef, undef, .int .i64 (((j + 1 : Nat) : Int) - 1), .bool true, .int .i64 (((j + 1 : Nat) : Int) - 1), .int .i64 (((j : Nat) : Int) - 1), .agg #[PT γ2_0 0], V [P (j + 1) 0, P (j + 1) 1, P (j + 1) 2, P (j + 1) 3, P (j + 1) 4, P (j + 1) 5, P (j + 1) 6, P (j + 1) 7, P (j + 1) 8, P (j + 1) 9, P (j + 1) 10, P (j + 1) 11], V [P (j + 1) 0, P (j + 1) 1, P (j + 1) 2, P (j + 1) 3, P (j + 1) 4, P (j + 1) 5, P (j + 1) 6, P (j + 1) 7, P (j + 1) 8, P (j + 1) 9, P (j + 1) 10, P (j + 1) 11], V [Q j 0, Q j 1, Q j 2, Q j 3, Q j 4, Q j 5, Q j 6, Q j 7, Q j 8, Q j 9, Q j 10, Q j 11], N ee, .int .i64 (((j + 1 : Nat) : Int) - 1), .int .i64 (bv j), .bool true, .agg #[PT γ2_0 0], V [Q j 0, Q j 1, Q j 2, Q j 3, Q j 4, Q j 5, Q j 6, Q j 7, Q j 8, Q j 9, Q j 10, Q j 11], V [m 0, m 1, m 2, m 3, m 4, m 5, m 6, m 7, m 8, m 9, m 10, m 11], V [P j 0, P j 1, P j 2, P j 3, P j 4, P j 5, P j 6, P j 7, P j 8, P j 9, P j 10, P j 11]]), rfl, ⟨H14.out.1, H14.out.2⟩, by omega⟩, by omega⟩
    · have hrd : True := trivial
      clear hrd
      have hb' : bv j = 0 := (HB.out j).resolve_left hb
      have HQ : Hid _ := FQ.out j hb'
      refine wp_seq ?_
      refine wp_seq ?_
      refine walk_seq 2 [.quiet (.int .i64 (((j + 1 : Nat) : Int) - 1)), .quiet (.bool true)] _ ?pre9 ?F9 ?hpre9 (fun γ => ?hF9) (by kernel_rfl) trivial (sB H7) ?ho9 ?he9
      case hpre9 => simp only [tk, tz]; rfl
      case hF9 => simp only [fill, Kind.val, Act.put, sa, sz, ss]; rfl
      case ho9 =>
        refine ak (fun _ => ⟨rfl, fun _ _ => rfl⟩) ?_
        refine ak (by refine fun γ => ⟨rfl, fun w' h => ?_⟩; clear h; go_simp <;> omega) ?_
        exact trivial
      intro γ w15 l hM hl
      have H15 := keepB H7 hM.below
      clear hM hl l H7 γ
      refine rest0 rfl (then_normal ?_)
      refine wp_cond_true rfl ?_
      refine wp_skip ?_
      refine then_normal ?_
      refine wp_seq ?_
      refine wp_block ?_
      refine wp_seq ?_
      refine walk_seq 4 [.quiet (.agg #[PT γ2_0 0]), .quiet (V [P (j + 1) 0, P (j + 1) 1, P (j + 1) 2, P (j + 1) 3, P (j + 1) 4, P (j + 1) 5, P (j + 1) 6, P (j + 1) 7, P (j + 1) 8, P (j + 1) 9, P (j + 1) 10, P (j + 1) 11]), .quiet (V [P (j + 1) 0, P (j + 1) 1, P (j + 1) 2, P (j + 1) 3, P (j + 1) 4, P (j + 1) 5, P (j + 1) 6, P (j + 1) 7, P (j + 1) 8, P (j + 1) 9, P (j + 1) 10, P (j + 1) 11]), .call (V [Q j 0, Q j 1, Q j 2, Q j 3, Q j 4, Q j 5, Q j 6, Q j 7, Q j 8, Q j 9, Q j 10, Q j 11])] _ ?pre10 ?F10 ?hpre10 (fun γ => ?hF10) (by kernel_rfl) trivial (sB H15) ?ho10 ?he10
      case hpre10 => simp only [tk, tz]; rfl
      case hF10 => simp only [fill, Kind.val, Act.put, sa, sz, ss]; rfl
      case ho10 =>
        refine ak (fun γ => ⟨rfl, fun w' h => ex_loadF h 1 rfl rfl rfl rfl⟩) ?_
        refine ak (fun γ => ⟨rfl, fun w' h => ex_loadA (i := 0) (k := 12) h 2 rfl rfl rfl Tryd.isAgg37 Tryd.sizeOf37 rfl rfl⟩) ?_
        refine ak (fun γ => ⟨rfl, fun w' h => ex_loadA (i := 0) (k := 12) h 2 rfl rfl rfl Tryd.isAgg37 Tryd.sizeOf37 rfl rfl⟩) ?_
        refine ak (fun γ => ⟨rfl, fun w' h => ⟨34, #[.agg #[PT γ2_0 0], V [P (j + 1) 0, P (j + 1) 1, P (j + 1) 2, P (j + 1) 3, P (j + 1) 4, P (j + 1) 5, P (j + 1) 6, P (j + 1) 7, P (j + 1) 8, P (j + 1) 9, P (j + 1) 10, P (j + 1) 11], V [P (j + 1) 0, P (j + 1) 1, P (j + 1) 2, P (j + 1) 3, P (j + 1) 4, P (j + 1) 5, P (j + 1) 6, P (j + 1) 7, P (j + 1) 8, P (j + 1) 9, P (j + 1) 10, P (j + 1) 11]], exec_call rfl call34 rfl (mpn rfl), CS.out j _ w' (h.one 0 rfl)⟩⟩) ?_
        exact trivial
      intro γ w16 l hM hl
      have H16 := keepB H15 hM.below
      clear hM hl l H15 γ
      refine rest_at (l := [4]) rfl ?_
      refine rest_store rfl rfl rfl (ex_storeA (i := 0) (ms := [Q j 0, Q j 1, Q j 2, Q j 3, Q j 4, Q j 5, Q j 6, Q j 7, Q j 8, Q j 9, Q j 10, Q j 11]) H16.out.1 2 rfl rfl rfl rfl Tryd.sizeOf37 (Nat.le_of_ble_eq_true rfl)) ?_
      have H17 : Hid (Mm (w16.setCells γ2_5 (6 * 0) (cel [Q j 0, Q j 1, Q j 2, Q j 3, Q j 4, Q j 5, Q j 6, Q j 7, Q j 8, Q j 9, Q j 10, Q j 11])) [(γ2_0, modc n), (γ2_4, [PT γ2_0 0]), (γ2_5, cel [Q j 0, Q j 1, Q j 2, Q j 3, Q j 4, Q j 5, Q j 6, Q j 7, Q j 8, Q j 9, Q j 10, Q j 11]), (γ1_0, cel [m 0, m 1, m 2, m 3, m 4, m 5, m 6, m 7, m 8, m 9, m 10, m 11]), (γ1_1, cells6 ee), (γ1_2, cel [0, 0, 0, 0, 0, 0, 0, 0, 0, 0, 0, 0])] ∧ Below w.heap.size w (w16.setCells γ2_5 (6 * 0) (cel [Q j 0, Q j 1, Q j 2, Q j 3, Q j 4, Q j 5, Q j 6, Q j 7, Q j 8, Q j 9, Q j 10, Q j 11]))) := ⟨by
        have h := H16.out.1.put 2 (off := 6 * 0) (vs := cel [Q j 0, Q j 1, Q j 2, Q j 3, Q j 4, Q j 5, Q j 6, Q j 7, Q j 8, Q j 9, Q j 10, Q j 11]) rfl (by simp only [cel_len]; exact Nat.le_of_ble_eq_true rfl)
        rw [cel_patch] at h
        exact h, below_setCells _ o2_5.out _ _ _ H16.out.2⟩
      clear H16
      generalize hgw : World.setCells _ _ _ _ = w17 at H17 ⊢
      clear hgw
      refine rest_nil ?_
      refine then_normal ?_
      refine wp_seq ?_
      refine walk_seq 4 [.quiet (N ee), .quiet (.int .i64 (((j + 1 : Nat) : Int) - 1)), .call (.int .i64 (bv j)), .quiet (.bool false)] _ ?pre11 ?F11 ?hpre11 (fun γ => ?hF11) (by kernel_rfl) trivial (sB H17) ?ho11 ?he11
      case hpre11 => simp only [tk, tz]; rfl
      case hF11 => simp only [fill, Kind.val, Act.put, sa, sz, ss]; rfl
      case ho11 =>
        refine ak (fun γ => ⟨rfl, fun w' h => ex_load6 h 4 rfl rfl rfl rfl⟩) ?_
        refine ak (fun _ => ⟨rfl, fun _ _ => rfl⟩) ?_
        refine ak (fun γ => ⟨rfl, fun w' h => ⟨37, #[N ee, .int .i64 (((j + 1 : Nat) : Int) - 1)], exec_call rfl call37 rfl (mpn rfl), CI.out j w' (by omega)⟩⟩) ?_
        refine ak (by refine fun γ => ⟨rfl, fun w' h => ?_⟩; clear h; go_simp <;> omega) ?_
        exact trivial
      intro γ w18 l hM hl
      have H18 := keepB H17 hM.below
      clear hM hl l H17 γ
      refine rest0 rfl (then_normal ?_)
      refine wp_cond_false rfl ?_
      refine wp_skip ?_
      refine block_normal ?_
      refine then_normal ?_
      refine walk_seq 2 [.quiet (.int .i64 (((j + 1 : Nat) : Int) - 1)), .quiet (.int .i64 (((j : Nat) : Int) - 1))] _ ?pre12 ?F12 ?hpre12 (fun γ => ?hF12) (by kernel_rfl) trivial (sB H18) ?ho12 ?he12
      case hpre12 => simp only [tk, tz]; rfl
      case hF12 => simp only [fill, Kind.val, Act.put, sa, sz, ss]; rfl
      case ho12 =>
        refine ak (fun _ => ⟨rfl, fun _ _ => rfl⟩) ?_
        refine ak (by refine fun γ => ⟨rfl, fun w' h => ?_⟩; clear h; go_simp; rw [IntKind.wrap_i64]; omega) ?_
        exact trivial
      intro γ w19 l hM hl
      have H19 := keepB H18 hM.below
      clear hM hl l H18 γ
      refine rest_at (l := [2]) rfl ?_
      refine rest_set (d := 7) rfl rfl rfl rfl ?_
      simp only [Act.put, sa, sz, ss]
      refine rest_nil ?_
      refine then_normal ?_
      exact ⟨j, ⟨(slotfn [undef, undef, undef, undef, undef, undef, undef, undef, undef, undef, undef, undef, undef, undef, undef, .int .i64 (((j + 1 : Nat) : Int) - 1), .bool true, .int .i64 (((j + 1 : Nat) : Int) - 1), .int .i64 (((j : Nat) : Int) - 1), .agg #[PT γ2_0 0], V [P (j + 1) 0, P (j + 1) 1, P (j + 1) 2, P (j + 1) 3, P (j + 1) 4, P (j + 1) 5, P (j + 1) 6, P (j + 1) 7, P (j + 1) 8, P (j + 1) 9, P (j + 1) 10, P (j + 1) 11], V [P (j + 1) 0, P (j + 1) 1, P (j + 1) 2, P (j + 1) 3, P (j + 1) 4, P (j + 1) 5, P (j + 1) 6, P (j + 1) 7, P (j + 1) 8, P (j + 1) 9, P (j + 1) 10, P (j + 1) 11], V [Q j 0, Q j 1, Q j 2, Q j 3, Q j 4, Q j 5, Q j 6, Q j 7, Q j 8, Q j 9, Q j 10, Q j 11], N ee, .int .i64 (((j + 1 : Nat) : Int) - 1), .int .i64 (bv j), .bool false, s0 27, s0 28, s0 29, s0 30]), rfl, ⟨by rw [← HQ.out]; exact H19.out.1, H19.out.2⟩, by omega⟩, by omega⟩
  have hk0 : k = 0 := by omega
  subst hk0
  refine wp_seq ?_
  refine wp_seq ?_
  refine walk_seq 2 [.quiet (.int .i64 (((0 : Nat) : Int) - 1)), .quiet (.bool false)] _ ?pre13 ?F13 ?hpre13 (fun γ => ?hF13) (by kernel_rfl) trivial (sB H7) ?ho13 ?he13
  case hpre13 => simp only [tk, tz]; rfl
  case hF13 => simp only [fill, Kind.val, Act.put, sa, sz, ss]; rfl
  case ho13 =>
    refine ak (fun _ => ⟨rfl, fun _ _ => rfl⟩) ?_
    refine ak (by refine fun γ => ⟨rfl, fun w' h => ?_⟩; clear h; go_simp <;> omega) ?_
    exact trivial
  intro γ w20 l hM hl
  have H20 := keepB H7 hM.below
  clear hM hl l H7 γ
  refine rest0 rfl (then_normal ?_)
  refine wp_cond_false rfl ?_
  refine wp_exit ?_
  repeat refine then_exit ?_
  refine block_exit ?_
  refine then_normal ?_
  refine wp_seq ?_
  refine walk_seq 1 [.quiet (V [P 0 0, P 0 1, P 0 2, P 0 3, P 0 4, P 0 5, P 0 6, P 0 7, P 0 8, P 0 9, P 0 10, P 0 11])] _ ?pre14 ?F14 ?hpre14 (fun γ => ?hF14) (by kernel_rfl) trivial (sB H20) ?ho14 ?he14
  case hpre14 => simp only [tk, tz]; rfl
  case hF14 => simp only [fill, Kind.val, Act.put, sa, sz, ss]; rfl
  case ho14 =>
    refine ak (fun γ => ⟨rfl, fun w' h => ex_loadA (i := 0) (k := 12) h 2 rfl rfl rfl Tryd.isAgg37 Tryd.sizeOf37 rfl rfl⟩) ?_
    exact trivial
  intro γ w21 l hM hl
  have H21 := keepB H20 hM.below
  clear hM hl l H20 γ
  refine rest_at (l := [1]) rfl ?_
  refine rest_store rfl rfl rfl (ex_storeA (i := 0) (ms := [P 0 0, P 0 1, P 0 2, P 0 3, P 0 4, P 0 5, P 0 6, P 0 7, P 0 8, P 0 9, P 0 10, P 0 11]) H21.out.1 5 rfl rfl rfl rfl Tryd.sizeOf37 (Nat.le_of_ble_eq_true rfl)) ?_
  have H22 : Hid (Mm (w21.setCells γ1_2 (6 * 0) (cel [P 0 0, P 0 1, P 0 2, P 0 3, P 0 4, P 0 5, P 0 6, P 0 7, P 0 8, P 0 9, P 0 10, P 0 11])) [(γ2_0, modc n), (γ2_4, [PT γ2_0 0]), (γ2_5, cel [P 0 0, P 0 1, P 0 2, P 0 3, P 0 4, P 0 5, P 0 6, P 0 7, P 0 8, P 0 9, P 0 10, P 0 11]), (γ1_0, cel [m 0, m 1, m 2, m 3, m 4, m 5, m 6, m 7, m 8, m 9, m 10, m 11]), (γ1_1, cells6 ee), (γ1_2, cel [P 0 0, P 0 1, P 0 2, P 0 3, P 0 4, P 0 5, P 0 6, P 0 7, P 0 8, P 0 9, P 0 10, P 0 11])] ∧ Below w.heap.size w (w21.setCells γ1_2 (6 * 0) (cel [P 0 0, P 0 1, P 0 2, P 0 3, P 0 4, P 0 5, P 0 6, P 0 7, P 0 8, P 0 9, P 0 10, P 0 11]))) := ⟨by
    have h := H21.out.1.put 5 (off := 6 * 0) (vs := cel [P 0 0, P 0 1, P 0 2, P 0 3, P 0 4, P 0 5, P 0 6, P 0 7, P 0 8, P 0 9, P 0 10, P 0 11]) rfl (by simp only [cel_len]; exact Nat.le_of_ble_eq_true rfl)
    rw [cel_patch] at h
    exact h, below_setCells _ o1_2.out _ _ _ H21.out.2⟩
  clear H21
  generalize hgw : World.setCells _ _ _ _ = w22 at H22 ⊢
  clear hgw
  refine rest_nil ?_
  refine then_normal ?_
  refine wp_ret ?_
  repeat (first | refine then_ret ?_ | refine block_ret ?_)
  have hf0 := cel_var (k := 12) H22.out.1 5 rfl Tryd.isAgg37 Tryd.sizeOf37 rfl
  refine bodyPost_ret (v := V [P 0 0, P 0 1, P 0 2, P 0 3, P 0 4, P 0 5, P 0 6, P 0 7, P 0 8, P 0 9, P 0 10, P 0 11]) (by simp [results, Tryd.results21, asAddr, hf0]) rfl ?_
  exact ⟨rfl, H22.out.2⟩
end Rg
end Go.Proofs.YtgdlhgbdigpfhaaDoor
