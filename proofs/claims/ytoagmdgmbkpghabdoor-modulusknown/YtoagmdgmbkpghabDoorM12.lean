/- trailing, divideByPower -/
import Derived.Test.YtoagmdgmbkpghabDoorM11
namespace Go.Proofs.YtoagmdgmbkpghabDoor
open Go.RowKit
namespace Rg

theorem first_word (r : Nat) : ∀ m, r % 2 ^ (64 * m) ≠ 0 → ∃ i, i < m ∧ (∀ j, j < i → wd r j = 0) ∧ wd r i ≠ 0 := by
  intro m
  induction m with
  | zero => intro h; rw [Nat.mul_zero, Nat.pow_zero, Nat.mod_one] at h; exact absurd rfl h
  | succ m ih =>
    intro h
    by_cases h0 : r % 2 ^ (64 * m) = 0
    · by_cases h1 : wd r m = 0
      · exfalso
        apply h
        rw [mod_step, h0]
        have : wn r m = 0 := by have := wd_wn r m; omega
        rw [this]; simp
      · refine ⟨m, by omega, fun j hj => ?_, h1⟩
        unfold wd
        have e : 2 ^ (64 * m) = 2 ^ (64 * j) * (18446744073709551616 * 2 ^ (64 * (m - j - 1))) := by
          have : 64 * m = 64 * j + (64 + 64 * (m - j - 1)) := by omega
          rw [this, Nat.pow_add, Nat.pow_add]
        obtain ⟨q, hq⟩ := Nat.dvd_of_mod_eq_zero h0
        rw [hq, e, Nat.mul_assoc, Nat.mul_div_cancel_left _ (pow_pos' j), Nat.mul_assoc, Nat.mul_mod_right]
        rfl
    · obtain ⟨i, h1, h2, h3⟩ := ih h0
      exact ⟨i, by omega, h2, h3⟩
theorem low_zero (r : Nat) : ∀ m, (∀ j, j < m → wd r j = 0) → r % 2 ^ (64 * m) = 0 := by
  intro m
  induction m with
  | zero => intro _; rw [Nat.mul_zero, Nat.pow_zero, Nat.mod_one]
  | succ m ih =>
    intro h
    have : wn r m = 0 := by have := wd_wn r m; have := h m (by omega); omega
    rw [mod_step, ih (fun j hj => h j (by omega)), this]; simp
theorem trailing_any {r : Nat} (hr : r < big) (h0 : r ≠ 0) : ∃ k r1, k < 384 ∧ r = r1 * 2 ^ k ∧ r1 % 2 = 1 ∧ ∀ w, Mm w [(0, dtab)] → Calls Tryd.prog 42 #[N r] w fun e w' => e = .returned (.int .i64 ((k : Nat) : Int)) ∧ Below w.heap.size w w' := by
  obtain ⟨m, hm, hz, hx⟩ := first_word r 6 (by rw [← big_eq, Nat.mod_eq_of_lt hr]; exact h0)
  have hx0 : wn r m ≠ 0 := by have := wd_wn r m; omega
  have hxl := wn_lt r m
  have hct : Lib.ctz 64 (wn r m) = Lib.ctzFrom 64 (wn r m) := by unfold Lib.ctz; rw [if_neg hx0]
  obtain ⟨q, hq, hc⟩ := Lib.ctzFrom_spec 64 (wn r m) (by omega) hxl
  rw [← hct] at hq hc
  generalize hcd : Lib.ctz 64 (wn r m) = c at hq hc
  have hlow := low_zero r m hz
  have hdm := Nat.div_add_mod r (2 ^ (64 * m))
  rw [hlow, Nat.add_zero] at hdm
  have hR := Nat.div_add_mod (r / 2 ^ (64 * m)) 18446744073709551616
  have hR2 : r / 2 ^ (64 * m) % 18446744073709551616 = wn r m := rfl
  rw [hR2] at hR
  obtain ⟨d, hd⟩ : ∃ d, 64 = c + (d + 1) := ⟨64 - c - 1, by omega⟩
  have h64 : 18446744073709551616 = 2 ^ c * (2 ^ d * 2) := by
    rw [← Nat.pow_succ, ← Nat.pow_add, ← hd]
  refine ⟨64 * m + c, 2 ^ d * 2 * (r / 2 ^ (64 * m) / 18446744073709551616) + (2 * q + 1), by omega, ?_, ?_, fun w ht => ?_⟩
  · have e : r / 2 ^ (64 * m) = (2 ^ d * 2 * (r / 2 ^ (64 * m) / 18446744073709551616) + (2 * q + 1)) * 2 ^ c := by
      have e1 : 18446744073709551616 * (r / 2 ^ (64 * m) / 18446744073709551616) = 2 ^ d * 2 * (r / 2 ^ (64 * m) / 18446744073709551616) * 2 ^ c := by
        generalize r / 2 ^ (64 * m) / 18446744073709551616 = y
        rw [h64, Nat.mul_assoc (2 ^ c), Nat.mul_comm (2 ^ c)]
      rw [Nat.add_mul, ← e1, Nat.mul_comm (2 * q + 1), ← hq]
      exact hR.symm
    rw [Nat.pow_add, Nat.mul_comm (2 ^ (64 * m)), ← Nat.mul_assoc, ← e, Nat.mul_comm]
    exact hdm.symm
  · rw [Nat.mul_right_comm]; omega
  · refine trailing_gen r m c hm (by omega) hz hx (fun w ht => ?_) w ht
    have := tz_word (wn r m) hxl w ht
    rw [hcd] at this
    exact this
set_option maxRecDepth 100000 in
theorem dbp_1 (g n o s a K j : Nat) (hK : K < 1000) (hj : j = 0) (f : Nat → Nat) (f0 : f 0 = a)
    (co : ∀ w, Calls Tryd.prog 11 #[.int .u64 1] w fun e w' => e = .returned (N 1) ∧ Below w.heap.size w w')
    (cf : ∀ k w, Mm w [(g, modx n o s)] → Calls Tryd.prog 27 #[PT g 0, N 1, N (f k)] w fun e w' => e = .returned (N (f (k + 1))) ∧ Below w.heap.size w w') (w : World) (hm : Mm w [(g, modx n o s)]) :
    Calls Tryd.prog 31 #[PT g 0, N a, .int .i64 ((384 * K + j : Nat) : Int)] w fun e w' => e = .returned (N (f K)) ∧ Below w.heap.size w w' := by
  have H0 : Hid (_ ∧ _) := ⟨hm, Below.refl w.heap.size w⟩
  clear hm
  have CO : Hid _ := co
  have CF : Hid _ := cf
  have F0 : Hid _ := f0
  clear co cf f0
  go_enter Tryd.func31, Tryd.ntmps31
  refine wp_seq ?_
  refine walk_seq 2 [.made (cells6 a) 24, .made zero6 24] (fun w' => Mm w' [(g, modx n o s)]) ?pre1 ?F1 ?hpre1 (fun γ => ?hF1) (by kernel_rfl) ?hL1 ?hS1 ?ho1 ?he1
  case hpre1 =>
    simp only [List.take_succ_cons, List.take_zero]
    exact rfl
  case hF1 =>
    simp only [fill, Kind.val, Act.put, List.setIfInBounds_toArray, List.set_cons_zero, List.set_cons_succ]
    exact rfl
  case hL1 => exact trivial
  case hS1 => exact fun w' hb => H0.out.1.below hb
  case ho1 =>
    refine AllOk.cons ?_ ?_
    · exact fun γ => ⟨rfl, fun w' => ex_box6 rfl rfl⟩
    refine AllOk.cons ?_ ?_
    · exact fun γ => ⟨rfl, fun w' => exec_made6 rfl⟩
    exact trivial
  intro γ w1 l hM hl
  have M1 : Mm w1 [(γ 0, cells6 a), (γ 1, zero6), (g, modx n o s)] := H0.out.1.grow hM (Nat.le_refl _) hl [0, 1] rfl (by decide)
  have B1 : Below w.heap.size w w1 := H0.out.2.trans (hM.below.mono H0.out.2.size)
  have o1_0 : Hid (w.heap.size ≤ γ 0) := Nat.le_trans H0.out.2.size (hM.fin (Nat.le_refl _) hl (i := 0) rfl).2.1
  have o1_1 : Hid (w.heap.size ≤ γ 1) := Nat.le_trans H0.out.2.size (hM.fin (Nat.le_refl _) hl (i := 1) rfl).2.1
  clear hM hl l
  generalize γ 0 = γ1_0 at M1 o1_0 ⊢
  generalize γ 1 = γ1_1 at M1 o1_1 ⊢
  clear γ
  have H1 : Hid (_ ∧ _) := ⟨M1, B1⟩
  clear M1 B1
  refine rest_at (l := []) rfl ?_
  refine rest_nil ?_
  refine then_normal ?_
  refine wp_seq ?_
  refine wp_block ?_
  refine loop_ghost (α := Nat) (fun k a' w' => ∃ s0 : Nat → Value, a' = ⟨#[PT g 0, N a, .int .i64 ((384 * (K - k) + j : Nat) : Int), undef, PT γ1_0 0, undef, PT γ1_1 0, s0 7, s0 8, s0 9, s0 10, s0 11, s0 12, s0 13, s0 14, undef, undef, undef, undef, undef, undef, undef, undef, undef, undef], []⟩ ∧ (Mm w' [(γ1_0, cells6 (f k)), (γ1_1, zero6), (g, modx n o s)] ∧ Below w.heap.size w w') ∧ k ≤ K) (fun k => K - k) 0 ?st0 ?rd0
  case st0 => exact ⟨(slotfn [undef, undef, undef, undef, undef, undef, undef, undef, undef, undef, undef, undef, undef, undef, undef]), rfl, ⟨H1.out.1.at0 (by rw [F0.out]), H1.out.2⟩, by omega⟩
  intro k a' w2 hI
  obtain ⟨s0, rfl, hMB, hk0⟩ := hI
  have H2 : Hid (_ ∧ _) := hMB
  clear hMB H1
  by_cases hlt : k < K
  · have hrd : True := trivial
    clear hrd
    refine wp_seq ?_
    refine wp_seq ?_
    refine walk_seq 2 [.quiet (.int .i64 ((384 * (K - k) + j : Nat) : Int)), .quiet (.bool true)] (fun w' => Mm w' [(γ1_0, cells6 (f k)), (γ1_1, zero6), (g, modx n o s)]) ?pre2 ?F2 ?hpre2 (fun γ => ?hF2) (by kernel_rfl) ?hL2 ?hS2 ?ho2 ?he2
    case hpre2 =>
      simp only [List.take_succ_cons, List.take_zero]
      exact rfl
    case hF2 =>
      simp only [fill, Kind.val, Act.put, List.setIfInBounds_toArray, List.set_cons_zero, List.set_cons_succ]
      exact rfl
    case hL2 => exact trivial
    case hS2 => exact fun w' hb => H2.out.1.below hb
    case ho2 =>
      refine AllOk.cons ?_ ?_
      · exact fun γ => ⟨rfl, fun w' _ => rfl⟩
      refine AllOk.cons ?_ ?_
      · (refine fun γ => ⟨rfl, fun w' h => ?_⟩; clear h; go_simp <;> omega)
      exact trivial
    intro γ w3 l hM hl
    have M3 : Mm w3 [(γ1_0, cells6 (f k)), (γ1_1, zero6), (g, modx n o s)] := H2.out.1.grow hM (Nat.le_refl _) hl [] rfl (by decide)
    have B3 : Below w.heap.size w w3 := H2.out.2.trans (hM.below.mono H2.out.2.size)
    clear hM hl l H2
    clear γ
    have H3 : Hid (_ ∧ _) := ⟨M3, B3⟩
    clear M3 B3
    refine rest_at (l := []) rfl ?_
    refine rest_nil ?_
    refine then_normal ?_
    refine wp_cond_true rfl ?_
    refine wp_skip ?_
    refine then_normal ?_
    refine wp_block ?_
    refine wp_seq ?_
    refine walk_any (by kernel_rfl) 4 [.quiet (PT g 0), .call (N 1), .quiet (N (f k)), .call (N (f (k + 1)))] (fun w' => Mm w' [(γ1_0, cells6 (f k)), (γ1_1, zero6), (g, modx n o s)]) ?pre3 ?F3 ?hpre3 (fun γ => ?hF3) (by kernel_rfl) ?hL3 ?hS3 ?ho3 ?he3
    case hpre3 =>
      simp only [List.take_succ_cons, List.take_zero]
      exact rfl
    case hF3 =>
      simp only [fill, Kind.val, Act.put, List.setIfInBounds_toArray, List.set_cons_zero, List.set_cons_succ]
      exact rfl
    case hL3 => exact trivial
    case hS3 => exact fun w' hb => H3.out.1.below hb
    case ho3 =>
      refine AllOk.cons ?_ ?_
      · exact fun γ => ⟨rfl, fun w' _ => rfl⟩
      refine AllOk.cons ?_ ?_
      · exact fun γ => ⟨rfl, fun w' h => ⟨11, #[.int .u64 1], exec_call rfl call11 rfl (by simp only [List.map_toArray, List.map_cons, List.map_nil]; rfl), CO.out w'⟩⟩
      refine AllOk.cons ?_ ?_
      · exact fun γ => ⟨rfl, fun w' h => ex_load6 h 0 rfl rfl rfl rfl⟩
      refine AllOk.cons ?_ ?_
      · exact fun γ => ⟨rfl, fun w' h => ⟨27, #[PT g 0, N 1, N (f k)], exec_call rfl call27 rfl (by simp only [List.map_toArray, List.map_cons, List.map_nil]; rfl), CF.out k w' (h.one 2 rfl)⟩⟩
      exact trivial
    intro γ w4 l hM hl
    have M4 : Mm w4 [(γ1_0, cells6 (f k)), (γ1_1, zero6), (g, modx n o s)] := H3.out.1.grow hM (Nat.le_refl _) hl [] rfl (by decide)
    have B4 : Below w.heap.size w w4 := H3.out.2.trans (hM.below.mono H3.out.2.size)
    clear hM hl l H3
    clear γ
    have H4 : Hid (_ ∧ _) := ⟨M4, B4⟩
    clear M4 B4
    refine rest_at (l := [4]) rfl ?_
    refine rest_store rfl rfl rfl (ex_store6 H4.out.1 0 rfl rfl rfl rfl (Nat.le_of_ble_eq_true rfl)) ?_
    have H5 : Hid (Mm (w4.setCells γ1_0 0 (cells6 (f (k + 1)))) [(γ1_0, cells6 (f (k + 1))), (γ1_1, zero6), (g, modx n o s)] ∧ Below w.heap.size w (w4.setCells γ1_0 0 (cells6 (f (k + 1))))) := ⟨H4.out.1.put 0 (off := 0) (vs := cells6 (f (k + 1))) rfl (Nat.le_of_ble_eq_true rfl), below_setCells _ o1_0.out _ _ _ H4.out.2⟩
    clear H4
    generalize hgw : World.setCells _ _ _ _ = w5 at H5 ⊢
    clear hgw
    refine rest_nil ?_
    refine then_normal ?_
    refine walk_seq 2 [.quiet (.int .i64 ((384 * (K - k) + j : Nat) : Int)), .quiet (.int .i64 ((384 * (K - (k + 1)) + j : Nat) : Int))] (fun w' => Mm w' [(γ1_0, cells6 (f (k + 1))), (γ1_1, zero6), (g, modx n o s)]) ?pre4 ?F4 ?hpre4 (fun γ => ?hF4) (by kernel_rfl) ?hL4 ?hS4 ?ho4 ?he4
    case hpre4 =>
      simp only [List.take_succ_cons, List.take_zero]
      exact rfl
    case hF4 =>
      simp only [fill, Kind.val, Act.put, List.setIfInBounds_toArray, List.set_cons_zero, List.set_cons_succ]
      exact rfl
    case hL4 => exact trivial
    case hS4 => exact fun w' hb => H5.out.1.below hb
    case ho4 =>
      refine AllOk.cons ?_ ?_
      · exact fun γ => ⟨rfl, fun w' _ => rfl⟩
      refine AllOk.cons ?_ ?_
      · (refine fun γ => ⟨rfl, fun w' h => ?_⟩; clear h; go_simp; rw [IntKind.wrap_i64]; omega)
      exact trivial
    intro γ w6 l hM hl
    have M6 : Mm w6 [(γ1_0, cells6 (f (k + 1))), (γ1_1, zero6), (g, modx n o s)] := H5.out.1.grow hM (Nat.le_refl _) hl [] rfl (by decide)
    have B6 : Below w.heap.size w w6 := H5.out.2.trans (hM.below.mono H5.out.2.size)
    clear hM hl l H5
    clear γ
    have H6 : Hid (_ ∧ _) := ⟨M6, B6⟩
    clear M6 B6
    refine rest_at (l := [2]) rfl ?_
    refine rest_set (d := 2) rfl rfl rfl rfl ?_
    simp only [Act.put, List.setIfInBounds_toArray, List.set_cons_zero, List.set_cons_succ]
    refine rest_nil ?_
    refine block_normal ?_
    refine then_normal ?_
    exact ⟨k + 1, ⟨(slotfn [undef, undef, undef, undef, undef, undef, undef, .int .i64 ((384 * (K - k) + j : Nat) : Int), .bool true, PT g 0, N 1, N (f k), N (f (k + 1)), .int .i64 ((384 * (K - k) + j : Nat) : Int), .int .i64 ((384 * (K - (k + 1)) + j : Nat) : Int)]), rfl, ⟨H6.out.1, H6.out.2⟩, by omega⟩, by omega⟩
  have hkK : k = K := by omega
  subst hkK
  refine wp_seq ?_
  refine wp_seq ?_
  refine walk_seq 2 [.quiet (.int .i64 ((384 * (k - k) + j : Nat) : Int)), .quiet (.bool false)] (fun w' => Mm w' [(γ1_0, cells6 (f k)), (γ1_1, zero6), (g, modx n o s)]) ?pre5 ?F5 ?hpre5 (fun γ => ?hF5) (by kernel_rfl) ?hL5 ?hS5 ?ho5 ?he5
  case hpre5 =>
    simp only [List.take_succ_cons, List.take_zero]
    exact rfl
  case hF5 =>
    simp only [fill, Kind.val, Act.put, List.setIfInBounds_toArray, List.set_cons_zero, List.set_cons_succ]
    exact rfl
  case hL5 => exact trivial
  case hS5 => exact fun w' hb => H2.out.1.below hb
  case ho5 =>
    refine AllOk.cons ?_ ?_
    · exact fun γ => ⟨rfl, fun w' _ => rfl⟩
    refine AllOk.cons ?_ ?_
    · (refine fun γ => ⟨rfl, fun w' h => ?_⟩; clear h; go_simp <;> omega)
    exact trivial
  intro γ w7 l hM hl
  have M7 : Mm w7 [(γ1_0, cells6 (f k)), (γ1_1, zero6), (g, modx n o s)] := H2.out.1.grow hM (Nat.le_refl _) hl [] rfl (by decide)
  have B7 : Below w.heap.size w w7 := H2.out.2.trans (hM.below.mono H2.out.2.size)
  clear hM hl l H2
  clear γ
  have H7 : Hid (_ ∧ _) := ⟨M7, B7⟩
  clear M7 B7
  refine rest_at (l := []) rfl ?_
  refine rest_nil ?_
  refine then_normal ?_
  refine wp_cond_false rfl ?_
  refine wp_exit ?_
  repeat refine then_exit ?_
  refine block_exit ?_
  refine then_normal ?_
  refine wp_seq ?_
  refine wp_seq ?_
  refine walk_seq 2 [.quiet (.int .i64 ((384 * (k - k) + j : Nat) : Int)), .quiet (.bool true)] (fun w' => Mm w' [(γ1_0, cells6 (f k)), (γ1_1, zero6), (g, modx n o s)]) ?pre6 ?F6 ?hpre6 (fun γ => ?hF6) (by kernel_rfl) ?hL6 ?hS6 ?ho6 ?he6
  case hpre6 =>
    simp only [List.take_succ_cons, List.take_zero]
    exact rfl
  case hF6 =>
    simp only [fill, Kind.val, Act.put, List.setIfInBounds_toArray, List.set_cons_zero, List.set_cons_succ]
    exact rfl
  case hL6 => exact trivial
  case hS6 => exact fun w' hb => H7.out.1.below hb
  case ho6 =>
    refine AllOk.cons ?_ ?_
    · exact fun γ => ⟨rfl, fun w' _ => rfl⟩
    refine AllOk.cons ?_ ?_
    · (refine fun γ => ⟨rfl, fun w' h => ?_⟩; clear h; go_simp <;> omega)
    exact trivial
  intro γ w8 l hM hl
  have M8 : Mm w8 [(γ1_0, cells6 (f k)), (γ1_1, zero6), (g, modx n o s)] := H7.out.1.grow hM (Nat.le_refl _) hl [] rfl (by decide)
  have B8 : Below w.heap.size w w8 := H7.out.2.trans (hM.below.mono H7.out.2.size)
  clear hM hl l H7
  clear γ
  have H8 : Hid (_ ∧ _) := ⟨M8, B8⟩
  clear M8 B8
  refine rest_at (l := []) rfl ?_
  refine rest_nil ?_
  refine then_normal ?_
  refine wp_cond_true rfl ?_
  refine wp_seq ?_
  refine walk_seq 1 [.quiet (N (f k))] (fun w' => Mm w' [(γ1_0, cells6 (f k)), (γ1_1, zero6), (g, modx n o s)]) ?pre7 ?F7 ?hpre7 (fun γ => ?hF7) (by kernel_rfl) ?hL7 ?hS7 ?ho7 ?he7
  case hpre7 =>
    simp only [List.take_succ_cons, List.take_zero]
    exact rfl
  case hF7 =>
    simp only [fill, Kind.val, Act.put, List.setIfInBounds_toArray, List.set_cons_zero, List.set_cons_succ]
    exact rfl
  case hL7 => exact trivial
  case hS7 => exact fun w' hb => H8.out.1.below hb
  case ho7 =>
    refine AllOk.cons ?_ ?_
    · exact fun γ => ⟨rfl, fun w' h => ex_load6 h 0 rfl rfl rfl rfl⟩
    exact trivial
  intro γ w9 l hM hl
  have M9 : Mm w9 [(γ1_0, cells6 (f k)), (γ1_1, zero6), (g, modx n o s)] := H8.out.1.grow hM (Nat.le_refl _) hl [] rfl (by decide)
  have B9 : Below w.heap.size w w9 := H8.out.2.trans (hM.below.mono H8.out.2.size)
  clear hM hl l H8
  clear γ
  have H9 : Hid (_ ∧ _) := ⟨M9, B9⟩
  clear M9 B9
  refine rest_at (l := [1]) rfl ?_
  refine rest_store rfl rfl rfl (ex_store6 H9.out.1 1 rfl rfl rfl rfl (Nat.le_of_ble_eq_true rfl)) ?_
  have H10 : Hid (Mm (w9.setCells γ1_1 0 (cells6 (f k))) [(γ1_0, cells6 (f k)), (γ1_1, cells6 (f k)), (g, modx n o s)] ∧ Below w.heap.size w (w9.setCells γ1_1 0 (cells6 (f k)))) := ⟨H9.out.1.put 1 (off := 0) (vs := cells6 (f k)) rfl (Nat.le_of_ble_eq_true rfl), below_setCells _ o1_1.out _ _ _ H9.out.2⟩
  clear H9
  generalize hgw : World.setCells _ _ _ _ = w10 at H10 ⊢
  clear hgw
  refine rest_nil ?_
  refine then_normal ?_
  refine wp_ret ?_
  repeat (first | refine then_ret ?_ | refine block_ret ?_)
  have c0 := H10.out.1.get 1 rfl 0 rfl
  have c1 := H10.out.1.get 1 rfl 1 rfl
  have c2 := H10.out.1.get 1 rfl 2 rfl
  have c3 := H10.out.1.get 1 rfl 3 rfl
  have c4 := H10.out.1.get 1 rfl 4 rfl
  have c5 := H10.out.1.get 1 rfl 5 rfl
  refine bodyPost_ret (v := N (f k)) (by simp [results, Tryd.results31, go_sem, *]) rfl ?_
  exact ⟨rfl, H10.out.2⟩
set_option maxRecDepth 100000 in
theorem dbp_2 (g n o s a K j y x : Nat) (hK : K < 1000) (hj : 0 < j) (hj4 : j < 384) (f : Nat → Nat) (f0 : f 0 = a)
    (co : ∀ w, Calls Tryd.prog 11 #[.int .u64 1] w fun e w' => e = .returned (N 1) ∧ Below w.heap.size w w')
    (cf : ∀ k w, Mm w [(g, modx n o s)] → Calls Tryd.prog 27 #[PT g 0, N 1, N (f k)] w fun e w' => e = .returned (N (f (k + 1))) ∧ Below w.heap.size w w')
    (ch : ∀ w, Calls Tryd.prog 34 #[N 1, .int .i64 ((384 - j : Nat) : Int)] w fun e w' => e = .returned (N y) ∧ Below w.heap.size w w')
    (cx : ∀ w, Mm w [(g, modx n o s)] → Calls Tryd.prog 27 #[PT g 0, N y, N (f K)] w fun e w' => e = .returned (N x) ∧ Below w.heap.size w w') (w : World) (hm : Mm w [(g, modx n o s)]) :
    Calls Tryd.prog 31 #[PT g 0, N a, .int .i64 ((384 * K + j : Nat) : Int)] w fun e w' => e = .returned (N x) ∧ Below w.heap.size w w' := by
  have H0 : Hid (_ ∧ _) := ⟨hm, Below.refl w.heap.size w⟩
  clear hm
  have CO : Hid _ := co
  have CF : Hid _ := cf
  have F0 : Hid _ := f0
  clear co cf f0
  have CH : Hid _ := ch
  have CX : Hid _ := cx
  clear ch cx
  go_enter Tryd.func31, Tryd.ntmps31
  refine wp_seq ?_
  refine walk_seq 2 [.made (cells6 a) 24, .made zero6 24] (fun w' => Mm w' [(g, modx n o s)]) ?pre1 ?F1 ?hpre1 (fun γ => ?hF1) (by kernel_rfl) ?hL1 ?hS1 ?ho1 ?he1
  case hpre1 =>
    simp only [List.take_succ_cons, List.take_zero]
    exact rfl
  case hF1 =>
    simp only [fill, Kind.val, Act.put, List.setIfInBounds_toArray, List.set_cons_zero, List.set_cons_succ]
    exact rfl
  case hL1 => exact trivial
  case hS1 => exact fun w' hb => H0.out.1.below hb
  case ho1 =>
    refine AllOk.cons ?_ ?_
    · exact fun γ => ⟨rfl, fun w' => ex_box6 rfl rfl⟩
    refine AllOk.cons ?_ ?_
    · exact fun γ => ⟨rfl, fun w' => exec_made6 rfl⟩
    exact trivial
  intro γ w1 l hM hl
  have M1 : Mm w1 [(γ 0, cells6 a), (γ 1, zero6), (g, modx n o s)] := H0.out.1.grow hM (Nat.le_refl _) hl [0, 1] rfl (by decide)
  have B1 : Below w.heap.size w w1 := H0.out.2.trans (hM.below.mono H0.out.2.size)
  have o1_0 : Hid (w.heap.size ≤ γ 0) := Nat.le_trans H0.out.2.size (hM.fin (Nat.le_refl _) hl (i := 0) rfl).2.1
  have o1_1 : Hid (w.heap.size ≤ γ 1) := Nat.le_trans H0.out.2.size (hM.fin (Nat.le_refl _) hl (i := 1) rfl).2.1
  clear hM hl l
  generalize γ 0 = γ1_0 at M1 o1_0 ⊢
  generalize γ 1 = γ1_1 at M1 o1_1 ⊢
  clear γ
  have H1 : Hid (_ ∧ _) := ⟨M1, B1⟩
  clear M1 B1
  refine rest_at (l := []) rfl ?_
  refine rest_nil ?_
  refine then_normal ?_
  refine wp_seq ?_
  refine wp_block ?_
  refine loop_ghost (α := Nat) (fun k a' w' => ∃ s0 : Nat → Value, a' = ⟨#[PT g 0, N a, .int .i64 ((384 * (K - k) + j : Nat) : Int), undef, PT γ1_0 0, undef, PT γ1_1 0, s0 7, s0 8, s0 9, s0 10, s0 11, s0 12, s0 13, s0 14, undef, undef, undef, undef, undef, undef, undef, undef, undef, undef], []⟩ ∧ (Mm w' [(γ1_0, cells6 (f k)), (γ1_1, zero6), (g, modx n o s)] ∧ Below w.heap.size w w') ∧ k ≤ K) (fun k => K - k) 0 ?st0 ?rd0
  case st0 => exact ⟨(slotfn [undef, undef, undef, undef, undef, undef, undef, undef, undef, undef, undef, undef, undef, undef, undef]), rfl, ⟨H1.out.1.at0 (by rw [F0.out]), H1.out.2⟩, by omega⟩
  intro k a' w2 hI
  obtain ⟨s0, rfl, hMB, hk0⟩ := hI
  have H2 : Hid (_ ∧ _) := hMB
  clear hMB H1
  by_cases hlt : k < K
  · have hrd : True := trivial
    clear hrd
    refine wp_seq ?_
    refine wp_seq ?_
    refine walk_seq 2 [.quiet (.int .i64 ((384 * (K - k) + j : Nat) : Int)), .quiet (.bool true)] (fun w' => Mm w' [(γ1_0, cells6 (f k)), (γ1_1, zero6), (g, modx n o s)]) ?pre2 ?F2 ?hpre2 (fun γ => ?hF2) (by kernel_rfl) ?hL2 ?hS2 ?ho2 ?he2
    case hpre2 =>
      simp only [List.take_succ_cons, List.take_zero]
      exact rfl
    case hF2 =>
      simp only [fill, Kind.val, Act.put, List.setIfInBounds_toArray, List.set_cons_zero, List.set_cons_succ]
      exact rfl
    case hL2 => exact trivial
    case hS2 => exact fun w' hb => H2.out.1.below hb
    case ho2 =>
      refine AllOk.cons ?_ ?_
      · exact fun γ => ⟨rfl, fun w' _ => rfl⟩
      refine AllOk.cons ?_ ?_
      · (refine fun γ => ⟨rfl, fun w' h => ?_⟩; clear h; go_simp <;> omega)
      exact trivial
    intro γ w3 l hM hl
    have M3 : Mm w3 [(γ1_0, cells6 (f k)), (γ1_1, zero6), (g, modx n o s)] := H2.out.1.grow hM (Nat.le_refl _) hl [] rfl (by decide)
    have B3 : Below w.heap.size w w3 := H2.out.2.trans (hM.below.mono H2.out.2.size)
    clear hM hl l H2
    clear γ
    have H3 : Hid (_ ∧ _) := ⟨M3, B3⟩
    clear M3 B3
    refine rest_at (l := []) rfl ?_
    refine rest_nil ?_
    refine then_normal ?_
    refine wp_cond_true rfl ?_
    refine wp_skip ?_
    refine then_normal ?_
    refine wp_block ?_
    refine wp_seq ?_
    refine walk_any (by kernel_rfl) 4 [.quiet (PT g 0), .call (N 1), .quiet (N (f k)), .call (N (f (k + 1)))] (fun w' => Mm w' [(γ1_0, cells6 (f k)), (γ1_1, zero6), (g, modx n o s)]) ?pre3 ?F3 ?hpre3 (fun γ => ?hF3) (by kernel_rfl) ?hL3 ?hS3 ?ho3 ?he3
    case hpre3 =>
      simp only [List.take_succ_cons, List.take_zero]
      exact rfl
    case hF3 =>
      simp only [fill, Kind.val, Act.put, List.setIfInBounds_toArray, List.set_cons_zero, List.set_cons_succ]
      exact rfl
    case hL3 => exact trivial
    case hS3 => exact fun w' hb => H3.out.1.below hb
    case ho3 =>
      refine AllOk.cons ?_ ?_
      · exact fun γ => ⟨rfl, fun w' _ => rfl⟩
      refine AllOk.cons ?_ ?_
      · exact fun γ => ⟨rfl, fun w' h => ⟨11, #[.int .u64 1], exec_call rfl call11 rfl (by simp only [List.map_toArray, List.map_cons, List.map_nil]; rfl), CO.out w'⟩⟩
      refine AllOk.cons ?_ ?_
      · exact fun γ => ⟨rfl, fun w' h => ex_load6 h 0 rfl rfl rfl rfl⟩
      refine AllOk.cons ?_ ?_
      · exact fun γ => ⟨rfl, fun w' h => ⟨27, #[PT g 0, N 1, N (f k)], exec_call rfl call27 rfl (by simp only [List.map_toArray, List.map_cons, List.map_nil]; rfl), CF.out k w' (h.one 2 rfl)⟩⟩
      exact trivial
    intro γ w4 l hM hl
    have M4 : Mm w4 [(γ1_0, cells6 (f k)), (γ1_1, zero6), (g, modx n o s)] := H3.out.1.grow hM (Nat.le_refl _) hl [] rfl (by decide)
    have B4 : Below w.heap.size w w4 := H3.out.2.trans (hM.below.mono H3.out.2.size)
    clear hM hl l H3
    clear γ
    have H4 : Hid (_ ∧ _) := ⟨M4, B4⟩
    clear M4 B4
    refine rest_at (l := [4]) rfl ?_
    refine rest_store rfl rfl rfl (ex_store6 H4.out.1 0 rfl rfl rfl rfl (Nat.le_of_ble_eq_true rfl)) ?_
    have H5 : Hid (Mm (w4.setCells γ1_0 0 (cells6 (f (k + 1)))) [(γ1_0, cells6 (f (k + 1))), (γ1_1, zero6), (g, modx n o s)] ∧ Below w.heap.size w (w4.setCells γ1_0 0 (cells6 (f (k + 1))))) := ⟨H4.out.1.put 0 (off := 0) (vs := cells6 (f (k + 1))) rfl (Nat.le_of_ble_eq_true rfl), below_setCells _ o1_0.out _ _ _ H4.out.2⟩
    clear H4
    generalize hgw : World.setCells _ _ _ _ = w5 at H5 ⊢
    clear hgw
    refine rest_nil ?_
    refine then_normal ?_
    refine walk_seq 2 [.quiet (.int .i64 ((384 * (K - k) + j : Nat) : Int)), .quiet (.int .i64 ((384 * (K - (k + 1)) + j : Nat) : Int))] (fun w' => Mm w' [(γ1_0, cells6 (f (k + 1))), (γ1_1, zero6), (g, modx n o s)]) ?pre4 ?F4 ?hpre4 (fun γ => ?hF4) (by kernel_rfl) ?hL4 ?hS4 ?ho4 ?he4
    case hpre4 =>
      simp only [List.take_succ_cons, List.take_zero]
      exact rfl
    case hF4 =>
      simp only [fill, Kind.val, Act.put, List.setIfInBounds_toArray, List.set_cons_zero, List.set_cons_succ]
      exact rfl
    case hL4 => exact trivial
    case hS4 => exact fun w' hb => H5.out.1.below hb
    case ho4 =>
      refine AllOk.cons ?_ ?_
      · exact fun γ => ⟨rfl, fun w' _ => rfl⟩
      refine AllOk.cons ?_ ?_
      · (refine fun γ => ⟨rfl, fun w' h => ?_⟩; clear h; go_simp; rw [IntKind.wrap_i64]; omega)
      exact trivial
    intro γ w6 l hM hl
    have M6 : Mm w6 [(γ1_0, cells6 (f (k + 1))), (γ1_1, zero6), (g, modx n o s)] := H5.out.1.grow hM (Nat.le_refl _) hl [] rfl (by decide)
    have B6 : Below w.heap.size w w6 := H5.out.2.trans (hM.below.mono H5.out.2.size)
    clear hM hl l H5
    clear γ
    have H6 : Hid (_ ∧ _) := ⟨M6, B6⟩
    clear M6 B6
    refine rest_at (l := [2]) rfl ?_
    refine rest_set (d := 2) rfl rfl rfl rfl ?_
    simp only [Act.put, List.setIfInBounds_toArray, List.set_cons_zero, List.set_cons_succ]
    refine rest_nil ?_
    refine block_normal ?_
    refine then_normal ?_
    exact ⟨k + 1, ⟨(slotfn [undef, undef, undef, undef, undef, undef, undef, .int .i64 ((384 * (K - k) + j : Nat) : Int), .bool true, PT g 0, N 1, N (f k), N (f (k + 1)), .int .i64 ((384 * (K - k) + j : Nat) : Int), .int .i64 ((384 * (K - (k + 1)) + j : Nat) : Int)]), rfl, ⟨H6.out.1, H6.out.2⟩, by omega⟩, by omega⟩
  have hkK : k = K := by omega
  subst hkK
  refine wp_seq ?_
  refine wp_seq ?_
  refine walk_seq 2 [.quiet (.int .i64 ((384 * (k - k) + j : Nat) : Int)), .quiet (.bool false)] (fun w' => Mm w' [(γ1_0, cells6 (f k)), (γ1_1, zero6), (g, modx n o s)]) ?pre5 ?F5 ?hpre5 (fun γ => ?hF5) (by kernel_rfl) ?hL5 ?hS5 ?ho5 ?he5
  case hpre5 =>
    simp only [List.take_succ_cons, List.take_zero]
    exact rfl
  case hF5 =>
    simp only [fill, Kind.val, Act.put, List.setIfInBounds_toArray, List.set_cons_zero, List.set_cons_succ]
    exact rfl
  case hL5 => exact trivial
  case hS5 => exact fun w' hb => H2.out.1.below hb
  case ho5 =>
    refine AllOk.cons ?_ ?_
    · exact fun γ => ⟨rfl, fun w' _ => rfl⟩
    refine AllOk.cons ?_ ?_
    · (refine fun γ => ⟨rfl, fun w' h => ?_⟩; clear h; go_simp <;> omega)
    exact trivial
  intro γ w7 l hM hl
  have M7 : Mm w7 [(γ1_0, cells6 (f k)), (γ1_1, zero6), (g, modx n o s)] := H2.out.1.grow hM (Nat.le_refl _) hl [] rfl (by decide)
  have B7 : Below w.heap.size w w7 := H2.out.2.trans (hM.below.mono H2.out.2.size)
  clear hM hl l H2
  clear γ
  have H7 : Hid (_ ∧ _) := ⟨M7, B7⟩
  clear M7 B7
  refine rest_at (l := []) rfl ?_
  refine rest_nil ?_
  refine then_normal ?_
  refine wp_cond_false rfl ?_
  refine wp_exit ?_
  repeat refine then_exit ?_
  refine block_exit ?_
  refine then_normal ?_
  refine wp_seq ?_
  refine wp_seq ?_
  refine walk_seq 2 [.quiet (.int .i64 ((384 * (k - k) + j : Nat) : Int)), .quiet (.bool false)] (fun w' => Mm w' [(γ1_0, cells6 (f k)), (γ1_1, zero6), (g, modx n o s)]) ?pre6 ?F6 ?hpre6 (fun γ => ?hF6) (by kernel_rfl) ?hL6 ?hS6 ?ho6 ?he6
  case hpre6 =>
    simp only [List.take_succ_cons, List.take_zero]
    exact rfl
  case hF6 =>
    simp only [fill, Kind.val, Act.put, List.setIfInBounds_toArray, List.set_cons_zero, List.set_cons_succ]
    exact rfl
  case hL6 => exact trivial
  case hS6 => exact fun w' hb => H7.out.1.below hb
  case ho6 =>
    refine AllOk.cons ?_ ?_
    · exact fun γ => ⟨rfl, fun w' _ => rfl⟩
    refine AllOk.cons ?_ ?_
    · (refine fun γ => ⟨rfl, fun w' h => ?_⟩; clear h; go_simp <;> omega)
    exact trivial
  intro γ w8 l hM hl
  have M8 : Mm w8 [(γ1_0, cells6 (f k)), (γ1_1, zero6), (g, modx n o s)] := H7.out.1.grow hM (Nat.le_refl _) hl [] rfl (by decide)
  have B8 : Below w.heap.size w w8 := H7.out.2.trans (hM.below.mono H7.out.2.size)
  clear hM hl l H7
  clear γ
  have H8 : Hid (_ ∧ _) := ⟨M8, B8⟩
  clear M8 B8
  refine rest_at (l := []) rfl ?_
  refine rest_nil ?_
  refine then_normal ?_
  refine wp_cond_false rfl ?_
  refine wp_skip ?_
  refine then_normal ?_
  refine wp_seq ?_
  refine walk_any (by kernel_rfl) 7 [.quiet (PT g 0), .call (N 1), .quiet (.int .i64 ((384 * (k - k) + j : Nat) : Int)), .quiet (.int .i64 ((384 - j : Nat) : Int)), .call (N y), .quiet (N (f k)), .call (N x)] (fun w' => Mm w' [(γ1_0, cells6 (f k)), (γ1_1, zero6), (g, modx n o s)]) ?pre7 ?F7 ?hpre7 (fun γ => ?hF7) (by kernel_rfl) ?hL7 ?hS7 ?ho7 ?he7
  case hpre7 =>
    simp only [List.take_succ_cons, List.take_zero]
    exact rfl
  case hF7 =>
    simp only [fill, Kind.val, Act.put, List.setIfInBounds_toArray, List.set_cons_zero, List.set_cons_succ]
    exact rfl
  case hL7 => exact trivial
  case hS7 => exact fun w' hb => H8.out.1.below hb
  case ho7 =>
    refine AllOk.cons ?_ ?_
    · exact fun γ => ⟨rfl, fun w' _ => rfl⟩
    refine AllOk.cons ?_ ?_
    · exact fun γ => ⟨rfl, fun w' h => ⟨11, #[.int .u64 1], exec_call rfl call11 rfl (by simp only [List.map_toArray, List.map_cons, List.map_nil]; rfl), CO.out w'⟩⟩
    refine AllOk.cons ?_ ?_
    · exact fun γ => ⟨rfl, fun w' _ => rfl⟩
    refine AllOk.cons ?_ ?_
    · (refine fun γ => ⟨rfl, fun w' h => ?_⟩; clear h; go_simp; rw [IntKind.wrap_i64]; omega)
    refine AllOk.cons ?_ ?_
    · exact fun γ => ⟨rfl, fun w' h => ⟨34, #[N 1, .int .i64 ((384 - j : Nat) : Int)], exec_call rfl call34 rfl (by simp only [List.map_toArray, List.map_cons, List.map_nil]; rfl), CH.out w'⟩⟩
    refine AllOk.cons ?_ ?_
    · exact fun γ => ⟨rfl, fun w' h => ex_load6 h 0 rfl rfl rfl rfl⟩
    refine AllOk.cons ?_ ?_
    · exact fun γ => ⟨rfl, fun w' h => ⟨27, #[PT g 0, N y, N (f k)], exec_call rfl call27 rfl (by simp only [List.map_toArray, List.map_cons, List.map_nil]; rfl), CX.out w' (h.one 2 rfl)⟩⟩
    exact trivial
  intro γ w9 l hM hl
  have M9 : Mm w9 [(γ1_0, cells6 (f k)), (γ1_1, zero6), (g, modx n o s)] := H8.out.1.grow hM (Nat.le_refl _) hl [] rfl (by decide)
  have B9 : Below w.heap.size w w9 := H8.out.2.trans (hM.below.mono H8.out.2.size)
  clear hM hl l H8
  clear γ
  have H9 : Hid (_ ∧ _) := ⟨M9, B9⟩
  clear M9 B9
  refine rest_at (l := [7]) rfl ?_
  refine rest_store rfl rfl rfl (ex_store6 H9.out.1 1 rfl rfl rfl rfl (Nat.le_of_ble_eq_true rfl)) ?_
  have H10 : Hid (Mm (w9.setCells γ1_1 0 (cells6 x)) [(γ1_0, cells6 (f k)), (γ1_1, cells6 x), (g, modx n o s)] ∧ Below w.heap.size w (w9.setCells γ1_1 0 (cells6 x))) := ⟨H9.out.1.put 1 (off := 0) (vs := cells6 x) rfl (Nat.le_of_ble_eq_true rfl), below_setCells _ o1_1.out _ _ _ H9.out.2⟩
  clear H9
  generalize hgw : World.setCells _ _ _ _ = w10 at H10 ⊢
  clear hgw
  refine rest_nil ?_
  refine then_normal ?_
  refine wp_ret ?_
  repeat (first | refine then_ret ?_ | refine block_ret ?_)
  have c0 := H10.out.1.get 1 rfl 0 rfl
  have c1 := H10.out.1.get 1 rfl 1 rfl
  have c2 := H10.out.1.get 1 rfl 2 rfl
  have c3 := H10.out.1.get 1 rfl 3 rfl
  have c4 := H10.out.1.get 1 rfl 4 rfl
  have c5 := H10.out.1.get 1 rfl 5 rfl
  refine bodyPost_ret (v := N x) (by simp [results, Tryd.results31, go_sem, *]) rfl ?_
  exact ⟨rfl, H10.out.2⟩

theorem dbp_any {g n : Nat} (ok : Ok n) {a i : Nat} (ha : a < n) (hi : i < 768) (w : World) (hm : Mm w [(g, modc n)]) :
    Calls Tryd.prog 31 #[PT g 0, N a, .int .i64 ((i : Nat) : Int)] w fun e w' => e = .returned (N (dv n a i)) ∧ Below w.heap.size w w' := by
  have hdm := Nat.div_add_mod i 384
  generalize i / 384 = K at hdm
  have hjl := Nat.mod_lt i (show 0 < 384 by decide)
  generalize i % 384 = j at hdm hjl
  have hl : ∀ k, a * ri n ^ k % n < n := fun k => Nat.mod_lt _ ok.pos
  have cf : ∀ k w, Mm w [(g, modc n)] → Calls Tryd.prog 27 #[PT g 0, N 1, N (a * ri n ^ k % n)] w fun e w' => e = .returned (N (a * ri n ^ (k + 1) % n)) ∧ Below w.heap.size w w' := fun k w hm => by
    have h := product_any g n (big % n) (big * big % n) 1 (a * ri n ^ k % n) ok (small_big 1 (by decide)) (hl k) w hm
    have e : mont n 1 (a * ri n ^ k % n) = a * ri n ^ (k + 1) % n := by
      refine Cg.eq_mod (n := n) ((mont_cg n _ _).trans ?_) (mont_lt _ _ _ ok.pos)
      rw [Nat.one_mul, Nat.pow_succ, ← Nat.mul_assoc]
      exact (Cg.mod _ _).mulR _
    rw [e] at h
    exact h
  have f0 : a * ri n ^ 0 % n = a := by rw [Nat.pow_zero, Nat.mul_one, Nat.mod_eq_of_lt ha]
  rw [← hdm]
  have er : ∀ K, ri n ^ K = hf n ^ (384 * K) := fun K => by
    unfold ri
    obtain ⟨e, he⟩ : ∃ e, e = 64 * 6 := ⟨_, rfl⟩
    rw [← he, show 384 * K = e * K by rw [he], Nat.pow_mul]
  by_cases hj : j = 0
  · have h := dbp_1 g n _ _ a K j (by omega) hj (fun k => a * ri n ^ k % n) f0 (fun w => of_any 1 (by decide) w) cf w hm
    have e : dv n a (384 * K + j) = a * ri n ^ K % n := by unfold dv; rw [hj, Nat.add_zero, er]
    rw [e]
    exact h
  · have ch := fun w => shift_up 1 (384 - j) (by omega) w
    have hy : 1 * 2 ^ (384 - j) % big = 2 ^ (384 - j) := by
      rw [Nat.one_mul]
      refine Nat.mod_eq_of_lt ?_
      obtain ⟨m, hm, e⟩ := big_pow
      rw [e]
      exact Nat.pow_lt_pow_right (by decide) (by omega)
    rw [hy] at ch
    have hyb : 2 ^ (384 - j) < big := by rw [← hy]; exact Nat.mod_lt _ big_pos
    have cx := fun w hm => product_any g n (big % n) (big * big % n) (2 ^ (384 - j)) (a * ri n ^ K % n) ok hyb (hl K) w hm
    have e : mont n (2 ^ (384 - j)) (a * ri n ^ K % n) = dv n a (384 * K + j) := by
      refine Cg.eq_mod (n := n) ((mont_cg n _ _).trans ?_) (mont_lt _ _ _ ok.pos)
      have h1 := ((Cg.mod n (a * ri n ^ K)).mulL (2 ^ (384 - j))).mulR (ri n)
      refine h1.trans ?_
      have h2 := (hf_pow n (384 - j) ok.odd).mulL (a * ri n ^ K * hf n ^ j)
      rw [Nat.mul_one] at h2
      have e1 : 2 ^ (384 - j) * (a * ri n ^ K) * ri n = a * ri n ^ K * hf n ^ j * (2 ^ (384 - j) * hf n ^ (384 - j)) := by
        have e2 : ri n = hf n ^ j * hf n ^ (384 - j) := by
          have := er 1
          rw [Nat.pow_one, Nat.mul_one] at this
          rw [this, ← Nat.pow_add]
          congr 1
          omega
        generalize ri n ^ K = z
        rw [e2]
        simp only [Nat.mul_assoc, Nat.mul_comm, Nat.mul_left_comm]
      rw [e1]
      refine h2.trans ?_
      rw [er, Nat.mul_assoc, ← Nat.pow_add]
      exact Cg.refl _ _
    rw [e] at cx
    exact dbp_2 g n _ _ a K j _ _ (by omega) (by omega) hjl (fun k => a * ri n ^ k % n) f0 (fun w => of_any 1 (by decide) w) cf ch cx w hm
end Rg
end Go.Proofs.YtoagmdgmbkpghabDoor
