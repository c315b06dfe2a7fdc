/- down, Wide -/
import Derived.Test.YtoagmdgmbkpghabDoorL6
namespace Go.Proofs.YtoagmdgmbkpghabDoor
open Go.RowKit
namespace Rg

/-- The rounds of down. -/
def drun (n wr a : Nat) : Nat → Nat
  | 0 => a
  | k + 1 => (drun n wr a k + mt (drun n wr a k) wr * n) / 18446744073709551616
theorem drun_bd (n wr a : Nat) : ∀ k, drun n wr a k ≤ a / 2 ^ (64 * k) + n
  | 0 => by rw [Nat.mul_zero, Nat.pow_zero, Nat.div_one]; exact Nat.le_add_right _ _
  | k + 1 => by
    have ih := drun_bd n wr a k
    have ht := mt_lt (drun n wr a k) wr
    show (drun n wr a k + mt (drun n wr a k) wr * n) / 18446744073709551616 ≤ _
    rw [pow_step, ← Nat.div_div_eq_div_mul]
    have h1 : mt (drun n wr a k) wr * n ≤ 18446744073709551615 * n := Nat.mul_le_mul (by omega) (Nat.le_refl n)
    generalize mt (drun n wr a k) wr * n = p at h1
    omega
theorem drun_lt (n wr a : Nat) (ha : a < big) (hn : n < big) : ∀ k, drun n wr a k < big
  | 0 => ha
  | k + 1 => by
    have ih := drun_lt n wr a ha hn k
    have ht := mt_lt (drun n wr a k) wr
    show (drun n wr a k + mt (drun n wr a k) wr * n) / 18446744073709551616 < _
    rw [Nat.div_lt_iff_lt_mul (by decide)]
    have h1 : mt (drun n wr a k) wr * n ≤ 18446744073709551615 * n := Nat.mul_le_mul (by omega) (Nat.le_refl n)
    omega
theorem drun_cg (n wr a : Nat) (h : wr * n % 18446744073709551616 = 18446744073709551615) : ∀ k, Cg n (drun n wr a k * 2 ^ (64 * k)) a
  | 0 => by rw [Nat.mul_zero, Nat.pow_zero, Nat.mul_one]; exact Cg.refl _ _
  | k + 1 => by
    have ih := drun_cg n wr a h k
    have he := mt_even n wr (drun n wr a k) h
    have e : drun n wr a (k + 1) * 18446744073709551616 = drun n wr a k + mt (drun n wr a k) wr * n := by
      show (drun n wr a k + mt (drun n wr a k) wr * n) / 18446744073709551616 * 18446744073709551616 = _
      omega
    rw [pow_step, ← Nat.mul_assoc, Nat.mul_right_comm, e, Nat.add_mul]
    refine Cg.trans (b := drun n wr a k * 2 ^ (64 * k) + 0) (Cg.addL _ ?_) (by rw [Nat.add_zero]; exact ih)
    rw [Nat.mul_right_comm]
    exact Cg.zero n _
theorem drun_top (n S t : Nat) (hS : S < big) (hn : n < big) : cc S t n 6 = wn ((S + t * n) / 18446744073709551616) 5 ∨ ¬ (S + t * n) / 18446744073709551616 < big := by
  by_cases hr : (S + t * n) / 18446744073709551616 < big
  · left
    obtain ⟨j, hj⟩ : ∃ j, j = 5 := ⟨5, rfl⟩
    have hb := big_j j hj
    have e6 : cc S t n 6 = cc S t n (j + 1) := by rw [hj]
    rw [← hj, e6]
    have h := wd_last ((S + t * n) / 18446744073709551616) j (by rw [← hb]; exact hr)
    rw [wd_wn] at h
    have h' : wn ((S + t * n) / 18446744073709551616) j = (S + t * n) / 18446744073709551616 / 2 ^ (64 * j) := by omega
    rw [h', Nat.div_div_eq_div_mul, Nat.mul_comm 18446744073709551616, ← pow_step]
    unfold cc
    rw [← hb, Nat.mod_eq_of_lt hS, Nat.mod_eq_of_lt hn]
  · exact Or.inr hr
theorem d_word (Y k : Nat) : wd (Y / 18446744073709551616) k = wd Y (k + 1) := by
  unfold wd
  rw [Nat.div_div_eq_div_mul, Nat.mul_comm 18446744073709551616, ← pow_step]
set_option maxHeartbeats 2000000 in
set_option maxRecDepth 100000 in
theorem down_any (g n o s a : Nat) (ok : Ok n) (ha : a < big) (w : World) (hm : Mm w [(g, modx n o s)]) :
    Calls Tryd.prog 35 #[PT g 0, N a] w fun e w' => e = .returned (N (drun n (wrapN n) a 6)) ∧ Below w.heap.size w w' := by
  have H0 : Hid (_ ∧ _) := ⟨hm, Below.refl w.heap.size w⟩
  clear hm
  have HA : Hid _ := ha
  clear ha
  go_enter Tryd.func35, Tryd.ntmps35
  refine wp_seq ?_
  refine walk_seq 2 [.made (cells6 a) 24, .made zero6 24] (fun w' => Mm w' [(g, modx n o s)]) ?pre1 ?F1 ?hpre1 (fun γ => ?hF1) (by kernel_rfl) ?hL1 ?hS1 ?ho1 ?he1
  case hpre1 =>
    simp only [List.take_succ_cons, List.take_zero]
    exact rfl
  case hF1 =>
    simp only [fill, Kind.val, Act.put, List.setIfInBounds_toArray, List.set_cons_zero, List.set_cons_succ]
    exact rfl
  case hL1 => exact trivial
  case hS1 => exact fun w' hb => H0.out.1.below hb
  case ho1 =>
    refine AllOk.cons ?_ ?_
    · exact fun γ => ⟨rfl, fun w' => ex_box6 rfl rfl⟩
    refine AllOk.cons ?_ ?_
    · exact fun γ => ⟨rfl, fun w' => exec_made6 rfl⟩
    exact trivial
  intro γ w1 l hM hl
  have M1 : Mm w1 [(γ 0, cells6 a), (γ 1, zero6), (g, modx n o s)] := H0.out.1.grow hM (Nat.le_refl _) hl [0, 1] rfl (by decide)
  have B1 : Below w.heap.size w w1 := H0.out.2.trans (hM.below.mono H0.out.2.size)
  have o1_0 : Hid (w.heap.size ≤ γ 0) := Nat.le_trans H0.out.2.size (hM.fin (Nat.le_refl _) hl (i := 0) rfl).2.1
  have o1_1 : Hid (w.heap.size ≤ γ 1) := Nat.le_trans H0.out.2.size (hM.fin (Nat.le_refl _) hl (i := 1) rfl).2.1
  clear hM hl l
  generalize γ 0 = γ1_0 at M1 o1_0 ⊢
  generalize γ 1 = γ1_1 at M1 o1_1 ⊢
  clear γ
  have H1 : Hid (_ ∧ _) := ⟨M1, B1⟩
  clear M1 B1
  refine rest_at (l := []) rfl ?_
  refine rest_nil ?_
  refine then_normal ?_
  refine wp_seq ?_
  refine wp_seq ?_
  refine walk_seq 1 [.quiet (.int .i64 0)] (fun w' => Mm w' [(γ1_0, cells6 a), (γ1_1, zero6), (g, modx n o s)]) ?pre2 ?F2 ?hpre2 (fun γ => ?hF2) (by kernel_rfl) ?hL2 ?hS2 ?ho2 ?he2
  case hpre2 =>
    simp only [List.take_succ_cons, List.take_zero]
    exact rfl
  case hF2 =>
    simp only [fill, Kind.val, Act.put, List.setIfInBounds_toArray, List.set_cons_zero, List.set_cons_succ]
    exact rfl
  case hL2 => exact trivial
  case hS2 => exact fun w' hb => H1.out.1.below hb
  case ho2 =>
    refine AllOk.cons ?_ ?_
    · exact fun γ => ⟨rfl, fun w' _ => rfl⟩
    exact trivial
  intro γ w2 l hM hl
  have M2 : Mm w2 [(γ1_0, cells6 a), (γ1_1, zero6), (g, modx n o s)] := H1.out.1.grow hM (Nat.le_refl _) hl [] rfl (by decide)
  have B2 : Below w.heap.size w w2 := H1.out.2.trans (hM.below.mono H1.out.2.size)
  clear hM hl l H1
  clear γ
  have H2 : Hid (_ ∧ _) := ⟨M2, B2⟩
  clear M2 B2
  refine rest_at (l := []) rfl ?_
  refine rest_nil ?_
  refine then_normal ?_
  refine wp_block ?_
  refine loop_ghost (α := Nat) (fun i a' w' => ∃ s0 : Nat → Value, a' = ⟨#[PT g 0, N a, undef, PT γ1_0 0, PT γ1_1 0, s0 5, s0 6, s0 7, s0 8, .int .i64 ((i : Nat) : Int), s0 10, s0 11, s0 12, s0 13, s0 14, s0 15, s0 16, s0 17, s0 18, s0 19, s0 20, s0 21, s0 22, s0 23, s0 24, s0 25, s0 26, s0 27, s0 28, s0 29, s0 30, s0 31, s0 32, s0 33, s0 34, s0 35, s0 36, s0 37, s0 38, s0 39, s0 40, s0 41, s0 42, s0 43, s0 44, s0 45, s0 46, s0 47, s0 48, s0 49, s0 50, s0 51, s0 52, s0 53, s0 54, undef], []⟩ ∧ (Mm w' [(γ1_0, cells6 (drun n (wrapN n) a i)), (γ1_1, zero6), (g, modx n o s)] ∧ Below w.heap.size w w') ∧ i ≤ 6) (fun i => 6 - i) 0 ?st0 ?rd0
  case st0 => exact ⟨(slotfn [undef, undef, undef, undef, undef, undef, undef, undef, undef, undef, undef, undef, undef, undef, undef, undef, undef, undef, undef, undef, undef, undef, undef, undef, undef, undef, undef, undef, undef, undef, undef, undef, undef, undef, undef, undef, undef, undef, undef, undef, undef, undef, undef, undef, undef, undef, undef, undef, undef, undef, undef, undef, undef, undef, undef]), rfl, ⟨H2.out.1.at0 rfl, H2.out.2⟩, by omega⟩
  intro i a' w3 hI
  obtain ⟨s0, rfl, hMB, hk0⟩ := hI
  have H3 : Hid (_ ∧ _) := hMB
  clear hMB H2
  by_cases hlt : i < 6
  · have hrd : True := trivial
    clear hrd
    have hS2 := drun_lt n (wrapN n) a HA.out ok.big i
    have hZ2 := drun_lt n (wrapN n) a HA.out ok.big (i + 1)
    obtain ⟨S, hS⟩ : ∃ S, S = drun n (wrapN n) a i := ⟨_, rfl⟩
    obtain ⟨t, ht⟩ : ∃ t, t = mt S (wrapN n) := ⟨_, rfl⟩
    obtain ⟨Y, hY⟩ : ∃ Y, Y = S + t * n := ⟨_, rfl⟩
    obtain ⟨Z, hZ⟩ : ∃ Z, Z = drun n (wrapN n) a (i + 1) := ⟨_, rfl⟩
    have hZ1 : Z = Y / 18446744073709551616 := by rw [hZ, hY, ht, hS]; rfl
    have htl : t < 18446744073709551616 := by rw [ht]; exact mt_lt _ _
    rw [← hS] at hS2
    rw [← hZ] at hZ2
    have e3 : IntKind.u64.wrap (wd S 0 * wrapZ (wd n 0)) = (t : Nat) := by
      rw [IntKind.wrap_u64, ← wrapN_cast, ht, wd_wn]
      unfold mt wn
      rw [Nat.mul_zero, Nat.pow_zero, Nat.div_one, ← Int.natCast_mul]; rfl
    have e5 : ((cc S t n 6 : Nat) : Int) = wd Z 5 := by
      rcases drun_top n S t hS2 ok.big with h | h
      · rw [← hY, ← hZ1] at h
        rw [wd_wn, ← h]
      · rw [← hY, ← hZ1] at h
        exact absurd hZ2 h
    have e6 : ∀ k, k < 5 → wd Z k = wd Y (k + 1) := fun k _ => by rw [hZ1, d_word]
    have cB : ∀ m, ∀ w, Calls Tryd.prog 40 #[.int .u64 ((t : Nat) : Int), .int .u64 (wd n m), .int .u64 (wd S m), .int .u64 ((cc S t n m : Nat) : Int)] w fun e w' => e = .returned (.tuple #[.int .u64 (wd Y m), .int .u64 ((cc S t n (m + 1) : Nat) : Int)]) ∧ Below w.heap.size w w' := fun m w => by
      have h := mulAddM_any ((t : Nat) : Int) (wd n m) (wd S m) ((cc S t n m : Nat) : Int) (Int.natCast_nonneg _) (by omega) (wd_bd _ _).1 (wd_bd _ _).2 (wd_bd _ _).1 (wd_bd _ _).2 (Int.natCast_nonneg _) (by have := cc_lt S t n m htl; omega) w
      rw [cc_lo, cc_hi, ← hY] at h
      exact h.mono fun e w2 ⟨h1, h2⟩ => ⟨h1, h2 ▸ Below.refl _ _⟩
    have cB0 := cB 0
    rw [cc_zero, Int.natCast_zero] at cB0
    have CB : Hid _ := cB
    have CB0 : Hid _ := cB0
    have E6 : Hid _ := e6
    have E5 : Hid _ := e5
    have HZ : Hid _ := hZ
    rw [← hS] at H3
    clear cB cB0 e6 e5 hZ hZ1 hZ2 hS hS2 ht hY htl
    refine wp_seq ?_
    refine walk_seq 1 [.quiet (.bool true)] (fun w' => Mm w' [(γ1_0, cells6 S), (γ1_1, zero6), (g, modx n o s)]) ?pre3 ?F3 ?hpre3 (fun γ => ?hF3) (by kernel_rfl) ?hL3 ?hS3 ?ho3 ?he3
    case hpre3 =>
      simp only [List.take_succ_cons, List.take_zero]
      exact rfl
    case hF3 =>
      simp only [fill, Kind.val, Act.put, List.setIfInBounds_toArray, List.set_cons_zero, List.set_cons_succ]
      exact rfl
    case hL3 => exact trivial
    case hS3 => exact fun w' hb => H3.out.1.below hb
    case ho3 =>
      refine AllOk.cons ?_ ?_
      · (refine fun γ => ⟨rfl, fun w' h => ?_⟩; clear h; go_simp <;> omega)
      exact trivial
    intro γ w4 l hM hl
    have M4 : Mm w4 [(γ1_0, cells6 S), (γ1_1, zero6), (g, modx n o s)] := H3.out.1.grow hM (Nat.le_refl _) hl [] rfl (by decide)
    have B4 : Below w.heap.size w w4 := H3.out.2.trans (hM.below.mono H3.out.2.size)
    clear hM hl l H3
    clear γ
    have H4 : Hid (_ ∧ _) := ⟨M4, B4⟩
    clear M4 B4
    refine rest_at (l := []) rfl ?_
    refine rest_nil ?_
    refine then_normal ?_
    refine wp_seq ?_
    refine wp_cond_true rfl ?_
    refine wp_skip ?_
    refine then_normal ?_
    refine wp_seq ?_
    refine wp_block ?_
    refine wp_seq ?_
    refine walk_any (by kernel_rfl) 8 [.quiet (PT γ1_0 0), .quiet (.int .u64 (wd S 0)), .quiet (PT g 0), .quiet (PT g 0), .quiet (PT g 6), .quiet (.int .u64 (wrapZ (wd n 0))), .quiet (.int .u64 ((t : Nat) : Int)), .quiet (.int .u64 ((t : Nat) : Int))] (fun w' => Mm w' [(γ1_0, cells6 S), (γ1_1, zero6), (g, modx n o s)]) ?pre4 ?F4 ?hpre4 (fun γ => ?hF4) (by kernel_rfl) ?hL4 ?hS4 ?ho4 ?he4
    case hpre4 =>
      simp only [List.take_succ_cons, List.take_zero]
      exact rfl
    case hF4 =>
      simp only [fill, Kind.val, Act.put, List.setIfInBounds_toArray, List.set_cons_zero, List.set_cons_succ]
      exact rfl
    case hL4 => exact trivial
    case hS4 => exact fun w' hb => H4.out.1.below hb
    case ho4 =>
      refine AllOk.cons ?_ ?_
      · (refine fun γ => ⟨rfl, fun w' h => ?_⟩; clear h; go_simp)
      refine AllOk.cons ?_ ?_
      · exact fun γ => ⟨rfl, fun w' h => ex_load1 h 0 rfl rfl rfl rfl⟩
      refine AllOk.cons ?_ ?_
      · exact fun γ => ⟨rfl, fun w' _ => rfl⟩
      refine AllOk.cons ?_ ?_
      · (refine fun γ => ⟨rfl, fun w' h => ?_⟩; clear h; go_simp)
      refine AllOk.cons ?_ ?_
      · (refine fun γ => ⟨rfl, fun w' h => ?_⟩; clear h; go_simp)
      refine AllOk.cons ?_ ?_
      · exact fun γ => ⟨rfl, fun w' h => ex_load1 h 2 rfl rfl rfl rfl⟩
      refine AllOk.cons ?_ ?_
      · (refine fun γ => ⟨rfl, fun w' h => ?_⟩; clear h; go_simp)
      refine AllOk.cons ?_ ?_
      · exact fun γ => ⟨rfl, fun w' _ => rfl⟩
      exact trivial
    intro γ w5 l hM hl
    have M5 : Mm w5 [(γ1_0, cells6 S), (γ1_1, zero6), (g, modx n o s)] := H4.out.1.grow hM (Nat.le_refl _) hl [] rfl (by decide)
    have B5 : Below w.heap.size w w5 := H4.out.2.trans (hM.below.mono H4.out.2.size)
    clear hM hl l H4
    clear γ
    have H5 : Hid (_ ∧ _) := ⟨M5, B5⟩
    clear M5 B5
    refine rest_at (l := []) rfl ?_
    refine rest_nil ?_
    refine then_normal ?_
    refine wp_seq ?_
    refine walk_any (by kernel_rfl) 14 [.quiet (.int .u64 ((t : Nat) : Int)), .quiet (PT g 0), .quiet (PT g 0), .quiet (PT g 0), .quiet (PT g 0), .quiet (.int .u64 (wd n 0)), .quiet (PT γ1_0 0), .quiet (.int .u64 (wd S 0)), .call (.tuple #[.int .u64 (wd Y 0), .int .u64 ((cc S t n (0 + 1) : Nat) : Int)]), .quiet (.tuple #[.int .u64 (wd Y 0), .int .u64 ((cc S t n (0 + 1) : Nat) : Int)]), .quiet (.int .u64 (wd Y 0)), .quiet (.int .u64 ((cc S t n (0 + 1) : Nat) : Int)), .quiet (.int .u64 (wd Y 0)), .quiet (.int .u64 ((cc S t n (0 + 1) : Nat) : Int))] (fun w' => Mm w' [(γ1_0, cells6 S), (γ1_1, zero6), (g, modx n o s)]) ?pre5 ?F5 ?hpre5 (fun γ => ?hF5) (by kernel_rfl) ?hL5 ?hS5 ?ho5 ?he5
    case hpre5 =>
      simp only [List.take_succ_cons, List.take_zero]
      exact rfl
    case hF5 =>
      simp only [fill, Kind.val, Act.put, List.setIfInBounds_toArray, List.set_cons_zero, List.set_cons_succ]
      exact rfl
    case hL5 => exact trivial
    case hS5 => exact fun w' hb => H5.out.1.below hb
    case ho5 =>
      refine AllOk.cons ?_ ?_
      · exact fun γ => ⟨rfl, fun w' _ => rfl⟩
      refine AllOk.cons ?_ ?_
      · exact fun γ => ⟨rfl, fun w' _ => rfl⟩
      refine AllOk.cons ?_ ?_
      · (refine fun γ => ⟨rfl, fun w' h => ?_⟩; clear h; go_simp)
      refine AllOk.cons ?_ ?_
      · (refine fun γ => ⟨rfl, fun w' h => ?_⟩; clear h; go_simp)
      refine AllOk.cons ?_ ?_
      · (refine fun γ => ⟨rfl, fun w' h => ?_⟩; clear h; go_simp)
      refine AllOk.cons ?_ ?_
      · exact fun γ => ⟨rfl, fun w' h => ex_load1 h 2 rfl rfl rfl rfl⟩
      refine AllOk.cons ?_ ?_
      · (refine fun γ => ⟨rfl, fun w' h => ?_⟩; clear h; go_simp)
      refine AllOk.cons ?_ ?_
      · exact fun γ => ⟨rfl, fun w' h => ex_load1 h 0 rfl rfl rfl rfl⟩
      refine AllOk.cons ?_ ?_
      · exact fun γ => ⟨rfl, fun w' h => ⟨40, #[.int .u64 ((t : Nat) : Int), .int .u64 (wd n 0), .int .u64 (wd S 0), .int .u64 0], exec_call rfl call40 rfl (by simp only [List.map_toArray, List.map_cons, List.map_nil]; rfl), CB0.out w'⟩⟩
      refine AllOk.cons ?_ ?_
      · exact fun γ => ⟨rfl, fun w' _ => rfl⟩
      refine AllOk.cons ?_ ?_
      · (refine fun γ => ⟨rfl, fun w' h => ?_⟩; clear h; go_simp)
      refine AllOk.cons ?_ ?_
      · (refine fun γ => ⟨rfl, fun w' h => ?_⟩; clear h; go_simp)
      refine AllOk.cons ?_ ?_
      · exact fun γ => ⟨rfl, fun w' _ => rfl⟩
      refine AllOk.cons ?_ ?_
      · exact fun γ => ⟨rfl, fun w' _ => rfl⟩
      exact trivial
    intro γ w6 l hM hl
    have M6 : Mm w6 [(γ1_0, cells6 S), (γ1_1, zero6), (g, modx n o s)] := H5.out.1.grow hM (Nat.le_refl _) hl [] rfl (by decide)
    have B6 : Below w.heap.size w w6 := H5.out.2.trans (hM.below.mono H5.out.2.size)
    clear hM hl l H5
    clear γ
    have H6 : Hid (_ ∧ _) := ⟨M6, B6⟩
    clear M6 B6
    refine rest_at (l := []) rfl ?_
    refine rest_nil ?_
    refine then_normal ?_
    refine wp_seq ?_
    refine wp_seq ?_
    refine walk_seq 1 [.quiet (.int .i64 1)] (fun w' => Mm w' [(γ1_0, cells6 S), (γ1_1, zero6), (g, modx n o s)]) ?pre6 ?F6 ?hpre6 (fun γ => ?hF6) (by kernel_rfl) ?hL6 ?hS6 ?ho6 ?he6
    case hpre6 =>
      simp only [List.take_succ_cons, List.take_zero]
      exact rfl
    case hF6 =>
      simp only [fill, Kind.val, Act.put, List.setIfInBounds_toArray, List.set_cons_zero, List.set_cons_succ]
      exact rfl
    case hL6 => exact trivial
    case hS6 => exact fun w' hb => H6.out.1.below hb
    case ho6 =>
      refine AllOk.cons ?_ ?_
      · exact fun γ => ⟨rfl, fun w' _ => rfl⟩
      exact trivial
    intro γ w7 l hM hl
    have M7 : Mm w7 [(γ1_0, cells6 S), (γ1_1, zero6), (g, modx n o s)] := H6.out.1.grow hM (Nat.le_refl _) hl [] rfl (by decide)
    have B7 : Below w.heap.size w w7 := H6.out.2.trans (hM.below.mono H6.out.2.size)
    clear hM hl l H6
    clear γ
    have H7 : Hid (_ ∧ _) := ⟨M7, B7⟩
    clear M7 B7
    refine rest_at (l := []) rfl ?_
    refine rest_nil ?_
    refine then_normal ?_
    refine wp_block ?_
    refine loop_ghost (α := Nat) (fun m a' w' => ∃ s2 : Nat → Value, a' = ⟨#[PT g 0, N a, undef, PT γ1_0 0, PT γ1_1 0, .int .u64 ((t : Nat) : Int), .int .u64 (wd Y 0), .int .u64 ((cc S t n (m + 1) : Nat) : Int), .int .i64 ((m + 1 : Nat) : Int), .int .i64 ((i : Nat) : Int), .bool true, PT γ1_0 0, .int .u64 (wd S 0), PT g 0, PT g 0, PT g 6, .int .u64 (wrapZ (wd n 0)), .int .u64 ((t : Nat) : Int), .tuple #[.int .u64 (wd Y 0), .int .u64 ((cc S t n (0 + 1) : Nat) : Int)], .int .u64 ((t : Nat) : Int), PT g 0, PT g 0, PT g 0, PT g 0, .int .u64 (wd n 0), PT γ1_0 0, .int .u64 (wd S 0), .tuple #[.int .u64 (wd Y 0), .int .u64 ((cc S t n (0 + 1) : Nat) : Int)], .int .u64 (wd Y 0), .int .u64 ((cc S t n (0 + 1) : Nat) : Int), s2 30, s2 31, s2 32, s2 33, s2 34, s2 35, s2 36, s2 37, s2 38, s2 39, s2 40, s2 41, s2 42, s2 43, s2 44, s2 45, s2 46, s2 47, s2 48, s2 49, s2 50, s2 51, s0 52, s0 53, s0 54, undef], []⟩ ∧ (Mm w' [(γ1_0, rowc (inn S Y (m + 1))), (γ1_1, zero6), (g, modx n o s)] ∧ Below w.heap.size w w') ∧ m ≤ 5) (fun m => 5 - m) 0 ?st2 ?rd2
    case st2 => exact ⟨(slotfn [undef, undef, undef, undef, undef, undef, undef, undef, undef, undef, undef, undef, undef, undef, undef, undef, undef, undef, undef, undef, undef, undef, undef, undef, undef, undef, undef, undef, undef, undef, s0 30, s0 31, s0 32, s0 33, s0 34, s0 35, s0 36, s0 37, s0 38, s0 39, s0 40, s0 41, s0 42, s0 43, s0 44, s0 45, s0 46, s0 47, s0 48, s0 49, s0 50, s0 51]), rfl, ⟨H7.out.1, H7.out.2⟩, by omega⟩
    intro m a' w8 hI
    obtain ⟨s2, rfl, hMB, hk2⟩ := hI
    have H8 : Hid (_ ∧ _) := hMB
    clear hMB H7
    by_cases hlt2 : m < 5
    · have hrd : True := trivial
      clear hrd
      have hm6 : m + 1 < 6 := by omega
      refine wp_seq ?_
      refine wp_seq ?_
      refine walk_seq 2 [.quiet (.int .i64 ((m + 1 : Nat) : Int)), .quiet (.bool true)] (fun w' => Mm w' [(γ1_0, rowc (inn S Y (m + 1))), (γ1_1, zero6), (g, modx n o s)]) ?pre7 ?F7 ?hpre7 (fun γ => ?hF7) (by kernel_rfl) ?hL7 ?hS7 ?ho7 ?he7
      case hpre7 =>
        simp only [List.take_succ_cons, List.take_zero]
        exact rfl
      case hF7 =>
        simp only [fill, Kind.val, Act.put, List.setIfInBounds_toArray, List.set_cons_zero, List.set_cons_succ]
        exact rfl
      case hL7 => exact trivial
      case hS7 => exact fun w' hb => H8.out.1.below hb
      case ho7 =>
        refine AllOk.cons ?_ ?_
        · exact fun γ => ⟨rfl, fun w' _ => rfl⟩
        refine AllOk.cons ?_ ?_
        · (refine fun γ => ⟨rfl, fun w' h => ?_⟩; clear h; go_simp <;> omega)
        exact trivial
      intro γ w9 l hM hl
      have M9 : Mm w9 [(γ1_0, rowc (inn S Y (m + 1))), (γ1_1, zero6), (g, modx n o s)] := H8.out.1.grow hM (Nat.le_refl _) hl [] rfl (by decide)
      have B9 : Below w.heap.size w w9 := H8.out.2.trans (hM.below.mono H8.out.2.size)
      clear hM hl l H8
      clear γ
      have H9 : Hid (_ ∧ _) := ⟨M9, B9⟩
      clear M9 B9
      refine rest_at (l := []) rfl ?_
      refine rest_nil ?_
      refine then_normal ?_
      refine wp_cond_true rfl ?_
      refine wp_skip ?_
      refine then_normal ?_
      refine wp_seq ?_
      refine wp_block ?_
      refine walk_put (by kernel_rfl) 18 [16] [.quiet (.int .i64 ((m + 1 : Nat) : Int)), .quiet (.int .i64 ((m : Nat) : Int)), .quiet (.int .u64 ((t : Nat) : Int)), .quiet (PT g 0), .quiet (.int .i64 ((m + 1 : Nat) : Int)), .quiet (PT g 0), .quiet (PT g 0), .quiet (PT g (0 + (m + 1))), .quiet (.int .u64 (wd n (m + 1))), .quiet (.int .i64 ((m + 1 : Nat) : Int)), .quiet (PT γ1_0 (0 + (m + 1))), .quiet (.int .u64 (wd S (m + 1))), .quiet (.int .u64 ((cc S t n (m + 1) : Nat) : Int)), .call (.tuple #[.int .u64 (wd Y (m + 1)), .int .u64 ((cc S t n (m + 1 + 1) : Nat) : Int)]), .quiet (.tuple #[.int .u64 (wd Y (m + 1)), .int .u64 ((cc S t n (m + 1 + 1) : Nat) : Int)]), .quiet (.int .u64 (wd Y (m + 1))), .quiet (.int .u64 ((cc S t n (m + 1 + 1) : Nat) : Int)), .quiet (PT γ1_0 (0 + m))] (fun w' => Mm w' [(γ1_0, rowc (inn S Y (m + 1))), (γ1_1, zero6), (g, modx n o s)]) ?pre8 ?F8 _ ?hpre8 (fun γ => ?hF8) (by kernel_rfl) rfl ?hL8 ?hS8 ?ho8 ?hla8 ?he8
      case hpre8 =>
        simp only [List.take_succ_cons, List.take_zero]
        exact rfl
      case hF8 =>
        simp only [fill, Kind.val, Act.put, List.setIfInBounds_toArray, List.set_cons_zero, List.set_cons_succ]
        exact rfl
      case hL8 => exact trivial
      case hS8 => exact fun w' hb => H9.out.1.below hb
      case ho8 =>
        refine AllOk.cons ?_ ?_
        · exact fun γ => ⟨rfl, fun w' _ => rfl⟩
        refine AllOk.cons ?_ ?_
        · (refine fun γ => ⟨rfl, fun w' h => ?_⟩; clear h; go_simp; rw [IntKind.wrap_i64]; omega)
        refine AllOk.cons ?_ ?_
        · exact fun γ => ⟨rfl, fun w' _ => rfl⟩
        refine AllOk.cons ?_ ?_
        · exact fun γ => ⟨rfl, fun w' _ => rfl⟩
        refine AllOk.cons ?_ ?_
        · exact fun γ => ⟨rfl, fun w' _ => rfl⟩
        refine AllOk.cons ?_ ?_
        · (refine fun γ => ⟨rfl, fun w' h => ?_⟩; clear h; go_simp)
        refine AllOk.cons ?_ ?_
        · (refine fun γ => ⟨rfl, fun w' h => ?_⟩; clear h; go_simp)
        refine AllOk.cons ?_ ?_
        · exact fun γ => ⟨rfl, fun w' _ => ex_indexAddr6 rfl rfl rfl hm6⟩
        refine AllOk.cons ?_ ?_
        · exact fun γ => ⟨rfl, fun w' h => ex_load1 h 2 rfl rfl rfl (modn_at hm6)⟩
        refine AllOk.cons ?_ ?_
        · exact fun γ => ⟨rfl, fun w' _ => rfl⟩
        refine AllOk.cons ?_ ?_
        · exact fun γ => ⟨rfl, fun w' _ => ex_indexAddr6 rfl rfl rfl hm6⟩
        refine AllOk.cons ?_ ?_
        · exact fun γ => ⟨rfl, fun w' h => ex_load1 h 0 rfl rfl rfl (inn_at hm6)⟩
        refine AllOk.cons ?_ ?_
        · exact fun γ => ⟨rfl, fun w' _ => rfl⟩
        refine AllOk.cons ?_ ?_
        · exact fun γ => ⟨rfl, fun w' h => ⟨40, #[.int .u64 ((t : Nat) : Int), .int .u64 (wd n (m + 1)), .int .u64 (wd S (m + 1)), .int .u64 ((cc S t n (m + 1) : Nat) : Int)], exec_call rfl call40 rfl (by simp only [List.map_toArray, List.map_cons, List.map_nil]; rfl), CB.out (m + 1) w'⟩⟩
        refine AllOk.cons ?_ ?_
        · exact fun γ => ⟨rfl, fun w' _ => rfl⟩
        refine AllOk.cons ?_ ?_
        · (refine fun γ => ⟨rfl, fun w' h => ?_⟩; clear h; go_simp)
        refine AllOk.cons ?_ ?_
        · (refine fun γ => ⟨rfl, fun w' h => ?_⟩; clear h; go_simp)
        refine AllOk.cons ?_ ?_
        · exact fun γ => ⟨rfl, fun w' _ => ex_indexAddr6 rfl rfl rfl (Nat.lt_of_succ_lt hm6)⟩
        exact trivial
      case hla8 => exact ⟨⟨_, _, rfl, rfl, fun γ => ⟨rfl, fun w' => by first | rfl | go_simp⟩⟩, trivial⟩
      intro γ w10 l hM hl
      have M10 : Mm w10 [(γ1_0, rowc (inn S Y (m + 1))), (γ1_1, zero6), (g, modx n o s)] := H9.out.1.grow hM (Nat.le_refl _) hl [] rfl (by decide)
      have B10 : Below w.heap.size w w10 := H9.out.2.trans (hM.below.mono H9.out.2.size)
      clear hM hl l H9
      clear γ
      have H10 : Hid (_ ∧ _) := ⟨M10, B10⟩
      clear M10 B10
      refine ⟨_, ex_storeI H10.out.1 0 rfl rfl Tryd.sizeOf22 rfl rfl (row_bd (Nat.lt_of_succ_lt hm6)), ?_⟩
      have H11 : Hid (Mm (w10.setCells γ1_0 (0 + m) [.int .u64 (wd Y (m + 1))]) [(γ1_0, rowc (inn S Y (m + 1 + 1))), (γ1_1, zero6), (g, modx n o s)] ∧ Below w.heap.size w (w10.setCells γ1_0 (0 + m) [.int .u64 (wd Y (m + 1))])) := ⟨by
        have h := H10.out.1.put 0 (off := (0 + m)) (vs := [.int .u64 (wd Y (m + 1))]) rfl (row_bd (Nat.lt_of_succ_lt hm6))
        rw [patch_row (Nat.lt_of_succ_lt hm6), inn_step rfl] at h
        exact h, below_setCells _ o1_0.out _ _ _ H10.out.2⟩
      clear H10
      generalize hgw : World.setCells _ _ _ _ = w11 at H11 ⊢
      clear hgw
      refine rest_at (l := [19]) rfl ?_
      refine rest_set (d := 7) rfl rfl rfl rfl ?_
      simp only [Act.put, List.setIfInBounds_toArray, List.set_cons_zero, List.set_cons_succ]
      refine rest_nil ?_
      refine block_normal ?_
      refine then_normal ?_
      refine walk_seq 2 [.quiet (.int .i64 ((m + 1 : Nat) : Int)), .quiet (.int .i64 ((m + 1 + 1 : Nat) : Int))] (fun w' => Mm w' [(γ1_0, rowc (inn S Y (m + 1 + 1))), (γ1_1, zero6), (g, modx n o s)]) ?pre9 ?F9 ?hpre9 (fun γ => ?hF9) (by kernel_rfl) ?hL9 ?hS9 ?ho9 ?he9
      case hpre9 =>
        simp only [List.take_succ_cons, List.take_zero]
        exact rfl
      case hF9 =>
        simp only [fill, Kind.val, Act.put, List.setIfInBounds_toArray, List.set_cons_zero, List.set_cons_succ]
        exact rfl
      case hL9 => exact trivial
      case hS9 => exact fun w' hb => H11.out.1.below hb
      case ho9 =>
        refine AllOk.cons ?_ ?_
        · exact fun γ => ⟨rfl, fun w' _ => rfl⟩
        refine AllOk.cons ?_ ?_
        · (refine fun γ => ⟨rfl, fun w' h => ?_⟩; clear h; go_simp; rw [IntKind.wrap_i64]; omega)
        exact trivial
      intro γ w12 l hM hl
      have M12 : Mm w12 [(γ1_0, rowc (inn S Y (m + 1 + 1))), (γ1_1, zero6), (g, modx n o s)] := H11.out.1.grow hM (Nat.le_refl _) hl [] rfl (by decide)
      have B12 : Below w.heap.size w w12 := H11.out.2.trans (hM.below.mono H11.out.2.size)
      clear hM hl l H11
      clear γ
      have H12 : Hid (_ ∧ _) := ⟨M12, B12⟩
      clear M12 B12
      refine rest_at (l := [2]) rfl ?_
      refine rest_set (d := 8) rfl rfl rfl rfl ?_
      simp only [Act.put, List.setIfInBounds_toArray, List.set_cons_zero, List.set_cons_succ]
      refine rest_nil ?_
      refine then_normal ?_
      exact ⟨m + 1, ⟨(slotfn [undef, undef, undef, undef, undef, undef, undef, undef, undef, undef, undef, undef, undef, undef, undef, undef, undef, undef, undef, undef, undef, undef, undef, undef, undef, undef, undef, undef, undef, undef, .int .i64 ((m + 1 : Nat) : Int), .bool true, .int .i64 ((m + 1 : Nat) : Int), .int .i64 ((m + 1 + 1 : Nat) : Int), .tuple #[.int .u64 (wd Y (m + 1)), .int .u64 ((cc S t n (m + 1 + 1) : Nat) : Int)], .int .i64 ((m + 1 : Nat) : Int), .int .i64 ((m : Nat) : Int), .int .u64 ((t : Nat) : Int), PT g 0, .int .i64 ((m + 1 : Nat) : Int), PT g 0, PT g 0, PT g (0 + (m + 1)), .int .u64 (wd n (m + 1)), .int .i64 ((m + 1 : Nat) : Int), PT γ1_0 (0 + (m + 1)), .int .u64 (wd S (m + 1)), .int .u64 ((cc S t n (m + 1) : Nat) : Int), .tuple #[.int .u64 (wd Y (m + 1)), .int .u64 ((cc S t n (m + 1 + 1) : Nat) : Int)], .int .u64 (wd Y (m + 1)), .int .u64 ((cc S t n (m + 1 + 1) : Nat) : Int), PT γ1_0 (0 + m)]), rfl, ⟨H12.out.1, H12.out.2⟩, by omega⟩, by omega⟩
    have hm5 : m = 5 := by omega
    subst hm5
    refine wp_seq ?_
    refine wp_seq ?_
    refine walk_seq 2 [.quiet (.int .i64 ((5 + 1 : Nat) : Int)), .quiet (.bool false)] (fun w' => Mm w' [(γ1_0, rowc (inn S Y (5 + 1))), (γ1_1, zero6), (g, modx n o s)]) ?pre10 ?F10 ?hpre10 (fun γ => ?hF10) (by kernel_rfl) ?hL10 ?hS10 ?ho10 ?he10
    case hpre10 =>
      simp only [List.take_succ_cons, List.take_zero]
      exact rfl
    case hF10 =>
      simp only [fill, Kind.val, Act.put, List.setIfInBounds_toArray, List.set_cons_zero, List.set_cons_succ]
      exact rfl
    case hL10 => exact trivial
    case hS10 => exact fun w' hb => H8.out.1.below hb
    case ho10 =>
      refine AllOk.cons ?_ ?_
      · exact fun γ => ⟨rfl, fun w' _ => rfl⟩
      refine AllOk.cons ?_ ?_
      · (refine fun γ => ⟨rfl, fun w' h => ?_⟩; clear h; go_simp <;> omega)
      exact trivial
    intro γ w13 l hM hl
    have M13 : Mm w13 [(γ1_0, rowc (inn S Y (5 + 1))), (γ1_1, zero6), (g, modx n o s)] := H8.out.1.grow hM (Nat.le_refl _) hl [] rfl (by decide)
    have B13 : Below w.heap.size w w13 := H8.out.2.trans (hM.below.mono H8.out.2.size)
    clear hM hl l H8
    clear γ
    have H13 : Hid (_ ∧ _) := ⟨M13, B13⟩
    clear M13 B13
    refine rest_at (l := []) rfl ?_
    refine rest_nil ?_
    refine then_normal ?_
    refine wp_cond_false rfl ?_
    refine wp_exit ?_
    repeat refine then_exit ?_
    refine block_exit ?_
    refine then_normal ?_
    refine walk_seq 2 [.quiet (.int .u64 ((cc S t n (5 + 1) : Nat) : Int)), .quiet (PT γ1_0 5)] (fun w' => Mm w' [(γ1_0, rowc (inn S Y (5 + 1))), (γ1_1, zero6), (g, modx n o s)]) ?pre11 ?F11 ?hpre11 (fun γ => ?hF11) (by kernel_rfl) ?hL11 ?hS11 ?ho11 ?he11
    case hpre11 =>
      simp only [List.take_succ_cons, List.take_zero]
      exact rfl
    case hF11 =>
      simp only [fill, Kind.val, Act.put, List.setIfInBounds_toArray, List.set_cons_zero, List.set_cons_succ]
      exact rfl
    case hL11 => exact trivial
    case hS11 => exact fun w' hb => H13.out.1.below hb
    case ho11 =>
      refine AllOk.cons ?_ ?_
      · exact fun γ => ⟨rfl, fun w' _ => rfl⟩
      refine AllOk.cons ?_ ?_
      · (refine fun γ => ⟨rfl, fun w' h => ?_⟩; clear h; go_simp)
      exact trivial
    intro γ w14 l hM hl
    have M14 : Mm w14 [(γ1_0, rowc (inn S Y (5 + 1))), (γ1_1, zero6), (g, modx n o s)] := H13.out.1.grow hM (Nat.le_refl _) hl [] rfl (by decide)
    have B14 : Below w.heap.size w w14 := H13.out.2.trans (hM.below.mono H13.out.2.size)
    clear hM hl l H13
    clear γ
    have H14 : Hid (_ ∧ _) := ⟨M14, B14⟩
    clear M14 B14
    refine rest_at (l := [2]) rfl ?_
    refine rest_store rfl rfl rfl (ex_storeI H14.out.1 0 rfl rfl Tryd.sizeOf22 rfl rfl (Nat.le_of_ble_eq_true rfl)) ?_
    have H15 : Hid (Mm (w14.setCells γ1_0 5 [.int .u64 ((cc S t n (5 + 1) : Nat) : Int)]) [(γ1_0, cells6 Z), (γ1_1, zero6), (g, modx n o s)] ∧ Below w.heap.size w (w14.setCells γ1_0 5 [.int .u64 ((cc S t n (5 + 1) : Nat) : Int)])) := ⟨by
      have h := H14.out.1.put 0 (off := 5) (vs := [.int .u64 ((cc S t n (5 + 1) : Nat) : Int)]) rfl (Nat.le_of_ble_eq_true rfl)
      rw [patch_row5, inn_end E5.out E6.out] at h
      exact h, below_setCells _ o1_0.out _ _ _ H14.out.2⟩
    clear H14
    generalize hgw : World.setCells _ _ _ _ = w15 at H15 ⊢
    clear hgw
    refine rest_nil ?_
    refine block_normal ?_
    refine then_normal ?_
    refine walk_seq 1 [.quiet (.int .i64 ((i + 1 : Nat) : Int))] (fun w' => Mm w' [(γ1_0, cells6 Z), (γ1_1, zero6), (g, modx n o s)]) ?pre12 ?F12 ?hpre12 (fun γ => ?hF12) (by kernel_rfl) ?hL12 ?hS12 ?ho12 ?he12
    case hpre12 =>
      simp only [List.take_succ_cons, List.take_zero]
      exact rfl
    case hF12 =>
      simp only [fill, Kind.val, Act.put, List.setIfInBounds_toArray, List.set_cons_zero, List.set_cons_succ]
      exact rfl
    case hL12 => exact trivial
    case hS12 => exact fun w' hb => H15.out.1.below hb
    case ho12 =>
      refine AllOk.cons ?_ ?_
      · (refine fun γ => ⟨rfl, fun w' h => ?_⟩; clear h; go_simp; rw [IntKind.wrap_i64]; omega)
      exact trivial
    intro γ w16 l hM hl
    have M16 : Mm w16 [(γ1_0, cells6 Z), (γ1_1, zero6), (g, modx n o s)] := H15.out.1.grow hM (Nat.le_refl _) hl [] rfl (by decide)
    have B16 : Below w.heap.size w w16 := H15.out.2.trans (hM.below.mono H15.out.2.size)
    clear hM hl l H15
    clear γ
    have H16 : Hid (_ ∧ _) := ⟨M16, B16⟩
    clear M16 B16
    refine rest_at (l := [1]) rfl ?_
    refine rest_set (d := 9) rfl rfl rfl rfl ?_
    simp only [Act.put, List.setIfInBounds_toArray, List.set_cons_zero, List.set_cons_succ]
    refine rest_nil ?_
    refine then_normal ?_
    exact ⟨i + 1, ⟨(slotfn [undef, undef, undef, undef, undef, .int .u64 ((t : Nat) : Int), .int .u64 (wd Y 0), .int .u64 ((cc S t n (5 + 1) : Nat) : Int), .int .i64 ((5 + 1 : Nat) : Int), undef, .bool true, PT γ1_0 0, .int .u64 (wd S 0), PT g 0, PT g 0, PT g 6, .int .u64 (wrapZ (wd n 0)), .int .u64 ((t : Nat) : Int), .tuple #[.int .u64 (wd Y 0), .int .u64 ((cc S t n (0 + 1) : Nat) : Int)], .int .u64 ((t : Nat) : Int), PT g 0, PT g 0, PT g 0, PT g 0, .int .u64 (wd n 0), PT γ1_0 0, .int .u64 (wd S 0), .tuple #[.int .u64 (wd Y 0), .int .u64 ((cc S t n (0 + 1) : Nat) : Int)], .int .u64 (wd Y 0), .int .u64 ((cc S t n (0 + 1) : Nat) : Int), .int .i64 ((5 + 1 : Nat) : Int), .bool false, s2 32, s2 33, s2 34, s2 35, s2 36, s2 37, s2 38, s2 39, s2 40, s2 41, s2 42, s2 43, s2 44, s2 45, s2 46, s2 47, s2 48, s2 49, s2 50, s2 51, .int .u64 ((cc S t n (5 + 1) : Nat) : Int), PT γ1_0 5, .int .i64 ((i + 1 : Nat) : Int)]), rfl, by rw [← HZ.out]; exact H16.out, by omega⟩, by omega⟩
  have hi6 : i = 6 := by omega
  subst hi6
  refine wp_seq ?_
  refine walk_seq 1 [.quiet (.bool false)] (fun w' => Mm w' [(γ1_0, cells6 (drun n (wrapN n) a 6)), (γ1_1, zero6), (g, modx n o s)]) ?pre13 ?F13 ?hpre13 (fun γ => ?hF13) (by kernel_rfl) ?hL13 ?hS13 ?ho13 ?he13
  case hpre13 =>
    simp only [List.take_succ_cons, List.take_zero]
    exact rfl
  case hF13 =>
    simp only [fill, Kind.val, Act.put, List.setIfInBounds_toArray, List.set_cons_zero, List.set_cons_succ]
    exact rfl
  case hL13 => exact trivial
  case hS13 => exact fun w' hb => H3.out.1.below hb
  case ho13 =>
    refine AllOk.cons ?_ ?_
    · (refine fun γ => ⟨rfl, fun w' h => ?_⟩; clear h; go_simp <;> omega)
    exact trivial
  intro γ w17 l hM hl
  have M17 : Mm w17 [(γ1_0, cells6 (drun n (wrapN n) a 6)), (γ1_1, zero6), (g, modx n o s)] := H3.out.1.grow hM (Nat.le_refl _) hl [] rfl (by decide)
  have B17 : Below w.heap.size w w17 := H3.out.2.trans (hM.below.mono H3.out.2.size)
  clear hM hl l H3
  clear γ
  have H17 : Hid (_ ∧ _) := ⟨M17, B17⟩
  clear M17 B17
  refine rest_at (l := []) rfl ?_
  refine rest_nil ?_
  refine then_normal ?_
  refine wp_seq ?_
  refine wp_cond_false rfl ?_
  refine wp_exit ?_
  repeat refine then_exit ?_
  refine block_exit ?_
  refine then_normal ?_
  refine wp_seq ?_
  refine walk_seq 1 [.quiet (N (drun n (wrapN n) a 6))] (fun w' => Mm w' [(γ1_0, cells6 (drun n (wrapN n) a 6)), (γ1_1, zero6), (g, modx n o s)]) ?pre14 ?F14 ?hpre14 (fun γ => ?hF14) (by kernel_rfl) ?hL14 ?hS14 ?ho14 ?he14
  case hpre14 =>
    simp only [List.take_succ_cons, List.take_zero]
    exact rfl
  case hF14 =>
    simp only [fill, Kind.val, Act.put, List.setIfInBounds_toArray, List.set_cons_zero, List.set_cons_succ]
    exact rfl
  case hL14 => exact trivial
  case hS14 => exact fun w' hb => H17.out.1.below hb
  case ho14 =>
    refine AllOk.cons ?_ ?_
    · exact fun γ => ⟨rfl, fun w' h => ex_load6 h 0 rfl rfl rfl rfl⟩
    exact trivial
  intro γ w18 l hM hl
  have M18 : Mm w18 [(γ1_0, cells6 (drun n (wrapN n) a 6)), (γ1_1, zero6), (g, modx n o s)] := H17.out.1.grow hM (Nat.le_refl _) hl [] rfl (by decide)
  have B18 : Below w.heap.size w w18 := H17.out.2.trans (hM.below.mono H17.out.2.size)
  clear hM hl l H17
  clear γ
  have H18 : Hid (_ ∧ _) := ⟨M18, B18⟩
  clear M18 B18
  refine rest_at (l := [1]) rfl ?_
  refine rest_store rfl rfl rfl (ex_store6 H18.out.1 1 rfl rfl rfl rfl (Nat.le_of_ble_eq_true rfl)) ?_
  have H19 : Hid (Mm (w18.setCells γ1_1 0 (cells6 (drun n (wrapN n) a 6))) [(γ1_0, cells6 (drun n (wrapN n) a 6)), (γ1_1, cells6 (drun n (wrapN n) a 6)), (g, modx n o s)] ∧ Below w.heap.size w (w18.setCells γ1_1 0 (cells6 (drun n (wrapN n) a 6)))) := ⟨H18.out.1.put 1 (off := 0) (vs := cells6 (drun n (wrapN n) a 6)) rfl (Nat.le_of_ble_eq_true rfl), below_setCells _ o1_1.out _ _ _ H18.out.2⟩
  clear H18
  generalize hgw : World.setCells _ _ _ _ = w19 at H19 ⊢
  clear hgw
  refine rest_nil ?_
  refine then_normal ?_
  refine wp_ret ?_
  repeat (first | refine then_ret ?_ | refine block_ret ?_)
  have c0 := H19.out.1.get 1 rfl 0 rfl
  have c1 := H19.out.1.get 1 rfl 1 rfl
  have c2 := H19.out.1.get 1 rfl 2 rfl
  have c3 := H19.out.1.get 1 rfl 3 rfl
  have c4 := H19.out.1.get 1 rfl 4 rfl
  have c5 := H19.out.1.get 1 rfl 5 rfl
  refine bodyPost_ret (v := N (drun n (wrapN n) a 6)) (by simp [results, Tryd.results35, go_sem, *]) rfl ?_
  exact ⟨rfl, H19.out.2⟩
set_option maxHeartbeats 1000000 in
set_option maxRecDepth 100000 in
theorem wide_1 (g n o s a b d u r : Nat)
    (c0 : ∀ w, Mm w [(g, modx n o s)] → Calls Tryd.prog 25 #[PT g 0] w fun e w' => e = .returned (.bool true) ∧ Below w.heap.size w w')
    (c1 : ∀ w, Mm w [(g, modx n o s)] → Calls Tryd.prog 35 #[PT g 0, N a] w fun e w' => e = .returned (N d) ∧ Below w.heap.size w w')
    (c2 : ∀ w, Calls Tryd.prog 33 #[N b, N d] w fun e w' => e = .returned (.tuple #[N u, .bool false]) ∧ Below w.heap.size w w')
    (c3 : ∀ w, Mm w [(g, modx n o s)] → Calls Tryd.prog 27 #[PT g 0, N u, N s] w fun e w' => e = .returned (N r) ∧ Below w.heap.size w w') (w : World) (hm : Mm w [(g, modx n o s)]) :
    Calls Tryd.prog 19 #[PT g 0, N a, N b] w fun e w' => e = .returned (N r) ∧ Below w.heap.size w w' := by
  have H0 : Hid (_ ∧ _) := ⟨hm, Below.refl w.heap.size w⟩
  clear hm
  have C0 : Hid _ := c0
  have C1 : Hid _ := c1
  have C2 : Hid _ := c2
  have C3 : Hid _ := c3
  clear c0 c1 c2 c3
  go_enter Tryd.func19, Tryd.ntmps19
  refine wp_seq ?_
  refine walk_seq 3 [.made (cells6 a) 24, .made (cells6 b) 24, .made zero6 24] (fun w' => Mm w' [(g, modx n o s)]) ?pre1 ?F1 ?hpre1 (fun γ => ?hF1) (by kernel_rfl) ?hL1 ?hS1 ?ho1 ?he1
  case hpre1 =>
    simp only [List.take_succ_cons, List.take_zero]
    exact rfl
  case hF1 =>
    simp only [fill, Kind.val, Act.put, List.setIfInBounds_toArray, List.set_cons_zero, List.set_cons_succ]
    exact rfl
  case hL1 => exact trivial
  case hS1 => exact fun w' hb => H0.out.1.below hb
  case ho1 =>
    refine AllOk.cons ?_ ?_
    · exact fun γ => ⟨rfl, fun w' => ex_box6 rfl rfl⟩
    refine AllOk.cons ?_ ?_
    · exact fun γ => ⟨rfl, fun w' => ex_box6 rfl rfl⟩
    refine AllOk.cons ?_ ?_
    · exact fun γ => ⟨rfl, fun w' => exec_made6 rfl⟩
    exact trivial
  intro γ w1 l hM hl
  have M1 : Mm w1 [(γ 0, cells6 a), (γ 1, cells6 b), (γ 2, zero6), (g, modx n o s)] := H0.out.1.grow hM (Nat.le_refl _) hl [0, 1, 2] rfl (by decide)
  have B1 : Below w.heap.size w w1 := H0.out.2.trans (hM.below.mono H0.out.2.size)
  have o1_0 : Hid (w.heap.size ≤ γ 0) := Nat.le_trans H0.out.2.size (hM.fin (Nat.le_refl _) hl (i := 0) rfl).2.1
  have o1_1 : Hid (w.heap.size ≤ γ 1) := Nat.le_trans H0.out.2.size (hM.fin (Nat.le_refl _) hl (i := 1) rfl).2.1
  have o1_2 : Hid (w.heap.size ≤ γ 2) := Nat.le_trans H0.out.2.size (hM.fin (Nat.le_refl _) hl (i := 2) rfl).2.1
  clear hM hl l
  generalize γ 0 = γ1_0 at M1 o1_0 ⊢
  generalize γ 1 = γ1_1 at M1 o1_1 ⊢
  generalize γ 2 = γ1_2 at M1 o1_2 ⊢
  clear γ
  have H1 : Hid (_ ∧ _) := ⟨M1, B1⟩
  clear M1 B1
  refine rest_at (l := []) rfl ?_
  refine rest_nil ?_
  refine then_normal ?_
  refine wp_seq ?_
  refine wp_seq ?_
  refine walk_seq 3 [.quiet (PT g 0), .call (.bool true), .quiet (.bool false)] (fun w' => Mm w' [(γ1_0, cells6 a), (γ1_1, cells6 b), (γ1_2, zero6), (g, modx n o s)]) ?pre2 ?F2 ?hpre2 (fun γ => ?hF2) (by kernel_rfl) ?hL2 ?hS2 ?ho2 ?he2
  case hpre2 =>
    simp only [List.take_succ_cons, List.take_zero]
    exact rfl
  case hF2 =>
    simp only [fill, Kind.val, Act.put, List.setIfInBounds_toArray, List.set_cons_zero, List.set_cons_succ]
    exact rfl
  case hL2 => exact trivial
  case hS2 => exact fun w' hb => H1.out.1.below hb
  case ho2 =>
    refine AllOk.cons ?_ ?_
    · exact fun γ => ⟨rfl, fun w' _ => rfl⟩
    refine AllOk.cons ?_ ?_
    · exact fun γ => ⟨rfl, fun w' h => ⟨25, #[PT g 0], exec_call rfl call25 rfl (by simp only [List.map_toArray, List.map_cons, List.map_nil]; rfl), C0.out w' (h.one 3 rfl)⟩⟩
    refine AllOk.cons ?_ ?_
    · (refine fun γ => ⟨rfl, fun w' h => ?_⟩; clear h; go_simp)
    exact trivial
  intro γ w2 l hM hl
  have M2 : Mm w2 [(γ1_0, cells6 a), (γ1_1, cells6 b), (γ1_2, zero6), (g, modx n o s)] := H1.out.1.grow hM (Nat.le_refl _) hl [] rfl (by decide)
  have B2 : Below w.heap.size w w2 := H1.out.2.trans (hM.below.mono H1.out.2.size)
  clear hM hl l H1
  clear γ
  have H2 : Hid (_ ∧ _) := ⟨M2, B2⟩
  clear M2 B2
  refine rest_at (l := []) rfl ?_
  refine rest_nil ?_
  refine then_normal ?_
  refine wp_cond_false rfl ?_
  refine wp_skip ?_
  refine then_normal ?_
  refine wp_seq ?_
  refine walk_any (by kernel_rfl) 11 [.quiet (N b), .quiet (PT g 0), .quiet (N a), .call (N d), .call (.tuple #[N u, .bool false]), .quiet (.tuple #[N u, .bool false]), .quiet (N u), .quiet (.bool false), .made zero6 24, .laid 8 zero6 (cells6 u), .quiet (.bool false)] (fun w' => Mm w' [(γ1_0, cells6 a), (γ1_1, cells6 b), (γ1_2, zero6), (g, modx n o s)]) ?pre3 ?F3 ?hpre3 (fun γ => ?hF3) (by kernel_rfl) ?hL3 ?hS3 ?ho3 ?he3
  case hpre3 =>
    simp only [List.take_succ_cons, List.take_zero]
    exact rfl
  case hF3 =>
    simp only [fill, Kind.val, Act.put, List.setIfInBounds_toArray, List.set_cons_zero, List.set_cons_succ]
    exact rfl
  case hL3 => exact ⟨⟨_, rfl⟩, trivial⟩
  case hS3 => exact fun w' hb => H2.out.1.below hb
  case ho3 =>
    refine AllOk.cons ?_ ?_
    · exact fun γ => ⟨rfl, fun w' h => ex_load6 h 1 rfl rfl rfl rfl⟩
    refine AllOk.cons ?_ ?_
    · exact fun γ => ⟨rfl, fun w' _ => rfl⟩
    refine AllOk.cons ?_ ?_
    · exact fun γ => ⟨rfl, fun w' h => ex_load6 h 0 rfl rfl rfl rfl⟩
    refine AllOk.cons ?_ ?_
    · exact fun γ => ⟨rfl, fun w' h => ⟨35, #[PT g 0, N a], exec_call rfl call35 rfl (by simp only [List.map_toArray, List.map_cons, List.map_nil]; rfl), C1.out w' (h.one 3 rfl)⟩⟩
    refine AllOk.cons ?_ ?_
    · exact fun γ => ⟨rfl, fun w' h => ⟨33, #[N b, N d], exec_call rfl call33 rfl (by simp only [List.map_toArray, List.map_cons, List.map_nil]; rfl), C2.out w'⟩⟩
    refine AllOk.cons ?_ ?_
    · exact fun γ => ⟨rfl, fun w' _ => rfl⟩
    refine AllOk.cons ?_ ?_
    · (refine fun γ => ⟨rfl, fun w' h => ?_⟩; clear h; go_simp)
    refine AllOk.cons ?_ ?_
    · (refine fun γ => ⟨rfl, fun w' h => ?_⟩; clear h; go_simp)
    refine AllOk.cons ?_ ?_
    · exact fun γ => ⟨rfl, fun w' => exec_made6 rfl⟩
    refine AllOk.cons ?_ ?_
    · exact fun γ => ⟨rfl, rfl, rfl, fun w' h => exec_laid6 h rfl rfl rfl⟩
    refine AllOk.cons ?_ ?_
    · exact fun γ => ⟨rfl, fun w' _ => rfl⟩
    exact trivial
  intro γ w3 l hM hl
  have M3 : Mm w3 [(γ 8, cells6 u), (γ1_0, cells6 a), (γ1_1, cells6 b), (γ1_2, zero6), (g, modx n o s)] := H2.out.1.grow hM (Nat.le_refl _) hl [8] rfl (by decide)
  have B3 : Below w.heap.size w w3 := H2.out.2.trans (hM.below.mono H2.out.2.size)
  have o3_8 : Hid (w.heap.size ≤ γ 8) := Nat.le_trans H2.out.2.size (hM.fin (Nat.le_refl _) hl (i := 8) rfl).2.1
  clear hM hl l H2
  generalize γ 8 = γ3_8 at M3 o3_8 ⊢
  clear γ
  have H3 : Hid (_ ∧ _) := ⟨M3, B3⟩
  clear M3 B3
  refine rest_at (l := []) rfl ?_
  refine rest_nil ?_
  refine then_normal ?_
  refine wp_seq ?_
  refine wp_seq ?_
  refine walk_seq 1 [.quiet (.bool false)] (fun w' => Mm w' [(γ3_8, cells6 u), (γ1_0, cells6 a), (γ1_1, cells6 b), (γ1_2, zero6), (g, modx n o s)]) ?pre4 ?F4 ?hpre4 (fun γ => ?hF4) (by kernel_rfl) ?hL4 ?hS4 ?ho4 ?he4
  case hpre4 =>
    simp only [List.take_succ_cons, List.take_zero]
    exact rfl
  case hF4 =>
    simp only [fill, Kind.val, Act.put, List.setIfInBounds_toArray, List.set_cons_zero, List.set_cons_succ]
    exact rfl
  case hL4 => exact trivial
  case hS4 => exact fun w' hb => H3.out.1.below hb
  case ho4 =>
    refine AllOk.cons ?_ ?_
    · exact fun γ => ⟨rfl, fun w' _ => rfl⟩
    exact trivial
  intro γ w4 l hM hl
  have M4 : Mm w4 [(γ3_8, cells6 u), (γ1_0, cells6 a), (γ1_1, cells6 b), (γ1_2, zero6), (g, modx n o s)] := H3.out.1.grow hM (Nat.le_refl _) hl [] rfl (by decide)
  have B4 : Below w.heap.size w w4 := H3.out.2.trans (hM.below.mono H3.out.2.size)
  clear hM hl l H3
  clear γ
  have H4 : Hid (_ ∧ _) := ⟨M4, B4⟩
  clear M4 B4
  refine rest_at (l := []) rfl ?_
  refine rest_nil ?_
  refine then_normal ?_
  refine wp_cond_false rfl ?_
  refine wp_skip ?_
  refine then_normal ?_
  refine wp_seq ?_
  refine walk_any (by kernel_rfl) 7 [.quiet (PT g 0), .quiet (N u), .quiet (PT g 0), .quiet (PT g 0), .quiet (PT g 13), .quiet (N s), .call (N r)] (fun w' => Mm w' [(γ3_8, cells6 u), (γ1_0, cells6 a), (γ1_1, cells6 b), (γ1_2, zero6), (g, modx n o s)]) ?pre5 ?F5 ?hpre5 (fun γ => ?hF5) (by kernel_rfl) ?hL5 ?hS5 ?ho5 ?he5
  case hpre5 =>
    simp only [List.take_succ_cons, List.take_zero]
    exact rfl
  case hF5 =>
    simp only [fill, Kind.val, Act.put, List.setIfInBounds_toArray, List.set_cons_zero, List.set_cons_succ]
    exact rfl
  case hL5 => exact trivial
  case hS5 => exact fun w' hb => H4.out.1.below hb
  case ho5 =>
    refine AllOk.cons ?_ ?_
    · exact fun γ => ⟨rfl, fun w' _ => rfl⟩
    refine AllOk.cons ?_ ?_
    · exact fun γ => ⟨rfl, fun w' h => ex_load6 h 0 rfl rfl rfl rfl⟩
    refine AllOk.cons ?_ ?_
    · exact fun γ => ⟨rfl, fun w' _ => rfl⟩
    refine AllOk.cons ?_ ?_
    · (refine fun γ => ⟨rfl, fun w' h => ?_⟩; clear h; go_simp)
    refine AllOk.cons ?_ ?_
    · (refine fun γ => ⟨rfl, fun w' h => ?_⟩; clear h; go_simp)
    refine AllOk.cons ?_ ?_
    · exact fun γ => ⟨rfl, fun w' h => ex_load6 h 4 rfl rfl rfl rfl⟩
    refine AllOk.cons ?_ ?_
    · exact fun γ => ⟨rfl, fun w' h => ⟨27, #[PT g 0, N u, N s], exec_call rfl call27 rfl (by simp only [List.map_toArray, List.map_cons, List.map_nil]; rfl), C3.out w' (h.one 4 rfl)⟩⟩
    exact trivial
  intro γ w5 l hM hl
  have M5 : Mm w5 [(γ3_8, cells6 u), (γ1_0, cells6 a), (γ1_1, cells6 b), (γ1_2, zero6), (g, modx n o s)] := H4.out.1.grow hM (Nat.le_refl _) hl [] rfl (by decide)
  have B5 : Below w.heap.size w w5 := H4.out.2.trans (hM.below.mono H4.out.2.size)
  clear hM hl l H4
  clear γ
  have H5 : Hid (_ ∧ _) := ⟨M5, B5⟩
  clear M5 B5
  refine rest_at (l := [7]) rfl ?_
  refine rest_store rfl rfl rfl (ex_store6 H5.out.1 3 rfl rfl rfl rfl (Nat.le_of_ble_eq_true rfl)) ?_
  have H6 : Hid (Mm (w5.setCells γ1_2 0 (cells6 r)) [(γ3_8, cells6 u), (γ1_0, cells6 a), (γ1_1, cells6 b), (γ1_2, cells6 r), (g, modx n o s)] ∧ Below w.heap.size w (w5.setCells γ1_2 0 (cells6 r))) := ⟨H5.out.1.put 3 (off := 0) (vs := cells6 r) rfl (Nat.le_of_ble_eq_true rfl), below_setCells _ o1_2.out _ _ _ H5.out.2⟩
  clear H5
  generalize hgw : World.setCells _ _ _ _ = w6 at H6 ⊢
  clear hgw
  refine rest_nil ?_
  refine then_normal ?_
  refine wp_ret ?_
  repeat (first | refine then_ret ?_ | refine block_ret ?_)
  have c0 := H6.out.1.get 3 rfl 0 rfl
  have c1 := H6.out.1.get 3 rfl 1 rfl
  have c2 := H6.out.1.get 3 rfl 2 rfl
  have c3 := H6.out.1.get 3 rfl 3 rfl
  have c4 := H6.out.1.get 3 rfl 4 rfl
  have c5 := H6.out.1.get 3 rfl 5 rfl
  refine bodyPost_ret (v := N r) (by simp [results, Tryd.results19, go_sem, *]) rfl ?_
  exact ⟨rfl, H6.out.2⟩
set_option maxHeartbeats 1000000 in
set_option maxRecDepth 100000 in
theorem wide_2 (g n o s a b d u r x : Nat) (cx : Bool)
    (c0 : ∀ w, Mm w [(g, modx n o s)] → Calls Tryd.prog 25 #[PT g 0] w fun e w' => e = .returned (.bool true) ∧ Below w.heap.size w w')
    (c1 : ∀ w, Mm w [(g, modx n o s)] → Calls Tryd.prog 35 #[PT g 0, N a] w fun e w' => e = .returned (N d) ∧ Below w.heap.size w w')
    (c2 : ∀ w, Calls Tryd.prog 33 #[N b, N d] w fun e w' => e = .returned (.tuple #[N u, .bool true]) ∧ Below w.heap.size w w')
    (c3 : ∀ w, Calls Tryd.prog 10 #[N u, N n] w fun e w' => e = .returned (.tuple #[N x, .bool cx]) ∧ Below w.heap.size w w')
    (c4 : ∀ w, Mm w [(g, modx n o s)] → Calls Tryd.prog 27 #[PT g 0, N x, N s] w fun e w' => e = .returned (N r) ∧ Below w.heap.size w w') (w : World) (hm : Mm w [(g, modx n o s)]) :
    Calls Tryd.prog 19 #[PT g 0, N a, N b] w fun e w' => e = .returned (N r) ∧ Below w.heap.size w w' := by
  have H0 : Hid (_ ∧ _) := ⟨hm, Below.refl w.heap.size w⟩
  clear hm
  have C0 : Hid _ := c0
  have C1 : Hid _ := c1
  have C2 : Hid _ := c2
  have C3 : Hid _ := c3
  have C4 : Hid _ := c4
  clear c0 c1 c2 c3 c4
  go_enter Tryd.func19, Tryd.ntmps19
  refine wp_seq ?_
  refine walk_seq 3 [.made (cells6 a) 24, .made (cells6 b) 24, .made zero6 24] (fun w' => Mm w' [(g, modx n o s)]) ?pre1 ?F1 ?hpre1 (fun γ => ?hF1) (by kernel_rfl) ?hL1 ?hS1 ?ho1 ?he1
  case hpre1 =>
    simp only [List.take_succ_cons, List.take_zero]
    exact rfl
  case hF1 =>
    simp only [fill, Kind.val, Act.put, List.setIfInBounds_toArray, List.set_cons_zero, List.set_cons_succ]
    exact rfl
  case hL1 => exact trivial
  case hS1 => exact fun w' hb => H0.out.1.below hb
  case ho1 =>
    refine AllOk.cons ?_ ?_
    · exact fun γ => ⟨rfl, fun w' => ex_box6 rfl rfl⟩
    refine AllOk.cons ?_ ?_
    · exact fun γ => ⟨rfl, fun w' => ex_box6 rfl rfl⟩
    refine AllOk.cons ?_ ?_
    · exact fun γ => ⟨rfl, fun w' => exec_made6 rfl⟩
    exact trivial
  intro γ w1 l hM hl
  have M1 : Mm w1 [(γ 0, cells6 a), (γ 1, cells6 b), (γ 2, zero6), (g, modx n o s)] := H0.out.1.grow hM (Nat.le_refl _) hl [0, 1, 2] rfl (by decide)
  have B1 : Below w.heap.size w w1 := H0.out.2.trans (hM.below.mono H0.out.2.size)
  have o1_0 : Hid (w.heap.size ≤ γ 0) := Nat.le_trans H0.out.2.size (hM.fin (Nat.le_refl _) hl (i := 0) rfl).2.1
  have o1_1 : Hid (w.heap.size ≤ γ 1) := Nat.le_trans H0.out.2.size (hM.fin (Nat.le_refl _) hl (i := 1) rfl).2.1
  have o1_2 : Hid (w.heap.size ≤ γ 2) := Nat.le_trans H0.out.2.size (hM.fin (Nat.le_refl _) hl (i := 2) rfl).2.1
  clear hM hl l
  generalize γ 0 = γ1_0 at M1 o1_0 ⊢
  generalize γ 1 = γ1_1 at M1 o1_1 ⊢
  generalize γ 2 = γ1_2 at M1 o1_2 ⊢
  clear γ
  have H1 : Hid (_ ∧ _) := ⟨M1, B1⟩
  clear M1 B1
  refine rest_at (l := []) rfl ?_
  refine rest_nil ?_
  refine then_normal ?_
  refine wp_seq ?_
  refine wp_seq ?_
  refine walk_seq 3 [.quiet (PT g 0), .call (.bool true), .quiet (.bool false)] (fun w' => Mm w' [(γ1_0, cells6 a), (γ1_1, cells6 b), (γ1_2, zero6), (g, modx n o s)]) ?pre2 ?F2 ?hpre2 (fun γ => ?hF2) (by kernel_rfl) ?hL2 ?hS2 ?ho2 ?he2
  case hpre2 =>
    simp only [List.take_succ_cons, List.take_zero]
    exact rfl
  case hF2 =>
    simp only [fill, Kind.val, Act.put, List.setIfInBounds_toArray, List.set_cons_zero, List.set_cons_succ]
    exact rfl
  case hL2 => exact trivial
  case hS2 => exact fun w' hb => H1.out.1.below hb
  case ho2 =>
    refine AllOk.cons ?_ ?_
    · exact fun γ => ⟨rfl, fun w' _ => rfl⟩
    refine AllOk.cons ?_ ?_
    · exact fun γ => ⟨rfl, fun w' h => ⟨25, #[PT g 0], exec_call rfl call25 rfl (by simp only [List.map_toArray, List.map_cons, List.map_nil]; rfl), C0.out w' (h.one 3 rfl)⟩⟩
    refine AllOk.cons ?_ ?_
    · (refine fun γ => ⟨rfl, fun w' h => ?_⟩; clear h; go_simp)
    exact trivial
  intro γ w2 l hM hl
  have M2 : Mm w2 [(γ1_0, cells6 a), (γ1_1, cells6 b), (γ1_2, zero6), (g, modx n o s)] := H1.out.1.grow hM (Nat.le_refl _) hl [] rfl (by decide)
  have B2 : Below w.heap.size w w2 := H1.out.2.trans (hM.below.mono H1.out.2.size)
  clear hM hl l H1
  clear γ
  have H2 : Hid (_ ∧ _) := ⟨M2, B2⟩
  clear M2 B2
  refine rest_at (l := []) rfl ?_
  refine rest_nil ?_
  refine then_normal ?_
  refine wp_cond_false rfl ?_
  refine wp_skip ?_
  refine then_normal ?_
  refine wp_seq ?_
  refine walk_any (by kernel_rfl) 11 [.quiet (N b), .quiet (PT g 0), .quiet (N a), .call (N d), .call (.tuple #[N u, .bool true]), .quiet (.tuple #[N u, .bool true]), .quiet (N u), .quiet (.bool true), .made zero6 24, .laid 8 zero6 (cells6 u), .quiet (.bool true)] (fun w' => Mm w' [(γ1_0, cells6 a), (γ1_1, cells6 b), (γ1_2, zero6), (g, modx n o s)]) ?pre3 ?F3 ?hpre3 (fun γ => ?hF3) (by kernel_rfl) ?hL3 ?hS3 ?ho3 ?he3
  case hpre3 =>
    simp only [List.take_succ_cons, List.take_zero]
    exact rfl
  case hF3 =>
    simp only [fill, Kind.val, Act.put, List.setIfInBounds_toArray, List.set_cons_zero, List.set_cons_succ]
    exact rfl
  case hL3 => exact ⟨⟨_, rfl⟩, trivial⟩
  case hS3 => exact fun w' hb => H2.out.1.below hb
  case ho3 =>
    refine AllOk.cons ?_ ?_
    · exact fun γ => ⟨rfl, fun w' h => ex_load6 h 1 rfl rfl rfl rfl⟩
    refine AllOk.cons ?_ ?_
    · exact fun γ => ⟨rfl, fun w' _ => rfl⟩
    refine AllOk.cons ?_ ?_
    · exact fun γ => ⟨rfl, fun w' h => ex_load6 h 0 rfl rfl rfl rfl⟩
    refine AllOk.cons ?_ ?_
    · exact fun γ => ⟨rfl, fun w' h => ⟨35, #[PT g 0, N a], exec_call rfl call35 rfl (by simp only [List.map_toArray, List.map_cons, List.map_nil]; rfl), C1.out w' (h.one 3 rfl)⟩⟩
    refine AllOk.cons ?_ ?_
    · exact fun γ => ⟨rfl, fun w' h => ⟨33, #[N b, N d], exec_call rfl call33 rfl (by simp only [List.map_toArray, List.map_cons, List.map_nil]; rfl), C2.out w'⟩⟩
    refine AllOk.cons ?_ ?_
    · exact fun γ => ⟨rfl, fun w' _ => rfl⟩
    refine AllOk.cons ?_ ?_
    · (refine fun γ => ⟨rfl, fun w' h => ?_⟩; clear h; go_simp)
    refine AllOk.cons ?_ ?_
    · (refine fun γ => ⟨rfl, fun w' h => ?_⟩; clear h; go_simp)
    refine AllOk.cons ?_ ?_
    · exact fun γ => ⟨rfl, fun w' => exec_made6 rfl⟩
    refine AllOk.cons ?_ ?_
    · exact fun γ => ⟨rfl, rfl, rfl, fun w' h => exec_laid6 h rfl rfl rfl⟩
    refine AllOk.cons ?_ ?_
    · exact fun γ => ⟨rfl, fun w' _ => rfl⟩
    exact trivial
  intro γ w3 l hM hl
  have M3 : Mm w3 [(γ 8, cells6 u), (γ1_0, cells6 a), (γ1_1, cells6 b), (γ1_2, zero6), (g, modx n o s)] := H2.out.1.grow hM (Nat.le_refl _) hl [8] rfl (by decide)
  have B3 : Below w.heap.size w w3 := H2.out.2.trans (hM.below.mono H2.out.2.size)
  have o3_8 : Hid (w.heap.size ≤ γ 8) := Nat.le_trans H2.out.2.size (hM.fin (Nat.le_refl _) hl (i := 8) rfl).2.1
  clear hM hl l H2
  generalize γ 8 = γ3_8 at M3 o3_8 ⊢
  clear γ
  have H3 : Hid (_ ∧ _) := ⟨M3, B3⟩
  clear M3 B3
  refine rest_at (l := []) rfl ?_
  refine rest_nil ?_
  refine then_normal ?_
  refine wp_seq ?_
  refine wp_seq ?_
  refine walk_seq 1 [.quiet (.bool true)] (fun w' => Mm w' [(γ3_8, cells6 u), (γ1_0, cells6 a), (γ1_1, cells6 b), (γ1_2, zero6), (g, modx n o s)]) ?pre4 ?F4 ?hpre4 (fun γ => ?hF4) (by kernel_rfl) ?hL4 ?hS4 ?ho4 ?he4
  case hpre4 =>
    simp only [List.take_succ_cons, List.take_zero]
    exact rfl
  case hF4 =>
    simp only [fill, Kind.val, Act.put, List.setIfInBounds_toArray, List.set_cons_zero, List.set_cons_succ]
    exact rfl
  case hL4 => exact trivial
  case hS4 => exact fun w' hb => H3.out.1.below hb
  case ho4 =>
    refine AllOk.cons ?_ ?_
    · exact fun γ => ⟨rfl, fun w' _ => rfl⟩
    exact trivial
  intro γ w4 l hM hl
  have M4 : Mm w4 [(γ3_8, cells6 u), (γ1_0, cells6 a), (γ1_1, cells6 b), (γ1_2, zero6), (g, modx n o s)] := H3.out.1.grow hM (Nat.le_refl _) hl [] rfl (by decide)
  have B4 : Below w.heap.size w w4 := H3.out.2.trans (hM.below.mono H3.out.2.size)
  clear hM hl l H3
  clear γ
  have H4 : Hid (_ ∧ _) := ⟨M4, B4⟩
  clear M4 B4
  refine rest_at (l := []) rfl ?_
  refine rest_nil ?_
  refine then_normal ?_
  refine wp_cond_true rfl ?_
  refine walk_put (by kernel_rfl) 9 [8] [.quiet (N u), .quiet (PT g 0), .quiet (PT g 0), .quiet (PT g 0), .quiet (N n), .call (.tuple #[N x, .bool cx]), .quiet (.tuple #[N x, .bool cx]), .quiet (N x), .quiet (.bool cx)] (fun w' => Mm w' [(γ3_8, cells6 u), (γ1_0, cells6 a), (γ1_1, cells6 b), (γ1_2, zero6), (g, modx n o s)]) ?pre5 ?F5 _ ?hpre5 (fun γ => ?hF5) (by kernel_rfl) rfl ?hL5 ?hS5 ?ho5 ?hla5 ?he5
  case hpre5 =>
    simp only [List.take_succ_cons, List.take_zero]
    exact rfl
  case hF5 =>
    simp only [fill, Kind.val, Act.put, List.setIfInBounds_toArray, List.set_cons_zero, List.set_cons_succ]
    exact rfl
  case hL5 => exact trivial
  case hS5 => exact fun w' hb => H4.out.1.below hb
  case ho5 =>
    refine AllOk.cons ?_ ?_
    · exact fun γ => ⟨rfl, fun w' h => ex_load6 h 0 rfl rfl rfl rfl⟩
    refine AllOk.cons ?_ ?_
    · exact fun γ => ⟨rfl, fun w' _ => rfl⟩
    refine AllOk.cons ?_ ?_
    · (refine fun γ => ⟨rfl, fun w' h => ?_⟩; clear h; go_simp)
    refine AllOk.cons ?_ ?_
    · (refine fun γ => ⟨rfl, fun w' h => ?_⟩; clear h; go_simp)
    refine AllOk.cons ?_ ?_
    · exact fun γ => ⟨rfl, fun w' h => ex_load6 h 4 rfl rfl rfl rfl⟩
    refine AllOk.cons ?_ ?_
    · exact fun γ => ⟨rfl, fun w' h => ⟨10, #[N u, N n], exec_call rfl call10 rfl (by simp only [List.map_toArray, List.map_cons, List.map_nil]; rfl), C3.out w'⟩⟩
    refine AllOk.cons ?_ ?_
    · exact fun γ => ⟨rfl, fun w' _ => rfl⟩
    refine AllOk.cons ?_ ?_
    · (refine fun γ => ⟨rfl, fun w' h => ?_⟩; clear h; go_simp)
    refine AllOk.cons ?_ ?_
    · (refine fun γ => ⟨rfl, fun w' h => ?_⟩; clear h; go_simp)
    exact trivial
  case hla5 => exact ⟨⟨_, _, rfl, rfl, fun γ => ⟨rfl, fun w' => by first | rfl | go_simp⟩⟩, trivial⟩
  intro γ w5 l hM hl
  have M5 : Mm w5 [(γ3_8, cells6 u), (γ1_0, cells6 a), (γ1_1, cells6 b), (γ1_2, zero6), (g, modx n o s)] := H4.out.1.grow hM (Nat.le_refl _) hl [] rfl (by decide)
  have B5 : Below w.heap.size w w5 := H4.out.2.trans (hM.below.mono H4.out.2.size)
  clear hM hl l H4
  clear γ
  have H5 : Hid (_ ∧ _) := ⟨M5, B5⟩
  clear M5 B5
  refine ⟨_, ex_store6 H5.out.1 0 rfl rfl rfl rfl (Nat.le_of_ble_eq_true rfl), ?_⟩
  have H6 : Hid (Mm (w5.setCells γ3_8 0 (cells6 x)) [(γ3_8, cells6 x), (γ1_0, cells6 a), (γ1_1, cells6 b), (γ1_2, zero6), (g, modx n o s)] ∧ Below w.heap.size w (w5.setCells γ3_8 0 (cells6 x))) := ⟨H5.out.1.put 0 (off := 0) (vs := cells6 x) rfl (Nat.le_of_ble_eq_true rfl), below_setCells _ o3_8.out _ _ _ H5.out.2⟩
  clear H5
  generalize hgw : World.setCells _ _ _ _ = w6 at H6 ⊢
  clear hgw
  refine rest_at (l := []) rfl ?_
  refine rest_nil ?_
  refine then_normal ?_
  refine wp_seq ?_
  refine walk_any (by kernel_rfl) 7 [.quiet (PT g 0), .quiet (N x), .quiet (PT g 0), .quiet (PT g 0), .quiet (PT g 13), .quiet (N s), .call (N r)] (fun w' => Mm w' [(γ3_8, cells6 x), (γ1_0, cells6 a), (γ1_1, cells6 b), (γ1_2, zero6), (g, modx n o s)]) ?pre6 ?F6 ?hpre6 (fun γ => ?hF6) (by kernel_rfl) ?hL6 ?hS6 ?ho6 ?he6
  case hpre6 =>
    simp only [List.take_succ_cons, List.take_zero]
    exact rfl
  case hF6 =>
    simp only [fill, Kind.val, Act.put, List.setIfInBounds_toArray, List.set_cons_zero, List.set_cons_succ]
    exact rfl
  case hL6 => exact trivial
  case hS6 => exact fun w' hb => H6.out.1.below hb
  case ho6 =>
    refine AllOk.cons ?_ ?_
    · exact fun γ => ⟨rfl, fun w' _ => rfl⟩
    refine AllOk.cons ?_ ?_
    · exact fun γ => ⟨rfl, fun w' h => ex_load6 h 0 rfl rfl rfl rfl⟩
    refine AllOk.cons ?_ ?_
    · exact fun γ => ⟨rfl, fun w' _ => rfl⟩
    refine AllOk.cons ?_ ?_
    · (refine fun γ => ⟨rfl, fun w' h => ?_⟩; clear h; go_simp)
    refine AllOk.cons ?_ ?_
    · (refine fun γ => ⟨rfl, fun w' h => ?_⟩; clear h; go_simp)
    refine AllOk.cons ?_ ?_
    · exact fun γ => ⟨rfl, fun w' h => ex_load6 h 4 rfl rfl rfl rfl⟩
    refine AllOk.cons ?_ ?_
    · exact fun γ => ⟨rfl, fun w' h => ⟨27, #[PT g 0, N x, N s], exec_call rfl call27 rfl (by simp only [List.map_toArray, List.map_cons, List.map_nil]; rfl), C4.out w' (h.one 4 rfl)⟩⟩
    exact trivial
  intro γ w7 l hM hl
  have M7 : Mm w7 [(γ3_8, cells6 x), (γ1_0, cells6 a), (γ1_1, cells6 b), (γ1_2, zero6), (g, modx n o s)] := H6.out.1.grow hM (Nat.le_refl _) hl [] rfl (by decide)
  have B7 : Below w.heap.size w w7 := H6.out.2.trans (hM.below.mono H6.out.2.size)
  clear hM hl l H6
  clear γ
  have H7 : Hid (_ ∧ _) := ⟨M7, B7⟩
  clear M7 B7
  refine rest_at (l := [7]) rfl ?_
  refine rest_store rfl rfl rfl (ex_store6 H7.out.1 3 rfl rfl rfl rfl (Nat.le_of_ble_eq_true rfl)) ?_
  have H8 : Hid (Mm (w7.setCells γ1_2 0 (cells6 r)) [(γ3_8, cells6 x), (γ1_0, cells6 a), (γ1_1, cells6 b), (γ1_2, cells6 r), (g, modx n o s)] ∧ Below w.heap.size w (w7.setCells γ1_2 0 (cells6 r))) := ⟨H7.out.1.put 3 (off := 0) (vs := cells6 r) rfl (Nat.le_of_ble_eq_true rfl), below_setCells _ o1_2.out _ _ _ H7.out.2⟩
  clear H7
  generalize hgw : World.setCells _ _ _ _ = w8 at H8 ⊢
  clear hgw
  refine rest_nil ?_
  refine then_normal ?_
  refine wp_ret ?_
  repeat (first | refine then_ret ?_ | refine block_ret ?_)
  have c0 := H8.out.1.get 3 rfl 0 rfl
  have c1 := H8.out.1.get 3 rfl 1 rfl
  have c2 := H8.out.1.get 3 rfl 2 rfl
  have c3 := H8.out.1.get 3 rfl 3 rfl
  have c4 := H8.out.1.get 3 rfl 4 rfl
  have c5 := H8.out.1.get 3 rfl 5 rfl
  refine bodyPost_ret (v := N r) (by simp [results, Tryd.results19, go_sem, *]) rfl ?_
  exact ⟨rfl, H8.out.2⟩

theorem wideM {n : Nat} (ok : Ok n) {a b x : Nat} (hx : Cg n x (b + drun n (wrapN n) a 6)) : mont n x (big * big % n) = (a + b * big) % n := by
  rw [mont_big ok]
  have h1 := drun_cg n (wrapN n) a (wrapN_spec n ok.odd) 6
  rw [← big_eq] at h1
  have h2 := hx.mulR big
  refine h2.trans ?_
  rw [Nat.add_mul, Nat.add_comm]
  exact h1.addR _
theorem wide_any {g n : Nat} (ok : Ok n) {a b : Nat} (ha : a < big) (hb : b < big) (w : World) (hm : Mm w [(g, modc n)]) : Calls Tryd.prog 19 #[PT g 0, N a, N b] w fun e w' => e = .returned (N ((a + b * big) % n)) ∧ Below w.heap.size w w' := by
  have hd := drun_bd n (wrapN n) a 6
  rw [← big_eq, Nat.div_eq_of_lt ha, Nat.zero_add] at hd
  have cd := fun w hm => down_any g n (big % n) (big * big % n) a ok ha w hm
  have hM := fun x hx => wideM (x := x) (a := a) (b := b) ok hx
  have hdl : drun n (wrapN n) a 6 < big := by have := ok.big; omega
  generalize drun n (wrapN n) a 6 = d at hd cd hM hdl
  have c := fun w => add_any b d hb hdl w
  have hsq : big * big % n < n := Nat.mod_lt _ ok.pos
  have h3 := ok.top
  by_cases h : big ≤ b + d
  · rw [decide_eq_true h, Nat.mod_eq_sub_mod h, Nat.mod_eq_of_lt (show b + d - big < big by omega)] at c
    have cs := fun w => sub_any (b + d - big) n (by omega) ok.big w
    have e : (b + d - big + big - n) % big = b + d - n := by
      rw [show b + d - big + big - n = b + d - n by omega, Nat.mod_eq_of_lt (by omega)]
    rw [e] at cs
    have cp := fun w hm => product_any g n (big % n) (big * big % n) (b + d - n) (big * big % n) ok (by omega) hsq w hm
    rw [hM (b + d - n) (by
      have : b + d = b + d - n + 1 * n := by omega
      rw [this]
      unfold Cg
      rw [Nat.add_mul_mod_self_right, show b + d - n + 1 * n - n = b + d - n by omega])] at cp
    exact wide_2 g n _ _ a b d _ _ _ _ (fun w hm => madeC ok w hm) cd c cs cp w hm
  · rw [decide_eq_false h, Nat.mod_eq_of_lt (show b + d < big by omega)] at c
    have cp := fun w hm => product_any g n (big % n) (big * big % n) (b + d) (big * big % n) ok (by omega) hsq w hm
    rw [hM (b + d) (Cg.refl _ _)] at cp
    exact wide_1 g n _ _ a b d _ _ (fun w hm => madeC ok w hm) cd c cp w hm
end Rg
end Go.Proofs.YtoagmdgmbkpghabDoor
