/- New -/
import Derived.Test.YtoagmdgmbkpghaaL5
namespace Go.Proofs.Ytoagmdgmbkpghaa
open Go.RowKit
namespace Rg

theorem lead_facts {n : Nat} (ok : Ok n) : ∃ l s, l = bl n ∧ l ≤ 384 ∧ s = 384 - l ∧ s < 384 ∧ n * 2 ^ s < big ∧ big < n * 2 ^ s + n * 2 ^ s := by
  have h0 : n ≠ 0 := by have := ok.three; omega
  have h1 := bl_lt n
  have h2 := bl_le n h0
  have h3 := bl_pos n h0
  have h4 := len_ok ok
  have hl : bl n ≤ 382 := by omega
  refine ⟨bl n, 384 - bl n, rfl, by omega, rfl, by omega, ?_, ?_⟩
  · obtain ⟨m, hm, e⟩ := big_pow
    have hs : 64 * m = bl n + (384 - bl n) := by omega
    rw [e, hs, Nat.pow_add]
    exact Nat.mul_lt_mul_of_pos_right h1 (Nat.two_pow_pos _)
  · obtain ⟨m, hm, e⟩ := big_pow
    have hs : 64 * m = (bl n - 1) + 1 + (384 - bl n) := by omega
    have hne : 2 ^ (bl n - 1) ≠ n := by
      intro h
      rcases Nat.lt_or_ge (bl n - 1) 1 with g | g
      · have : bl n - 1 = 0 := by omega
        rw [this, Nat.pow_zero] at h
        have := ok.three; omega
      · obtain ⟨k, hk⟩ : ∃ k, bl n - 1 = k + 1 := ⟨bl n - 1 - 1, by omega⟩
        rw [hk, Nat.pow_succ] at h
        have := ok.odd; omega
    have hlt : 2 ^ (bl n - 1) < n := by omega
    have h5 := Nat.mul_lt_mul_of_pos_right hlt (Nat.two_pow_pos (384 - bl n))
    rw [e, hs, Nat.pow_add, Nat.pow_succ, Nat.mul_right_comm]
    omega
theorem powersOf_any {n : Nat} (ok : Ok n) (w : World) : Calls Try.prog 14 #[N n] w fun e w' => e = .returned (.tuple #[N (big % n), N (big * big % n)]) ∧ Below w.heap.size w w' := by
  obtain ⟨l, s, hl, hl2, hs, hs2, hB, hB2⟩ := lead_facts ok
  have cb := fun w => shift_up n s hs2 w
  rw [Nat.mod_eq_of_lt hB] at cb
  have hBp : 0 < n * 2 ^ s := by omega
  have cl := fun w => len_any n ok.big w
  rw [← hl] at cl
  obtain ⟨B, hBe⟩ : ∃ B, B = n * 2 ^ s := ⟨_, rfl⟩
  rw [← hBe] at cb hB hB2 hBp
  have cs := fun w => sub_any 0 B big_pos2 hB w
  rw [Nat.zero_add, Nat.mod_eq_of_lt (show big - B < big by omega)] at cs
  have hL0 : big - B < B := by omega
  have hmod : big % B = big - B := by
    rw [Nat.mod_eq_sub_mod (by omega), Nat.mod_eq_of_lt hL0]
  have d1 := fun g w hm => doubleL_any g B (big - B) s (by omega) hB hL0 w hm
  have e1 : (big - B) * 2 ^ s % B = big % n * 2 ^ s := by
    rw [← hmod, Nat.mul_mod, Nat.mod_mod, ← Nat.mul_mod, hBe, Nat.mul_mod_mul_right]
  rw [e1] at d1
  have hp := Nat.two_pow_pos s
  have hL1 : big % n * 2 ^ s < B := by
    rw [hBe]; exact Nat.mul_lt_mul_of_pos_right (Nat.mod_lt _ ok.pos) hp
  obtain ⟨k, hk⟩ : ∃ k : Nat, k = 384 := ⟨_, rfl⟩
  have d2 := fun g w hm => doubleL_any g B (big % n * 2 ^ s) k (by omega) hB hL1 w hm
  have e2 : big % n * 2 ^ s * 2 ^ k % B = big * big % n * 2 ^ s := by
    rw [pow_is k (by omega), Nat.mul_right_comm, hBe, Nat.mul_mod_mul_right, Nat.mul_mod, Nat.mod_mod, ← Nat.mul_mod]
  rw [e2] at d2
  have hL2 : big * big % n * 2 ^ s < B := by
    rw [hBe]; exact Nat.mul_lt_mul_of_pos_right (Nat.mod_lt _ ok.pos) hp
  have ek : ((k : Nat) : Int) = 384 := by omega
  rw [ek] at d2
  have co := fun w => shift_neg' (big % n * 2 ^ s) s (by omega) hs2 w
  have cq := fun w => shift_neg' (big * big % n * 2 ^ s) s (by omega) hs2 w
  rw [Nat.mul_div_cancel _ hp] at co cq
  exact powersOf_gen n l s B 0 (big - B) _ _ _ _ _ rfl hl2 hs cl cb cs d1 co d2 cq w
set_option maxRecDepth 100000 in
theorem new_1 (n : Nat) (hr : (wd n 0).tmod 2 = 0) (w : World) :
    Calls Try.prog 6 #[N n] w fun e w' => e = .returned (.tuple #[.pointer none, .int .i64 2]) ∧ Below w.heap.size w w' := by
  have H0 : Hid (_ ∧ _) := ⟨Mm.nil w, Below.refl w.heap.size w⟩
  go_enter Try.func6, Try.ntmps6
  refine wp_seq ?_
  refine walk_seq 3 [.made (cells6 n) 24, .quiet (.pointer none), .quiet (.int .i64 0)] (fun w' => Mm w' []) ?pre1 ?F1 ?hpre1 (fun γ => ?hF1) (by kernel_rfl) ?hL1 ?hS1 ?ho1 ?he1
  case hpre1 =>
    simp only [List.take_succ_cons, List.take_zero]
    exact rfl
  case hF1 =>
    simp only [fill, Kind.val, Act.put, List.setIfInBounds_toArray, List.set_cons_zero, List.set_cons_succ]
    exact rfl
  case hL1 => exact trivial
  case hS1 => exact fun w' hb => H0.out.1.below hb
  case ho1 =>
    refine AllOk.cons ?_ ?_
    · exact fun γ => ⟨rfl, fun w' => ex_box6 rfl rfl⟩
    refine AllOk.cons ?_ ?_
    · exact fun γ => ⟨rfl, fun w' _ => rfl⟩
    refine AllOk.cons ?_ ?_
    · exact fun γ => ⟨rfl, fun w' _ => rfl⟩
    exact trivial
  intro γ w1 l hM hl
  have M1 : Mm w1 [(γ 0, cells6 n)] := H0.out.1.grow hM (Nat.le_refl _) hl [0] rfl (by decide)
  have B1 : Below w.heap.size w w1 := H0.out.2.trans (hM.below.mono H0.out.2.size)
  have o1_0 : Hid (w.heap.size ≤ γ 0) := Nat.le_trans H0.out.2.size (hM.fin (Nat.le_refl _) hl (i := 0) rfl).2.1
  clear hM hl l
  generalize γ 0 = γ1_0 at M1 o1_0 ⊢
  clear γ
  have H1 : Hid (_ ∧ _) := ⟨M1, B1⟩
  clear M1 B1
  refine rest_at (l := []) rfl ?_
  refine rest_nil ?_
  refine then_normal ?_
  refine wp_seq ?_
  refine wp_seq ?_
  refine walk_any (by kernel_rfl) 14 [.quiet (PT γ1_0 0), .quiet (.int .u64 (wd n 0)), .quiet (.int .u64 0), .quiet (.bool true), .quiet (.bool true), .gone, .gone, .gone, .quiet (.bool true), .quiet (.bool true), .gone, .gone, .gone, .quiet (.bool true)] (fun w' => Mm w' [(γ1_0, cells6 n)]) ?pre2 ?F2 ?hpre2 (fun γ => ?hF2) (by kernel_rfl) ?hL2 ?hS2 ?ho2 ?he2
  case hpre2 =>
    simp only [List.take_succ_cons, List.take_zero]
    exact rfl
  case hF2 =>
    simp only [fill, Kind.val, Act.put, List.setIfInBounds_toArray, List.set_cons_zero, List.set_cons_succ]
    exact rfl
  case hL2 => exact trivial
  case hS2 => exact fun w' hb => H1.out.1.below hb
  case ho2 =>
    refine AllOk.cons ?_ ?_
    · (refine fun γ => ⟨rfl, fun w' h => ?_⟩; clear h; go_simp)
    refine AllOk.cons ?_ ?_
    · exact fun γ => ⟨rfl, fun w' h => ex_load1 h 0 rfl rfl rfl rfl⟩
    refine AllOk.cons ?_ ?_
    · (refine fun γ => ⟨rfl, fun w' h => ?_⟩; clear h; go_simp)
    refine AllOk.cons ?_ ?_
    · (refine fun γ => ⟨rfl, fun w' h => ?_⟩; clear h; go_simp)
    refine AllOk.cons ?_ ?_
    · exact fun γ => ⟨rfl, fun w' _ => rfl⟩
    refine AllOk.cons ?_ ?_
    · exact fun γ => rfl
    refine AllOk.cons ?_ ?_
    · exact fun γ => rfl
    refine AllOk.cons ?_ ?_
    · exact fun γ => rfl
    refine AllOk.cons ?_ ?_
    · (refine fun γ => ⟨rfl, fun w' h => ?_⟩; clear h; go_simp)
    refine AllOk.cons ?_ ?_
    · exact fun γ => ⟨rfl, fun w' _ => rfl⟩
    refine AllOk.cons ?_ ?_
    · exact fun γ => rfl
    refine AllOk.cons ?_ ?_
    · exact fun γ => rfl
    refine AllOk.cons ?_ ?_
    · exact fun γ => rfl
    refine AllOk.cons ?_ ?_
    · (refine fun γ => ⟨rfl, fun w' h => ?_⟩; clear h; go_simp)
    exact trivial
  intro γ w2 l hM hl
  have M2 : Mm w2 [(γ1_0, cells6 n)] := H1.out.1.grow hM (Nat.le_refl _) hl [] rfl (by decide)
  have B2 : Below w.heap.size w w2 := H1.out.2.trans (hM.below.mono H1.out.2.size)
  clear hM hl l H1
  clear γ
  have H2 : Hid (_ ∧ _) := ⟨M2, B2⟩
  clear M2 B2
  refine rest_at (l := []) rfl ?_
  refine rest_nil ?_
  refine then_normal ?_
  refine wp_cond_true rfl ?_
  refine wp_seq ?_
  refine walk_seq 2 [.quiet (.pointer none), .quiet (.int .i64 2)] (fun w' => Mm w' [(γ1_0, cells6 n)]) ?pre3 ?F3 ?hpre3 (fun γ => ?hF3) (by kernel_rfl) ?hL3 ?hS3 ?ho3 ?he3
  case hpre3 =>
    simp only [List.take_succ_cons, List.take_zero]
    exact rfl
  case hF3 =>
    simp only [fill, Kind.val, Act.put, List.setIfInBounds_toArray, List.set_cons_zero, List.set_cons_succ]
    exact rfl
  case hL3 => exact trivial
  case hS3 => exact fun w' hb => H2.out.1.below hb
  case ho3 =>
    refine AllOk.cons ?_ ?_
    · exact fun γ => ⟨rfl, fun w' _ => rfl⟩
    refine AllOk.cons ?_ ?_
    · exact fun γ => ⟨rfl, fun w' _ => rfl⟩
    exact trivial
  intro γ w3 l hM hl
  have M3 : Mm w3 [(γ1_0, cells6 n)] := H2.out.1.grow hM (Nat.le_refl _) hl [] rfl (by decide)
  have B3 : Below w.heap.size w w3 := H2.out.2.trans (hM.below.mono H2.out.2.size)
  clear hM hl l H2
  clear γ
  have H3 : Hid (_ ∧ _) := ⟨M3, B3⟩
  clear M3 B3
  refine rest_at (l := []) rfl ?_
  refine rest_nil ?_
  refine then_normal ?_
  refine wp_ret ?_
  repeat (first | refine then_ret ?_ | refine block_ret ?_)
  refine bodyPost_ret (v := .tuple #[.pointer none, .int .i64 2]) (by simp [results, Try.results6, go_sem, *]) rfl ?_
  exact ⟨rfl, H3.out.2⟩
set_option maxRecDepth 100000 in
theorem new_2 (n : Nat) (hr : (wd n 0).tmod 2 = 1)
    (e1 : ∀ w, (Op.equalIn 10000 24 (N n) (N 1)).run Try.prog w = .ok true w)
    (c29 : ∀ w, Calls Try.prog 11 #[.int .u64 1] w fun e w' => e = .returned (N 1) ∧ Below w.heap.size w w') (w : World) :
    Calls Try.prog 6 #[N n] w fun e w' => e = .returned (.tuple #[.pointer none, .int .i64 2]) ∧ Below w.heap.size w w' := by
  have H0 : Hid (_ ∧ _) := ⟨Mm.nil w, Below.refl w.heap.size w⟩
  have C29 : Hid _ := c29
  clear c29
  go_enter Try.func6, Try.ntmps6
  refine wp_seq ?_
  refine walk_seq 3 [.made (cells6 n) 24, .quiet (.pointer none), .quiet (.int .i64 0)] (fun w' => Mm w' []) ?pre1 ?F1 ?hpre1 (fun γ => ?hF1) (by kernel_rfl) ?hL1 ?hS1 ?ho1 ?he1
  case hpre1 =>
    simp only [List.take_succ_cons, List.take_zero]
    exact rfl
  case hF1 =>
    simp only [fill, Kind.val, Act.put, List.setIfInBounds_toArray, List.set_cons_zero, List.set_cons_succ]
    exact rfl
  case hL1 => exact trivial
  case hS1 => exact fun w' hb => H0.out.1.below hb
  case ho1 =>
    refine AllOk.cons ?_ ?_
    · exact fun γ => ⟨rfl, fun w' => ex_box6 rfl rfl⟩
    refine AllOk.cons ?_ ?_
    · exact fun γ => ⟨rfl, fun w' _ => rfl⟩
    refine AllOk.cons ?_ ?_
    · exact fun γ => ⟨rfl, fun w' _ => rfl⟩
    exact trivial
  intro γ w1 l hM hl
  have M1 : Mm w1 [(γ 0, cells6 n)] := H0.out.1.grow hM (Nat.le_refl _) hl [0] rfl (by decide)
  have B1 : Below w.heap.size w w1 := H0.out.2.trans (hM.below.mono H0.out.2.size)
  have o1_0 : Hid (w.heap.size ≤ γ 0) := Nat.le_trans H0.out.2.size (hM.fin (Nat.le_refl _) hl (i := 0) rfl).2.1
  clear hM hl l
  generalize γ 0 = γ1_0 at M1 o1_0 ⊢
  clear γ
  have H1 : Hid (_ ∧ _) := ⟨M1, B1⟩
  clear M1 B1
  refine rest_at (l := []) rfl ?_
  refine rest_nil ?_
  refine then_normal ?_
  refine wp_seq ?_
  refine wp_seq ?_
  refine walk_any (by kernel_rfl) 14 [.quiet (PT γ1_0 0), .quiet (.int .u64 (wd n 0)), .quiet (.int .u64 1), .quiet (.bool false), .quiet (.bool false), .quiet (N n), .call (N 1), .quiet (.bool true), .quiet (.bool true), .quiet (.bool true), .gone, .gone, .gone, .quiet (.bool true)] (fun w' => Mm w' [(γ1_0, cells6 n)]) ?pre2 ?F2 ?hpre2 (fun γ => ?hF2) (by kernel_rfl) ?hL2 ?hS2 ?ho2 ?he2
  case hpre2 =>
    simp only [List.take_succ_cons, List.take_zero]
    exact rfl
  case hF2 =>
    simp only [fill, Kind.val, Act.put, List.setIfInBounds_toArray, List.set_cons_zero, List.set_cons_succ]
    exact rfl
  case hL2 => exact trivial
  case hS2 => exact fun w' hb => H1.out.1.below hb
  case ho2 =>
    refine AllOk.cons ?_ ?_
    · (refine fun γ => ⟨rfl, fun w' h => ?_⟩; clear h; go_simp)
    refine AllOk.cons ?_ ?_
    · exact fun γ => ⟨rfl, fun w' h => ex_load1 h 0 rfl rfl rfl rfl⟩
    refine AllOk.cons ?_ ?_
    · (refine fun γ => ⟨rfl, fun w' h => ?_⟩; clear h; go_simp)
    refine AllOk.cons ?_ ?_
    · (refine fun γ => ⟨rfl, fun w' h => ?_⟩; clear h; go_simp)
    refine AllOk.cons ?_ ?_
    · exact fun γ => ⟨rfl, fun w' _ => rfl⟩
    refine AllOk.cons ?_ ?_
    · exact fun γ => ⟨rfl, fun w' h => ex_load6 h 0 rfl rfl rfl rfl⟩
    refine AllOk.cons ?_ ?_
    · exact fun γ => ⟨rfl, fun w' h => ⟨11, #[.int .u64 1], exec_call rfl call11 rfl (by simp only [List.map_toArray, List.map_cons, List.map_nil]; rfl), C29.out w'⟩⟩
    refine AllOk.cons ?_ ?_
    · exact fun γ => ⟨rfl, fun w' _ => exec_eq6 e1 rfl rfl rfl⟩
    refine AllOk.cons ?_ ?_
    · (refine fun γ => ⟨rfl, fun w' h => ?_⟩; clear h; go_simp)
    refine AllOk.cons ?_ ?_
    · exact fun γ => ⟨rfl, fun w' _ => rfl⟩
    refine AllOk.cons ?_ ?_
    · exact fun γ => rfl
    refine AllOk.cons ?_ ?_
    · exact fun γ => rfl
    refine AllOk.cons ?_ ?_
    · exact fun γ => rfl
    refine AllOk.cons ?_ ?_
    · (refine fun γ => ⟨rfl, fun w' h => ?_⟩; clear h; go_simp)
    exact trivial
  intro γ w2 l hM hl
  have M2 : Mm w2 [(γ1_0, cells6 n)] := H1.out.1.grow hM (Nat.le_refl _) hl [] rfl (by decide)
  have B2 : Below w.heap.size w w2 := H1.out.2.trans (hM.below.mono H1.out.2.size)
  clear hM hl l H1
  clear γ
  have H2 : Hid (_ ∧ _) := ⟨M2, B2⟩
  clear M2 B2
  refine rest_at (l := []) rfl ?_
  refine rest_nil ?_
  refine then_normal ?_
  refine wp_cond_true rfl ?_
  refine wp_seq ?_
  refine walk_seq 2 [.quiet (.pointer none), .quiet (.int .i64 2)] (fun w' => Mm w' [(γ1_0, cells6 n)]) ?pre3 ?F3 ?hpre3 (fun γ => ?hF3) (by kernel_rfl) ?hL3 ?hS3 ?ho3 ?he3
  case hpre3 =>
    simp only [List.take_succ_cons, List.take_zero]
    exact rfl
  case hF3 =>
    simp only [fill, Kind.val, Act.put, List.setIfInBounds_toArray, List.set_cons_zero, List.set_cons_succ]
    exact rfl
  case hL3 => exact trivial
  case hS3 => exact fun w' hb => H2.out.1.below hb
  case ho3 =>
    refine AllOk.cons ?_ ?_
    · exact fun γ => ⟨rfl, fun w' _ => rfl⟩
    refine AllOk.cons ?_ ?_
    · exact fun γ => ⟨rfl, fun w' _ => rfl⟩
    exact trivial
  intro γ w3 l hM hl
  have M3 : Mm w3 [(γ1_0, cells6 n)] := H2.out.1.grow hM (Nat.le_refl _) hl [] rfl (by decide)
  have B3 : Below w.heap.size w w3 := H2.out.2.trans (hM.below.mono H2.out.2.size)
  clear hM hl l H2
  clear γ
  have H3 : Hid (_ ∧ _) := ⟨M3, B3⟩
  clear M3 B3
  refine rest_at (l := []) rfl ?_
  refine rest_nil ?_
  refine then_normal ?_
  refine wp_ret ?_
  repeat (first | refine then_ret ?_ | refine block_ret ?_)
  refine bodyPost_ret (v := .tuple #[.pointer none, .int .i64 2]) (by simp [results, Try.results6, go_sem, *]) rfl ?_
  exact ⟨rfl, H3.out.2⟩
set_option maxRecDepth 100000 in
theorem new_3 (n : Nat) (L : Int) (hr : (wd n 0).tmod 2 = 1)
    (e1 : ∀ w, (Op.equalIn 10000 24 (N n) (N 1)).run Try.prog w = .ok false w) (hL : (382 : Int) < L)
    (c29 : ∀ w, Calls Try.prog 11 #[.int .u64 1] w fun e w' => e = .returned (N 1) ∧ Below w.heap.size w w')
    (c33 : ∀ w, Calls Try.prog 12 #[N n] w fun e w' => e = .returned (.int .i64 L) ∧ Below w.heap.size w w') (w : World) :
    Calls Try.prog 6 #[N n] w fun e w' => e = .returned (.tuple #[.pointer none, .int .i64 2]) ∧ Below w.heap.size w w' := by
  have H0 : Hid (_ ∧ _) := ⟨Mm.nil w, Below.refl w.heap.size w⟩
  have C29 : Hid _ := c29
  have C33 : Hid _ := c33
  clear c29 c33
  go_enter Try.func6, Try.ntmps6
  refine wp_seq ?_
  refine walk_seq 3 [.made (cells6 n) 24, .quiet (.pointer none), .quiet (.int .i64 0)] (fun w' => Mm w' []) ?pre1 ?F1 ?hpre1 (fun γ => ?hF1) (by kernel_rfl) ?hL1 ?hS1 ?ho1 ?he1
  case hpre1 =>
    simp only [List.take_succ_cons, List.take_zero]
    exact rfl
  case hF1 =>
    simp only [fill, Kind.val, Act.put, List.setIfInBounds_toArray, List.set_cons_zero, List.set_cons_succ]
    exact rfl
  case hL1 => exact trivial
  case hS1 => exact fun w' hb => H0.out.1.below hb
  case ho1 =>
    refine AllOk.cons ?_ ?_
    · exact fun γ => ⟨rfl, fun w' => ex_box6 rfl rfl⟩
    refine AllOk.cons ?_ ?_
    · exact fun γ => ⟨rfl, fun w' _ => rfl⟩
    refine AllOk.cons ?_ ?_
    · exact fun γ => ⟨rfl, fun w' _ => rfl⟩
    exact trivial
  intro γ w1 l hM hl
  have M1 : Mm w1 [(γ 0, cells6 n)] := H0.out.1.grow hM (Nat.le_refl _) hl [0] rfl (by decide)
  have B1 : Below w.heap.size w w1 := H0.out.2.trans (hM.below.mono H0.out.2.size)
  have o1_0 : Hid (w.heap.size ≤ γ 0) := Nat.le_trans H0.out.2.size (hM.fin (Nat.le_refl _) hl (i := 0) rfl).2.1
  clear hM hl l
  generalize γ 0 = γ1_0 at M1 o1_0 ⊢
  clear γ
  have H1 : Hid (_ ∧ _) := ⟨M1, B1⟩
  clear M1 B1
  refine rest_at (l := []) rfl ?_
  refine rest_nil ?_
  refine then_normal ?_
  refine wp_seq ?_
  refine wp_seq ?_
  refine walk_any (by kernel_rfl) 14 [.quiet (PT γ1_0 0), .quiet (.int .u64 (wd n 0)), .quiet (.int .u64 1), .quiet (.bool false), .quiet (.bool false), .quiet (N n), .call (N 1), .quiet (.bool false), .quiet (.bool false), .quiet (.bool false), .quiet (N n), .call (.int .i64 L), .quiet (.bool true), .quiet (.bool true)] (fun w' => Mm w' [(γ1_0, cells6 n)]) ?pre2 ?F2 ?hpre2 (fun γ => ?hF2) (by kernel_rfl) ?hL2 ?hS2 ?ho2 ?he2
  case hpre2 =>
    simp only [List.take_succ_cons, List.take_zero]
    exact rfl
  case hF2 =>
    simp only [fill, Kind.val, Act.put, List.setIfInBounds_toArray, List.set_cons_zero, List.set_cons_succ]
    exact rfl
  case hL2 => exact trivial
  case hS2 => exact fun w' hb => H1.out.1.below hb
  case ho2 =>
    refine AllOk.cons ?_ ?_
    · (refine fun γ => ⟨rfl, fun w' h => ?_⟩; clear h; go_simp)
    refine AllOk.cons ?_ ?_
    · exact fun γ => ⟨rfl, fun w' h => ex_load1 h 0 rfl rfl rfl rfl⟩
    refine AllOk.cons ?_ ?_
    · (refine fun γ => ⟨rfl, fun w' h => ?_⟩; clear h; go_simp)
    refine AllOk.cons ?_ ?_
    · (refine fun γ => ⟨rfl, fun w' h => ?_⟩; clear h; go_simp)
    refine AllOk.cons ?_ ?_
    · exact fun γ => ⟨rfl, fun w' _ => rfl⟩
    refine AllOk.cons ?_ ?_
    · exact fun γ => ⟨rfl, fun w' h => ex_load6 h 0 rfl rfl rfl rfl⟩
    refine AllOk.cons ?_ ?_
    · exact fun γ => ⟨rfl, fun w' h => ⟨11, #[.int .u64 1], exec_call rfl call11 rfl (by simp only [List.map_toArray, List.map_cons, List.map_nil]; rfl), C29.out w'⟩⟩
    refine AllOk.cons ?_ ?_
    · exact fun γ => ⟨rfl, fun w' _ => exec_eq6 e1 rfl rfl rfl⟩
    refine AllOk.cons ?_ ?_
    · (refine fun γ => ⟨rfl, fun w' h => ?_⟩; clear h; go_simp)
    refine AllOk.cons ?_ ?_
    · exact fun γ => ⟨rfl, fun w' _ => rfl⟩
    refine AllOk.cons ?_ ?_
    · exact fun γ => ⟨rfl, fun w' h => ex_load6 h 0 rfl rfl rfl rfl⟩
    refine AllOk.cons ?_ ?_
    · exact fun γ => ⟨rfl, fun w' h => ⟨12, #[N n], exec_call rfl call12 rfl (by simp only [List.map_toArray, List.map_cons, List.map_nil]; rfl), C33.out w'⟩⟩
    refine AllOk.cons ?_ ?_
    · (refine fun γ => ⟨rfl, fun w' h => ?_⟩; clear h; go_simp)
    refine AllOk.cons ?_ ?_
    · (refine fun γ => ⟨rfl, fun w' h => ?_⟩; clear h; go_simp)
    exact trivial
  intro γ w2 l hM hl
  have M2 : Mm w2 [(γ1_0, cells6 n)] := H1.out.1.grow hM (Nat.le_refl _) hl [] rfl (by decide)
  have B2 : Below w.heap.size w w2 := H1.out.2.trans (hM.below.mono H1.out.2.size)
  clear hM hl l H1
  clear γ
  have H2 : Hid (_ ∧ _) := ⟨M2, B2⟩
  clear M2 B2
  refine rest_at (l := []) rfl ?_
  refine rest_nil ?_
  refine then_normal ?_
  refine wp_cond_true rfl ?_
  refine wp_seq ?_
  refine walk_seq 2 [.quiet (.pointer none), .quiet (.int .i64 2)] (fun w' => Mm w' [(γ1_0, cells6 n)]) ?pre3 ?F3 ?hpre3 (fun γ => ?hF3) (by kernel_rfl) ?hL3 ?hS3 ?ho3 ?he3
  case hpre3 =>
    simp only [List.take_succ_cons, List.take_zero]
    exact rfl
  case hF3 =>
    simp only [fill, Kind.val, Act.put, List.setIfInBounds_toArray, List.set_cons_zero, List.set_cons_succ]
    exact rfl
  case hL3 => exact trivial
  case hS3 => exact fun w' hb => H2.out.1.below hb
  case ho3 =>
    refine AllOk.cons ?_ ?_
    · exact fun γ => ⟨rfl, fun w' _ => rfl⟩
    refine AllOk.cons ?_ ?_
    · exact fun γ => ⟨rfl, fun w' _ => rfl⟩
    exact trivial
  intro γ w3 l hM hl
  have M3 : Mm w3 [(γ1_0, cells6 n)] := H2.out.1.grow hM (Nat.le_refl _) hl [] rfl (by decide)
  have B3 : Below w.heap.size w w3 := H2.out.2.trans (hM.below.mono H2.out.2.size)
  clear hM hl l H2
  clear γ
  have H3 : Hid (_ ∧ _) := ⟨M3, B3⟩
  clear M3 B3
  refine rest_at (l := []) rfl ?_
  refine rest_nil ?_
  refine then_normal ?_
  refine wp_ret ?_
  repeat (first | refine then_ret ?_ | refine block_ret ?_)
  refine bodyPost_ret (v := .tuple #[.pointer none, .int .i64 2]) (by simp [results, Try.results6, go_sem, *]) rfl ?_
  exact ⟨rfl, H3.out.2⟩
set_option maxRecDepth 100000 in
theorem new_4 (n o s : Nat) (L : Int) (hr : (wd n 0).tmod 2 = 1)
    (e1 : ∀ w, (Op.equalIn 10000 24 (N n) (N 1)).run Try.prog w = .ok false w) (hL : ¬ (382 : Int) < L)
    (c29 : ∀ w, Calls Try.prog 11 #[.int .u64 1] w fun e w' => e = .returned (N 1) ∧ Below w.heap.size w w')
    (c33 : ∀ w, Calls Try.prog 12 #[N n] w fun e w' => e = .returned (.int .i64 L) ∧ Below w.heap.size w w')
    (c34 : ∀ w, Calls Try.prog 13 #[.int .u64 (wd n 0)] w fun e w' => e = .returned (.int .u64 (wrapZ (wd n 0))) ∧ Below w.heap.size w w')
    (c35 : ∀ w, Calls Try.prog 14 #[N n] w fun e w' => e = .returned (.tuple #[N o, N s]) ∧ Below w.heap.size w w') (w : World) :
    Calls Try.prog 6 #[N n] w fun e w' => Below w.heap.size w w' ∧ ∃ g, e = .returned (.tuple #[PT g 0, .int .i64 0]) ∧ w.heap.size ≤ g ∧ g < w'.heap.size ∧ Blk w' g (modx n o s) := by
  have H0 : Hid (_ ∧ _) := ⟨Mm.nil w, Below.refl w.heap.size w⟩
  have C29 : Hid _ := c29
  have C33 : Hid _ := c33
  have C34 : Hid _ := c34
  have C35 : Hid _ := c35
  clear c29 c33 c34 c35
  go_enter Try.func6, Try.ntmps6
  refine wp_seq ?_
  refine walk_seq 3 [.made (cells6 n) 24, .quiet (.pointer none), .quiet (.int .i64 0)] (fun w' => Mm w' []) ?pre1 ?F1 ?hpre1 (fun γ => ?hF1) (by kernel_rfl) ?hL1 ?hS1 ?ho1 ?he1
  case hpre1 =>
    simp only [List.take_succ_cons, List.take_zero]
    exact rfl
  case hF1 =>
    simp only [fill, Kind.val, Act.put, List.setIfInBounds_toArray, List.set_cons_zero, List.set_cons_succ]
    exact rfl
  case hL1 => exact trivial
  case hS1 => exact fun w' hb => H0.out.1.below hb
  case ho1 =>
    refine AllOk.cons ?_ ?_
    · exact fun γ => ⟨rfl, fun w' => ex_box6 rfl rfl⟩
    refine AllOk.cons ?_ ?_
    · exact fun γ => ⟨rfl, fun w' _ => rfl⟩
    refine AllOk.cons ?_ ?_
    · exact fun γ => ⟨rfl, fun w' _ => rfl⟩
    exact trivial
  intro γ w1 l hM hl
  have M1 : Mm w1 [(γ 0, cells6 n)] := H0.out.1.grow hM (Nat.le_refl _) hl [0] rfl (by decide)
  have B1 : Below w.heap.size w w1 := H0.out.2.trans (hM.below.mono H0.out.2.size)
  have o1_0 : Hid (w.heap.size ≤ γ 0) := Nat.le_trans H0.out.2.size (hM.fin (Nat.le_refl _) hl (i := 0) rfl).2.1
  clear hM hl l
  generalize γ 0 = γ1_0 at M1 o1_0 ⊢
  clear γ
  have H1 : Hid (_ ∧ _) := ⟨M1, B1⟩
  clear M1 B1
  refine rest_at (l := []) rfl ?_
  refine rest_nil ?_
  refine then_normal ?_
  refine wp_seq ?_
  refine wp_seq ?_
  refine walk_any (by kernel_rfl) 14 [.quiet (PT γ1_0 0), .quiet (.int .u64 (wd n 0)), .quiet (.int .u64 1), .quiet (.bool false), .quiet (.bool false), .quiet (N n), .call (N 1), .quiet (.bool false), .quiet (.bool false), .quiet (.bool false), .quiet (N n), .call (.int .i64 L), .quiet (.bool false), .quiet (.bool false)] (fun w' => Mm w' [(γ1_0, cells6 n)]) ?pre2 ?F2 ?hpre2 (fun γ => ?hF2) (by kernel_rfl) ?hL2 ?hS2 ?ho2 ?he2
  case hpre2 =>
    simp only [List.take_succ_cons, List.take_zero]
    exact rfl
  case hF2 =>
    simp only [fill, Kind.val, Act.put, List.setIfInBounds_toArray, List.set_cons_zero, List.set_cons_succ]
    exact rfl
  case hL2 => exact trivial
  case hS2 => exact fun w' hb => H1.out.1.below hb
  case ho2 =>
    refine AllOk.cons ?_ ?_
    · (refine fun γ => ⟨rfl, fun w' h => ?_⟩; clear h; go_simp)
    refine AllOk.cons ?_ ?_
    · exact fun γ => ⟨rfl, fun w' h => ex_load1 h 0 rfl rfl rfl rfl⟩
    refine AllOk.cons ?_ ?_
    · (refine fun γ => ⟨rfl, fun w' h => ?_⟩; clear h; go_simp)
    refine AllOk.cons ?_ ?_
    · (refine fun γ => ⟨rfl, fun w' h => ?_⟩; clear h; go_simp)
    refine AllOk.cons ?_ ?_
    · exact fun γ => ⟨rfl, fun w' _ => rfl⟩
    refine AllOk.cons ?_ ?_
    · exact fun γ => ⟨rfl, fun w' h => ex_load6 h 0 rfl rfl rfl rfl⟩
    refine AllOk.cons ?_ ?_
    · exact fun γ => ⟨rfl, fun w' h => ⟨11, #[.int .u64 1], exec_call rfl call11 rfl (by simp only [List.map_toArray, List.map_cons, List.map_nil]; rfl), C29.out w'⟩⟩
    refine AllOk.cons ?_ ?_
    · exact fun γ => ⟨rfl, fun w' _ => exec_eq6 e1 rfl rfl rfl⟩
    refine AllOk.cons ?_ ?_
    · (refine fun γ => ⟨rfl, fun w' h => ?_⟩; clear h; go_simp)
    refine AllOk.cons ?_ ?_
    · exact fun γ => ⟨rfl, fun w' _ => rfl⟩
    refine AllOk.cons ?_ ?_
    · exact fun γ => ⟨rfl, fun w' h => ex_load6 h 0 rfl rfl rfl rfl⟩
    refine AllOk.cons ?_ ?_
    · exact fun γ => ⟨rfl, fun w' h => ⟨12, #[N n], exec_call rfl call12 rfl (by simp only [List.map_toArray, List.map_cons, List.map_nil]; rfl), C33.out w'⟩⟩
    refine AllOk.cons ?_ ?_
    · (refine fun γ => ⟨rfl, fun w' h => ?_⟩; clear h; go_simp)
    refine AllOk.cons ?_ ?_
    · (refine fun γ => ⟨rfl, fun w' h => ?_⟩; clear h; go_simp)
    exact trivial
  intro γ w2 l hM hl
  have M2 : Mm w2 [(γ1_0, cells6 n)] := H1.out.1.grow hM (Nat.le_refl _) hl [] rfl (by decide)
  have B2 : Below w.heap.size w w2 := H1.out.2.trans (hM.below.mono H1.out.2.size)
  clear hM hl l H1
  clear γ
  have H2 : Hid (_ ∧ _) := ⟨M2, B2⟩
  clear M2 B2
  refine rest_at (l := []) rfl ?_
  refine rest_nil ?_
  refine then_normal ?_
  refine wp_cond_false rfl ?_
  refine wp_skip ?_
  refine then_normal ?_
  refine wp_seq ?_
  refine walk_any (by kernel_rfl) 6 [.quiet (N n), .quiet (PT γ1_0 0), .quiet (.int .u64 (wd n 0)), .call (.int .u64 (wrapZ (wd n 0))), .quiet (modv n 0 0), .made (modx n 0 0) 40] (fun w' => Mm w' [(γ1_0, cells6 n)]) ?pre3 ?F3 ?hpre3 (fun γ => ?hF3) (by kernel_rfl) ?hL3 ?hS3 ?ho3 ?he3
  case hpre3 =>
    simp only [List.take_succ_cons, List.take_zero]
    exact rfl
  case hF3 =>
    simp only [fill, Kind.val, Act.put, List.setIfInBounds_toArray, List.set_cons_zero, List.set_cons_succ]
    exact rfl
  case hL3 => exact trivial
  case hS3 => exact fun w' hb => H2.out.1.below hb
  case ho3 =>
    refine AllOk.cons ?_ ?_
    · exact fun γ => ⟨rfl, fun w' h => ex_load6 h 0 rfl rfl rfl rfl⟩
    refine AllOk.cons ?_ ?_
    · (refine fun γ => ⟨rfl, fun w' h => ?_⟩; clear h; go_simp)
    refine AllOk.cons ?_ ?_
    · exact fun γ => ⟨rfl, fun w' h => ex_load1 h 0 rfl rfl rfl rfl⟩
    refine AllOk.cons ?_ ?_
    · exact fun γ => ⟨rfl, fun w' h => ⟨13, #[.int .u64 (wd n 0)], exec_call rfl call13 rfl (by simp only [List.map_toArray, List.map_cons, List.map_nil]; rfl), C34.out w'⟩⟩
    refine AllOk.cons ?_ ?_
    · exact fun γ => ⟨rfl, fun w' _ => ex_build39 rfl rfl rfl⟩
    refine AllOk.cons ?_ ?_
    · exact fun γ => ⟨rfl, fun w' => ex_box39 rfl rfl⟩
    exact trivial
  intro γ w3 l hM hl
  have M3 : Mm w3 [(γ 5, modx n 0 0), (γ1_0, cells6 n)] := H2.out.1.grow hM (Nat.le_refl _) hl [5] rfl (by decide)
  have B3 : Below w.heap.size w w3 := H2.out.2.trans (hM.below.mono H2.out.2.size)
  have o3_5 : Hid (w.heap.size ≤ γ 5) := Nat.le_trans H2.out.2.size (hM.fin (Nat.le_refl _) hl (i := 5) rfl).2.1
  clear hM hl l H2
  generalize γ 5 = γ3_5 at M3 o3_5 ⊢
  clear γ
  have H3 : Hid (_ ∧ _) := ⟨M3, B3⟩
  clear M3 B3
  refine rest_at (l := [6]) rfl ?_
  refine rest_set (d := 4) rfl rfl rfl rfl ?_
  simp only [Act.put, List.setIfInBounds_toArray, List.set_cons_zero, List.set_cons_succ]
  refine rest_nil ?_
  refine then_normal ?_
  refine wp_seq ?_
  refine walk_seq 9 [.quiet (PT γ3_5 0), .quiet (PT γ3_5 0), .quiet (N n), .call (.tuple #[N o, N s]), .quiet (.tuple #[N o, N s]), .quiet (N o), .quiet (N s), .quiet (PT γ3_5 0), .quiet (PT γ3_5 7)] (fun w' => Mm w' [(γ3_5, modx n 0 0), (γ1_0, cells6 n)]) ?pre4 ?F4 ?hpre4 (fun γ => ?hF4) (by kernel_rfl) ?hL4 ?hS4 ?ho4 ?he4
  case hpre4 =>
    simp only [List.take_succ_cons, List.take_zero]
    exact rfl
  case hF4 =>
    simp only [fill, Kind.val, Act.put, List.setIfInBounds_toArray, List.set_cons_zero, List.set_cons_succ]
    exact rfl
  case hL4 => exact trivial
  case hS4 => exact fun w' hb => H3.out.1.below hb
  case ho4 =>
    refine AllOk.cons ?_ ?_
    · exact fun γ => ⟨rfl, fun w' _ => rfl⟩
    refine AllOk.cons ?_ ?_
    · exact fun γ => ⟨rfl, fun w' _ => rfl⟩
    refine AllOk.cons ?_ ?_
    · exact fun γ => ⟨rfl, fun w' h => ex_load6 h 1 rfl rfl rfl rfl⟩
    refine AllOk.cons ?_ ?_
    · exact fun γ => ⟨rfl, fun w' h => ⟨14, #[N n], exec_call rfl call14 rfl (by simp only [List.map_toArray, List.map_cons, List.map_nil]; rfl), C35.out w'⟩⟩
    refine AllOk.cons ?_ ?_
    · exact fun γ => ⟨rfl, fun w' _ => rfl⟩
    refine AllOk.cons ?_ ?_
    · (refine fun γ => ⟨rfl, fun w' h => ?_⟩; clear h; go_simp)
    refine AllOk.cons ?_ ?_
    · (refine fun γ => ⟨rfl, fun w' h => ?_⟩; clear h; go_simp)
    refine AllOk.cons ?_ ?_
    · (refine fun γ => ⟨rfl, fun w' h => ?_⟩; clear h; go_simp)
    refine AllOk.cons ?_ ?_
    · (refine fun γ => ⟨rfl, fun w' h => ?_⟩; clear h; go_simp)
    exact trivial
  intro γ w4 l hM hl
  have M4 : Mm w4 [(γ3_5, modx n 0 0), (γ1_0, cells6 n)] := H3.out.1.grow hM (Nat.le_refl _) hl [] rfl (by decide)
  have B4 : Below w.heap.size w w4 := H3.out.2.trans (hM.below.mono H3.out.2.size)
  clear hM hl l H3
  clear γ
  have H4 : Hid (_ ∧ _) := ⟨M4, B4⟩
  clear M4 B4
  refine rest_at (l := [9, 10, 11, 12]) rfl ?_
  refine rest_store rfl rfl rfl (ex_store6 H4.out.1 0 rfl rfl rfl rfl (Nat.le_of_ble_eq_true rfl)) ?_
  have H5 : Hid (Mm (w4.setCells γ3_5 7 (cells6 o)) [(γ3_5, modx n o 0), (γ1_0, cells6 n)] ∧ Below w.heap.size w (w4.setCells γ3_5 7 (cells6 o))) := ⟨H4.out.1.put 0 (off := 7) (vs := cells6 o) rfl (Nat.le_of_ble_eq_true rfl), below_setCells _ o3_5.out _ _ _ H4.out.2⟩
  clear H4
  generalize hgw : World.setCells _ _ _ _ = w5 at H5 ⊢
  clear hgw
  refine rest_set (d := 34) (v := PT γ3_5 0) (w' := w5) rfl rfl rfl (by go_simp) ?_
  simp only [Act.put, List.setIfInBounds_toArray, List.set_cons_zero, List.set_cons_succ]
  refine rest_set (d := 35) (v := PT γ3_5 13) (w' := w5) rfl rfl rfl (by go_simp) ?_
  simp only [Act.put, List.setIfInBounds_toArray, List.set_cons_zero, List.set_cons_succ]
  refine rest_store rfl rfl rfl (ex_store6 H5.out.1 0 rfl rfl rfl rfl (Nat.le_of_ble_eq_true rfl)) ?_
  have H6 : Hid (Mm (w5.setCells γ3_5 13 (cells6 s)) [(γ3_5, modx n o s), (γ1_0, cells6 n)] ∧ Below w.heap.size w (w5.setCells γ3_5 13 (cells6 s))) := ⟨H5.out.1.put 0 (off := 13) (vs := cells6 s) rfl (Nat.le_of_ble_eq_true rfl), below_setCells _ o3_5.out _ _ _ H5.out.2⟩
  clear H5
  generalize hgw : World.setCells _ _ _ _ = w6 at H6 ⊢
  clear hgw
  refine rest_nil ?_
  refine then_normal ?_
  refine wp_seq ?_
  refine walk_seq 3 [.quiet (PT γ3_5 0), .quiet (PT γ3_5 0), .quiet (.int .i64 0)] (fun w' => Mm w' [(γ3_5, modx n o s), (γ1_0, cells6 n)]) ?pre5 ?F5 ?hpre5 (fun γ => ?hF5) (by kernel_rfl) ?hL5 ?hS5 ?ho5 ?he5
  case hpre5 =>
    simp only [List.take_succ_cons, List.take_zero]
    exact rfl
  case hF5 =>
    simp only [fill, Kind.val, Act.put, List.setIfInBounds_toArray, List.set_cons_zero, List.set_cons_succ]
    exact rfl
  case hL5 => exact trivial
  case hS5 => exact fun w' hb => H6.out.1.below hb
  case ho5 =>
    refine AllOk.cons ?_ ?_
    · exact fun γ => ⟨rfl, fun w' _ => rfl⟩
    refine AllOk.cons ?_ ?_
    · exact fun γ => ⟨rfl, fun w' _ => rfl⟩
    refine AllOk.cons ?_ ?_
    · exact fun γ => ⟨rfl, fun w' _ => rfl⟩
    exact trivial
  intro γ w7 l hM hl
  have M7 : Mm w7 [(γ3_5, modx n o s), (γ1_0, cells6 n)] := H6.out.1.grow hM (Nat.le_refl _) hl [] rfl (by decide)
  have B7 : Below w.heap.size w w7 := H6.out.2.trans (hM.below.mono H6.out.2.size)
  clear hM hl l H6
  clear γ
  have H7 : Hid (_ ∧ _) := ⟨M7, B7⟩
  clear M7 B7
  refine rest_at (l := []) rfl ?_
  refine rest_nil ?_
  refine then_normal ?_
  refine wp_ret ?_
  repeat (first | refine then_ret ?_ | refine block_ret ?_)
  refine bodyPost_ret (v := .tuple #[PT γ3_5 0, .int .i64 0]) (by simp [results, Try.results6, go_sem, *]) rfl ?_
  exact ⟨H7.out.2, γ3_5, rfl, o3_5.out, H7.out.1.lt (List.mem_of_getElem? (i := 0) rfl), (H7.out.1.blk _ (List.mem_of_getElem? (i := 0) rfl)).2⟩
theorem new_ok {n : Nat} (ok : Ok n) (w : World) : Calls Try.prog 6 #[N n] w fun e w' => Below w.heap.size w w' ∧ ∃ g, e = .returned (.tuple #[PT g 0, .int .i64 0]) ∧ w.heap.size ≤ g ∧ g < w'.heap.size ∧ Blk w' g (modc n) := by
  have hw := word_mod n
  rw [ok.odd] at hw
  have e1 := fun w => run_eqN n 1 ok.big (small_big 1 (by decide)) w
  rw [decide_eq_false (by have := ok.three; omega)] at e1
  exact new_4 n (big % n) (big * big % n) _ hw e1 (len_ok ok) (fun w => of_any 1 (by decide) w) (fun w => len_any n ok.big w) (fun w => (wrapOf_any (wd n 0) w).mono fun e w' ⟨h1, h2⟩ => ⟨h1, h2 ▸ Below.refl _ _⟩) (fun w => powersOf_any ok w) w
theorem new_bad {n : Nat} (hn : n < big) (bad : ¬ Ok n) (w : World) : Calls Try.prog 6 #[N n] w fun e w' => e = .returned (.tuple #[.pointer none, .int .i64 2]) ∧ Below w.heap.size w w' := by
  have hw := word_mod n
  by_cases h : n % 2 = 1
  · rw [h] at hw
    have e1 := fun w => run_eqN n 1 hn (small_big 1 (by decide)) w
    by_cases h2 : n = 1
    · rw [decide_eq_true h2] at e1
      exact new_2 n hw e1 (fun w => of_any 1 (by decide) w) w
    · rw [decide_eq_false h2] at e1
      by_cases h3 : (382 : Int) < (bl n : Nat)
      · exact new_3 n _ hw e1 h3 (fun w => of_any 1 (by decide) w) (fun w => len_any n hn w) w
      · exact absurd (ok_len h h2 h3) bad
  · rw [show n % 2 = 0 by omega] at hw
    exact new_1 n hw w
end Rg
end Go.Proofs.Ytoagmdgmbkpghaa
