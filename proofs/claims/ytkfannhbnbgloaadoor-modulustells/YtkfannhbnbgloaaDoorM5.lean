/- oneOf, squareOfOne -/
import Derived.Test.YtkfannhbnbgloaaDoorM4
namespace Go.Proofs.YtkfannhbnbgloaaDoor
open Go.RowKit
namespace Rg
theorem call29 : ∀ args w, (callFunc 29 args).run Tryd.prog w = .ok (.enter 29 args) w := by intro args w; go_simp
theorem call32 : ∀ args w, (callFunc 32 args).run Tryd.prog w = .ok (.enter 32 args) w := by intro args w; go_simp
theorem call41 : ∀ args w, (callFunc 41 args).run Tryd.prog w = .ok (.enter 41 args) w := by intro args w; go_simp
theorem call45 : ∀ args w, (callFunc 45 args).run Tryd.prog w = .ok (.enter 45 args) w := by intro args w; go_simp

theorem one_eq {n : Nat} (ok : Ok n) : (big - 1) % n + 1 = big % n := by
  have h0 : big % n ≠ 0 := fun h => by
    have h1 := ri_big n ok.odd
    unfold Cg at h1
    rw [Nat.mul_mod, h, Nat.zero_mul, Nat.zero_mod, Nat.mod_eq_of_lt (by have := ok.three; omega)] at h1
    cases h1
  have h1 := Nat.div_add_mod big n
  have h2 := Nat.mod_lt big ok.pos
  have e : big - 1 = n * (big / n) + (big % n - 1) := by omega
  rw [e, Nat.mul_add_mod, Nat.mod_eq_of_lt (by omega)]
  omega
theorem okLt {n : Nat} (ok : Ok n) (x : Nat) : x % n < big := Nat.lt_trans (Nat.mod_lt _ ok.pos) ok.big
theorem dbl_eq {n : Nat} (ok : Ok n) (x : Nat) : (if x % n + x % n < n then x % n + x % n else x % n + x % n - n) = 2 * x % n := by
  refine low_cut n _ _ ?_ (by have := Nat.mod_lt x ok.pos; omega) (Nat.mod_lt _ ok.pos)
  rw [← Nat.two_mul]
  exact ((Cg.mod n x).mulL 2).trans (Cg.mod _ _).symm
theorem sq_eq {n : Nat} (ok : Ok n) (k : Nat) : mont n (2 ^ (3 * 2 ^ k) * big % n) (2 ^ (3 * 2 ^ k) * big % n) = 2 ^ (3 * 2 ^ (k + 1)) * big % n := by
  refine Cg.eq_mod (n := n) ?_ (mont_lt _ _ _ ok.pos)
  refine (mont_cg n _ _).trans ?_
  have h1 := ((Cg.mod n (2 ^ (3 * 2 ^ k) * big)).mul (Cg.mod n (2 ^ (3 * 2 ^ k) * big))).mulR (ri n)
  refine h1.trans ?_
  have h2 := (ri_big n ok.odd).mulL (2 ^ (3 * 2 ^ k) * 2 ^ (3 * 2 ^ k) * big)
  rw [Nat.mul_one] at h2
  have e1 : 2 ^ (3 * 2 ^ k) * big * (2 ^ (3 * 2 ^ k) * big) * ri n = 2 ^ (3 * 2 ^ k) * 2 ^ (3 * 2 ^ k) * big * (big * ri n) := by
    simp only [Nat.mul_comm, Nat.mul_left_comm, Nat.mul_assoc]
  have e2 : 2 ^ (3 * 2 ^ (k + 1)) = 2 ^ (3 * 2 ^ k) * 2 ^ (3 * 2 ^ k) := by
    rw [← Nat.pow_add]
    congr 1
    rw [Nat.pow_succ]; omega
  rw [e1, e2]
  exact h2
theorem pow_is (k : Nat) (h : k = 64 * 6) : 2 ^ k = big := by subst h; exact big_eq.symm
set_option maxRecDepth 100000 in
theorem oneOf_any (n : Nat) (ok : Ok n) (w : World) :
    Calls Tryd.prog 35 #[N n] w fun e w' => e = .returned (N (big % n)) ∧ Below w.heap.size w w' := by
  have H0 : Hid (_ ∧ _) := ⟨Mm.nil w, Below.refl w.heap.size w⟩
  have c29 := fun w => of_any 1 (by decide) w
  have c40 := fun w => sub_any 0 1 big_pos (small_big 1 (by decide)) w
  rw [decide_eq_true (by decide : 0 < 1), Nat.zero_add, Nat.mod_eq_of_lt (show big - 1 < big by have := big_pos; omega)] at c40
  have c32 := fun w => divide_some (big - 1) n (by have := big_pos; omega) ok.big (by have := ok.three; omega) w
  have h45 : (big - 1) % n + 1 < big := by have := Nat.mod_lt (big - 1) ok.pos; have := ok.top; have := ok.three; omega
  have c45 := fun w => add_any ((big - 1) % n) 1 (by omega) (small_big 1 (by decide)) w
  rw [decide_eq_false (by omega), Nat.mod_eq_of_lt h45, one_eq ok] at c45
  have C29 : Hid _ := c29
  have C40 : Hid _ := c40
  have C32 : Hid _ := c32
  have C45 : Hid _ := c45
  clear c29 c40 c32 c45 h45
  go_enter Tryd.func35, Tryd.ntmps35
  refine wp_seq ?_
  refine walk_seq 2 [.made (cells6 n) 24, .made zero6 24] (fun w' => Mm w' []) ?pre1 ?F1 ?hpre1 (fun γ => ?hF1) (by kernel_rfl) ?hL1 ?hS1 ?ho1 ?he1
  case hpre1 =>
    simp only [List.take_succ_cons, List.take_zero]
    exact rfl
  case hF1 =>
    simp only [fill, Kind.val, Act.put, List.setIfInBounds_toArray, List.set_cons_zero, List.set_cons_succ]
    exact rfl
  case hL1 => exact trivial
  case hS1 => exact fun w' hb => H0.out.1.below hb
  case ho1 =>
    refine AllOk.cons ?_ ?_
    · exact fun γ => ⟨rfl, fun w' => ex_box6 rfl rfl⟩
    refine AllOk.cons ?_ ?_
    · exact fun γ => ⟨rfl, fun w' => exec_made6 rfl⟩
    exact trivial
  intro γ w1 l hM hl
  have M1 : Mm w1 [(γ 0, cells6 n), (γ 1, zero6)] := H0.out.1.grow hM (Nat.le_refl _) hl [0, 1] rfl (by decide)
  have B1 : Below w.heap.size w w1 := H0.out.2.trans (hM.below.mono H0.out.2.size)
  have o1_0 : Hid (w.heap.size ≤ γ 0) := Nat.le_trans H0.out.2.size (hM.fin (Nat.le_refl _) hl (i := 0) rfl).2.1
  have o1_1 : Hid (w.heap.size ≤ γ 1) := Nat.le_trans H0.out.2.size (hM.fin (Nat.le_refl _) hl (i := 1) rfl).2.1
  clear hM hl l
  generalize γ 0 = γ1_0 at M1 o1_0 ⊢
  generalize γ 1 = γ1_1 at M1 o1_1 ⊢
  clear γ
  have H1 : Hid (_ ∧ _) := ⟨M1, B1⟩
  clear M1 B1
  refine rest_at (l := []) rfl ?_
  refine rest_nil ?_
  refine then_normal ?_
  refine wp_seq ?_
  refine walk_seq 9 [.quiet (N 0), .call (N 1), .call (.tuple #[N (big - 1), .bool true]), .quiet (.tuple #[N (big - 1), .bool true]), .quiet (N (big - 1)), .quiet (.bool true), .made zero6 24, .laid 6 zero6 (cells6 (big - 1)), .quiet (.bool true)] (fun w' => Mm w' [(γ1_0, cells6 n), (γ1_1, zero6)]) ?pre2 ?F2 ?hpre2 (fun γ => ?hF2) (by kernel_rfl) ?hL2 ?hS2 ?ho2 ?he2
  case hpre2 =>
    simp only [List.take_succ_cons, List.take_zero]
    exact rfl
  case hF2 =>
    simp only [fill, Kind.val, Act.put, List.setIfInBounds_toArray, List.set_cons_zero, List.set_cons_succ]
    exact rfl
  case hL2 => exact ⟨⟨_, rfl⟩, trivial⟩
  case hS2 => exact fun w' hb => H1.out.1.below hb
  case ho2 =>
    refine AllOk.cons ?_ ?_
    · (refine fun γ => ⟨rfl, fun w' h => ?_⟩; clear h; exact ex_zero6 rfl)
    refine AllOk.cons ?_ ?_
    · exact fun γ => ⟨rfl, fun w' h => ⟨29, #[.int .u64 1], exec_call rfl call29 rfl (by simp only [List.map_toArray, List.map_cons, List.map_nil]; rfl), C29.out w'⟩⟩
    refine AllOk.cons ?_ ?_
    · exact fun γ => ⟨rfl, fun w' h => ⟨40, #[N 0, N 1], exec_call rfl call40 rfl (by simp only [List.map_toArray, List.map_cons, List.map_nil]; rfl), C40.out w'⟩⟩
    refine AllOk.cons ?_ ?_
    · exact fun γ => ⟨rfl, fun w' _ => rfl⟩
    refine AllOk.cons ?_ ?_
    · (refine fun γ => ⟨rfl, fun w' h => ?_⟩; clear h; go_simp)
    refine AllOk.cons ?_ ?_
    · (refine fun γ => ⟨rfl, fun w' h => ?_⟩; clear h; go_simp)
    refine AllOk.cons ?_ ?_
    · exact fun γ => ⟨rfl, fun w' => exec_made6 rfl⟩
    refine AllOk.cons ?_ ?_
    · exact fun γ => ⟨rfl, rfl, rfl, fun w' h => exec_laid6 h rfl rfl rfl⟩
    refine AllOk.cons ?_ ?_
    · exact fun γ => ⟨rfl, fun w' _ => rfl⟩
    exact trivial
  intro γ w2 l hM hl
  have M2 : Mm w2 [(γ 6, cells6 (big - 1)), (γ1_0, cells6 n), (γ1_1, zero6)] := H1.out.1.grow hM (Nat.le_refl _) hl [6] rfl (by decide)
  have B2 : Below w.heap.size w w2 := H1.out.2.trans (hM.below.mono H1.out.2.size)
  have o2_6 : Hid (w.heap.size ≤ γ 6) := Nat.le_trans H1.out.2.size (hM.fin (Nat.le_refl _) hl (i := 6) rfl).2.1
  clear hM hl l H1
  generalize γ 6 = γ2_6 at M2 o2_6 ⊢
  clear γ
  have H2 : Hid (_ ∧ _) := ⟨M2, B2⟩
  clear M2 B2
  refine rest_at (l := []) rfl ?_
  refine rest_nil ?_
  refine then_normal ?_
  refine wp_seq ?_
  refine walk_seq 12 [.quiet (N (big - 1)), .quiet (N n), .call (.tuple #[N ((big - 1) / n), N ((big - 1) % n), .int .i64 0]), .quiet (.tuple #[N ((big - 1) / n), N ((big - 1) % n), .int .i64 0]), .quiet (N ((big - 1) / n)), .quiet (N ((big - 1) % n)), .quiet (.int .i64 0), .made zero6 24, .made zero6 24, .laid 7 zero6 (cells6 ((big - 1) / n)), .laid 8 zero6 (cells6 ((big - 1) % n)), .quiet (.int .i64 0)] (fun w' => Mm w' [(γ2_6, cells6 (big - 1)), (γ1_0, cells6 n), (γ1_1, zero6)]) ?pre3 ?F3 ?hpre3 (fun γ => ?hF3) (by kernel_rfl) ?hL3 ?hS3 ?ho3 ?he3
  case hpre3 =>
    simp only [List.take_succ_cons, List.take_zero]
    exact rfl
  case hF3 =>
    simp only [fill, Kind.val, Act.put, List.setIfInBounds_toArray, List.set_cons_zero, List.set_cons_succ]
    exact rfl
  case hL3 => exact ⟨⟨_, rfl⟩, ⟨_, rfl⟩, trivial⟩
  case hS3 => exact fun w' hb => H2.out.1.below hb
  case ho3 =>
    refine AllOk.cons ?_ ?_
    · exact fun γ => ⟨rfl, fun w' h => ex_load6 h 0 rfl rfl rfl rfl⟩
    refine AllOk.cons ?_ ?_
    · exact fun γ => ⟨rfl, fun w' h => ex_load6 h 1 rfl rfl rfl rfl⟩
    refine AllOk.cons ?_ ?_
    · exact fun γ => ⟨rfl, fun w' h => ⟨32, #[N (big - 1), N n], exec_call rfl call32 rfl (by simp only [List.map_toArray, List.map_cons, List.map_nil]; rfl), C32.out w'⟩⟩
    refine AllOk.cons ?_ ?_
    · exact fun γ => ⟨rfl, fun w' _ => rfl⟩
    refine AllOk.cons ?_ ?_
    · (refine fun γ => ⟨rfl, fun w' h => ?_⟩; clear h; go_simp)
    refine AllOk.cons ?_ ?_
    · (refine fun γ => ⟨rfl, fun w' h => ?_⟩; clear h; go_simp)
    refine AllOk.cons ?_ ?_
    · (refine fun γ => ⟨rfl, fun w' h => ?_⟩; clear h; go_simp)
    refine AllOk.cons ?_ ?_
    · exact fun γ => ⟨rfl, fun w' => exec_made6 rfl⟩
    refine AllOk.cons ?_ ?_
    · exact fun γ => ⟨rfl, fun w' => exec_made6 rfl⟩
    refine AllOk.cons ?_ ?_
    · exact fun γ => ⟨rfl, rfl, rfl, fun w' h => exec_laid6 h rfl rfl rfl⟩
    refine AllOk.cons ?_ ?_
    · exact fun γ => ⟨rfl, rfl, rfl, fun w' h => exec_laid6 h rfl rfl rfl⟩
    refine AllOk.cons ?_ ?_
    · exact fun γ => ⟨rfl, fun w' _ => rfl⟩
    exact trivial
  intro γ w3 l hM hl
  have M3 : Mm w3 [(γ 7, cells6 ((big - 1) / n)), (γ 8, cells6 ((big - 1) % n)), (γ2_6, cells6 (big - 1)), (γ1_0, cells6 n), (γ1_1, zero6)] := H2.out.1.grow hM (Nat.le_refl _) hl [7, 8] rfl (by decide)
  have B3 : Below w.heap.size w w3 := H2.out.2.trans (hM.below.mono H2.out.2.size)
  have o3_7 : Hid (w.heap.size ≤ γ 7) := Nat.le_trans H2.out.2.size (hM.fin (Nat.le_refl _) hl (i := 7) rfl).2.1
  have o3_8 : Hid (w.heap.size ≤ γ 8) := Nat.le_trans H2.out.2.size (hM.fin (Nat.le_refl _) hl (i := 8) rfl).2.1
  clear hM hl l H2
  generalize γ 7 = γ3_7 at M3 o3_7 ⊢
  generalize γ 8 = γ3_8 at M3 o3_8 ⊢
  clear γ
  have H3 : Hid (_ ∧ _) := ⟨M3, B3⟩
  clear M3 B3
  refine rest_at (l := []) rfl ?_
  refine rest_nil ?_
  refine then_normal ?_
  refine wp_seq ?_
  refine walk_any (by kernel_rfl) 9 [.quiet (N ((big - 1) % n)), .call (N 1), .call (.tuple #[N (big % n), .bool false]), .quiet (.tuple #[N (big % n), .bool false]), .quiet (N (big % n)), .quiet (.bool false), .made zero6 24, .laid 6 zero6 (cells6 (big % n)), .quiet (.bool false)] (fun w' => Mm w' [(γ3_7, cells6 ((big - 1) / n)), (γ3_8, cells6 ((big - 1) % n)), (γ2_6, cells6 (big - 1)), (γ1_0, cells6 n), (γ1_1, zero6)]) ?pre4 ?F4 ?hpre4 (fun γ => ?hF4) (by kernel_rfl) ?hL4 ?hS4 ?ho4 ?he4
  case hpre4 =>
    simp only [List.take_succ_cons, List.take_zero]
    exact rfl
  case hF4 =>
    simp only [fill, Kind.val, Act.put, List.setIfInBounds_toArray, List.set_cons_zero, List.set_cons_succ]
    exact rfl
  case hL4 => exact ⟨⟨_, rfl⟩, trivial⟩
  case hS4 => exact fun w' hb => H3.out.1.below hb
  case ho4 =>
    refine AllOk.cons ?_ ?_
    · exact fun γ => ⟨rfl, fun w' h => ex_load6 h 1 rfl rfl rfl rfl⟩
    refine AllOk.cons ?_ ?_
    · exact fun γ => ⟨rfl, fun w' h => ⟨29, #[.int .u64 1], exec_call rfl call29 rfl (by simp only [List.map_toArray, List.map_cons, List.map_nil]; rfl), C29.out w'⟩⟩
    refine AllOk.cons ?_ ?_
    · exact fun γ => ⟨rfl, fun w' h => ⟨45, #[N ((big - 1) % n), N 1], exec_call rfl call45 rfl (by simp only [List.map_toArray, List.map_cons, List.map_nil]; rfl), C45.out w'⟩⟩
    refine AllOk.cons ?_ ?_
    · exact fun γ => ⟨rfl, fun w' _ => rfl⟩
    refine AllOk.cons ?_ ?_
    · (refine fun γ => ⟨rfl, fun w' h => ?_⟩; clear h; go_simp)
    refine AllOk.cons ?_ ?_
    · (refine fun γ => ⟨rfl, fun w' h => ?_⟩; clear h; go_simp)
    refine AllOk.cons ?_ ?_
    · exact fun γ => ⟨rfl, fun w' => exec_made6 rfl⟩
    refine AllOk.cons ?_ ?_
    · exact fun γ => ⟨rfl, rfl, rfl, fun w' h => exec_laid6 h rfl rfl rfl⟩
    refine AllOk.cons ?_ ?_
    · exact fun γ => ⟨rfl, fun w' _ => rfl⟩
    exact trivial
  intro γ w4 l hM hl
  have M4 : Mm w4 [(γ 6, cells6 (big % n)), (γ3_7, cells6 ((big - 1) / n)), (γ3_8, cells6 ((big - 1) % n)), (γ2_6, cells6 (big - 1)), (γ1_0, cells6 n), (γ1_1, zero6)] := H3.out.1.grow hM (Nat.le_refl _) hl [6] rfl (by decide)
  have B4 : Below w.heap.size w w4 := H3.out.2.trans (hM.below.mono H3.out.2.size)
  have o4_6 : Hid (w.heap.size ≤ γ 6) := Nat.le_trans H3.out.2.size (hM.fin (Nat.le_refl _) hl (i := 6) rfl).2.1
  clear hM hl l H3
  generalize γ 6 = γ4_6 at M4 o4_6 ⊢
  clear γ
  have H4 : Hid (_ ∧ _) := ⟨M4, B4⟩
  clear M4 B4
  refine rest_at (l := []) rfl ?_
  refine rest_nil ?_
  refine then_normal ?_
  refine wp_seq ?_
  refine walk_seq 1 [.quiet (N (big % n))] (fun w' => Mm w' [(γ4_6, cells6 (big % n)), (γ3_7, cells6 ((big - 1) / n)), (γ3_8, cells6 ((big - 1) % n)), (γ2_6, cells6 (big - 1)), (γ1_0, cells6 n), (γ1_1, zero6)]) ?pre5 ?F5 ?hpre5 (fun γ => ?hF5) (by kernel_rfl) ?hL5 ?hS5 ?ho5 ?he5
  case hpre5 =>
    simp only [List.take_succ_cons, List.take_zero]
    exact rfl
  case hF5 =>
    simp only [fill, Kind.val, Act.put, List.setIfInBounds_toArray, List.set_cons_zero, List.set_cons_succ]
    exact rfl
  case hL5 => exact trivial
  case hS5 => exact fun w' hb => H4.out.1.below hb
  case ho5 =>
    refine AllOk.cons ?_ ?_
    · exact fun γ => ⟨rfl, fun w' h => ex_load6 h 0 rfl rfl rfl rfl⟩
    exact trivial
  intro γ w5 l hM hl
  have M5 : Mm w5 [(γ4_6, cells6 (big % n)), (γ3_7, cells6 ((big - 1) / n)), (γ3_8, cells6 ((big - 1) % n)), (γ2_6, cells6 (big - 1)), (γ1_0, cells6 n), (γ1_1, zero6)] := H4.out.1.grow hM (Nat.le_refl _) hl [] rfl (by decide)
  have B5 : Below w.heap.size w w5 := H4.out.2.trans (hM.below.mono H4.out.2.size)
  clear hM hl l H4
  clear γ
  have H5 : Hid (_ ∧ _) := ⟨M5, B5⟩
  clear M5 B5
  refine rest_at (l := [1]) rfl ?_
  refine rest_store rfl rfl rfl (ex_store6 H5.out.1 5 rfl rfl rfl rfl (Nat.le_of_ble_eq_true rfl)) ?_
  have H6 : Hid (Mm (w5.setCells γ1_1 0 (cells6 (big % n))) [(γ4_6, cells6 (big % n)), (γ3_7, cells6 ((big - 1) / n)), (γ3_8, cells6 ((big - 1) % n)), (γ2_6, cells6 (big - 1)), (γ1_0, cells6 n), (γ1_1, cells6 (big % n))] ∧ Below w.heap.size w (w5.setCells γ1_1 0 (cells6 (big % n)))) := ⟨H5.out.1.put 5 (off := 0) (vs := cells6 (big % n)) rfl (Nat.le_of_ble_eq_true rfl), below_setCells _ o1_1.out _ _ _ H5.out.2⟩
  clear H5
  generalize hgw : World.setCells _ _ _ _ = w6 at H6 ⊢
  clear hgw
  refine rest_nil ?_
  refine then_normal ?_
  refine wp_ret ?_
  repeat (first | refine then_ret ?_ | refine block_ret ?_)
  have c0 := H6.out.1.get 5 rfl 0 rfl
  have c1 := H6.out.1.get 5 rfl 1 rfl
  have c2 := H6.out.1.get 5 rfl 2 rfl
  have c3 := H6.out.1.get 5 rfl 3 rfl
  have c4 := H6.out.1.get 5 rfl 4 rfl
  have c5 := H6.out.1.get 5 rfl 5 rfl
  refine bodyPost_ret (v := N (big % n)) (by simp [results, Tryd.results35, go_sem, *]) rfl ?_
  exact ⟨rfl, H6.out.2⟩
set_option maxHeartbeats 1000000 in
set_option maxRecDepth 100000 in
theorem squareOfOne_gen (g n o s : Nat) (f d h : Nat → Nat) (f0 : f 0 = o) (hf : f 3 = h 0)
    (c45 : ∀ k w, Calls Tryd.prog 45 #[N (f k), N (f k)] w fun e w' => e = .returned (.tuple #[N (d k), .bool false]) ∧ Below w.heap.size w w')
    (c60 : ∀ k w, Mm w [(g, modx n o s)] → Calls Tryd.prog 60 #[PT g 0, N (d k)] w fun e w' => e = .returned (N (f (k + 1))) ∧ Below w.heap.size w w')
    (c41 : ∀ k w, Mm w [(g, modx n o s)] → Calls Tryd.prog 41 #[PT g 0, N (h k), N (h k)] w fun e w' => e = .returned (N (h (k + 1))) ∧ Below w.heap.size w w') (w : World) (hm : Mm w [(g, modx n o s)]) :
    Calls Tryd.prog 36 #[PT g 0] w fun e w' => e = .returned (N (h 7)) ∧ Below w.heap.size w w' := by
  have H0 : Hid (_ ∧ _) := ⟨hm, Below.refl w.heap.size w⟩
  clear hm
  have C45 : Hid _ := c45
  have C60 : Hid _ := c60
  have C41 : Hid _ := c41
  have F0 : Hid _ := f0
  have HF : Hid _ := hf
  clear c45 c60 c41 f0 hf
  go_enter Tryd.func36, Tryd.ntmps36
  refine wp_seq ?_
  refine walk_seq 1 [.made zero6 24] (fun w' => Mm w' [(g, modx n o s)]) ?pre1 ?F1 ?hpre1 (fun γ => ?hF1) (by kernel_rfl) ?hL1 ?hS1 ?ho1 ?he1
  case hpre1 =>
    simp only [List.take_succ_cons, List.take_zero]
    exact rfl
  case hF1 =>
    simp only [fill, Kind.val, Act.put, List.setIfInBounds_toArray, List.set_cons_zero, List.set_cons_succ]
    exact rfl
  case hL1 => exact trivial
  case hS1 => exact fun w' hb => H0.out.1.below hb
  case ho1 =>
    refine AllOk.cons ?_ ?_
    · exact fun γ => ⟨rfl, fun w' => exec_made6 rfl⟩
    exact trivial
  intro γ w1 l hM hl
  have M1 : Mm w1 [(γ 0, zero6), (g, modx n o s)] := H0.out.1.grow hM (Nat.le_refl _) hl [0] rfl (by decide)
  have B1 : Below w.heap.size w w1 := H0.out.2.trans (hM.below.mono H0.out.2.size)
  have o1_0 : Hid (w.heap.size ≤ γ 0) := Nat.le_trans H0.out.2.size (hM.fin (Nat.le_refl _) hl (i := 0) rfl).2.1
  clear hM hl l
  generalize γ 0 = γ1_0 at M1 o1_0 ⊢
  clear γ
  have H1 : Hid (_ ∧ _) := ⟨M1, B1⟩
  clear M1 B1
  refine rest_at (l := []) rfl ?_
  refine rest_nil ?_
  refine then_normal ?_
  refine wp_seq ?_
  refine walk_seq 6 [.quiet (PT g 0), .quiet (PT g 0), .quiet (PT g 7), .quiet (N o), .made zero6 24, .laid 4 zero6 (cells6 o)] (fun w' => Mm w' [(γ1_0, zero6), (g, modx n o s)]) ?pre2 ?F2 ?hpre2 (fun γ => ?hF2) (by kernel_rfl) ?hL2 ?hS2 ?ho2 ?he2
  case hpre2 =>
    simp only [List.take_succ_cons, List.take_zero]
    exact rfl
  case hF2 =>
    simp only [fill, Kind.val, Act.put, List.setIfInBounds_toArray, List.set_cons_zero, List.set_cons_succ]
    exact rfl
  case hL2 => exact ⟨⟨_, rfl⟩, trivial⟩
  case hS2 => exact fun w' hb => H1.out.1.below hb
  case ho2 =>
    refine AllOk.cons ?_ ?_
    · exact fun γ => ⟨rfl, fun w' _ => rfl⟩
    refine AllOk.cons ?_ ?_
    · (refine fun γ => ⟨rfl, fun w' hh => ?_⟩; clear hh; go_simp)
    refine AllOk.cons ?_ ?_
    · (refine fun γ => ⟨rfl, fun w' hh => ?_⟩; clear hh; go_simp)
    refine AllOk.cons ?_ ?_
    · exact fun γ => ⟨rfl, fun w' hh => ex_load6 hh 1 rfl rfl rfl rfl⟩
    refine AllOk.cons ?_ ?_
    · exact fun γ => ⟨rfl, fun w' => exec_made6 rfl⟩
    refine AllOk.cons ?_ ?_
    · exact fun γ => ⟨rfl, rfl, rfl, fun w' hh => exec_laid6 hh rfl rfl rfl⟩
    exact trivial
  intro γ w2 l hM hl
  have M2 : Mm w2 [(γ 4, cells6 o), (γ1_0, zero6), (g, modx n o s)] := H1.out.1.grow hM (Nat.le_refl _) hl [4] rfl (by decide)
  have B2 : Below w.heap.size w w2 := H1.out.2.trans (hM.below.mono H1.out.2.size)
  have o2_4 : Hid (w.heap.size ≤ γ 4) := Nat.le_trans H1.out.2.size (hM.fin (Nat.le_refl _) hl (i := 4) rfl).2.1
  clear hM hl l H1
  generalize γ 4 = γ2_4 at M2 o2_4 ⊢
  clear γ
  have H2 : Hid (_ ∧ _) := ⟨M2, B2⟩
  clear M2 B2
  refine rest_at (l := []) rfl ?_
  refine rest_nil ?_
  refine then_normal ?_
  refine wp_seq ?_
  refine wp_seq ?_
  refine walk_seq 1 [.quiet (.int .i64 0)] (fun w' => Mm w' [(γ2_4, cells6 o), (γ1_0, zero6), (g, modx n o s)]) ?pre3 ?F3 ?hpre3 (fun γ => ?hF3) (by kernel_rfl) ?hL3 ?hS3 ?ho3 ?he3
  case hpre3 =>
    simp only [List.take_succ_cons, List.take_zero]
    exact rfl
  case hF3 =>
    simp only [fill, Kind.val, Act.put, List.setIfInBounds_toArray, List.set_cons_zero, List.set_cons_succ]
    exact rfl
  case hL3 => exact trivial
  case hS3 => exact fun w' hb => H2.out.1.below hb
  case ho3 =>
    refine AllOk.cons ?_ ?_
    · exact fun γ => ⟨rfl, fun w' _ => rfl⟩
    exact trivial
  intro γ w3 l hM hl
  have M3 : Mm w3 [(γ2_4, cells6 o), (γ1_0, zero6), (g, modx n o s)] := H2.out.1.grow hM (Nat.le_refl _) hl [] rfl (by decide)
  have B3 : Below w.heap.size w w3 := H2.out.2.trans (hM.below.mono H2.out.2.size)
  clear hM hl l H2
  clear γ
  have H3 : Hid (_ ∧ _) := ⟨M3, B3⟩
  clear M3 B3
  refine rest_at (l := []) rfl ?_
  refine rest_nil ?_
  refine then_normal ?_
  refine wp_block ?_
  refine loop_ghost (α := Nat) (fun k a' w' => ∃ s0 : Nat → Value, a' = ⟨#[PT g 0, undef, PT γ1_0 0, PT γ2_4 0, s0 4, s0 5, PT g 0, PT g 0, PT g 7, N o, .int .i64 ((k : Nat) : Int), s0 11, s0 12, s0 13, s0 14, s0 15, s0 16, s0 17, s0 18, s0 19, s0 20, s0 21, undef, undef, undef, undef, undef, undef, undef, undef], []⟩ ∧ (Mm w' [(γ2_4, cells6 (f k)), (γ1_0, zero6), (g, modx n o s)] ∧ Below w.heap.size w w') ∧ k ≤ 3) (fun k => 3 - k) 0 ?st0 ?rd0
  case st0 => exact ⟨(slotfn [undef, undef, undef, undef, undef, undef, undef, undef, undef, undef, undef, undef, undef, undef, undef, undef, undef, undef, undef, undef, undef, undef]), rfl, ⟨H3.out.1.at0 (by rw [F0.out]), H3.out.2⟩, by omega⟩
  intro k a' w4 hI
  obtain ⟨s0, rfl, hMB, hk0⟩ := hI
  have H4 : Hid (_ ∧ _) := hMB
  clear hMB H3
  by_cases hltk : k < 3
  · have hrd : True := trivial
    clear hrd
    refine wp_seq ?_
    refine walk_seq 1 [.quiet (.bool true)] (fun w' => Mm w' [(γ2_4, cells6 (f k)), (γ1_0, zero6), (g, modx n o s)]) ?pre4 ?F4 ?hpre4 (fun γ => ?hF4) (by kernel_rfl) ?hL4 ?hS4 ?ho4 ?he4
    case hpre4 =>
      simp only [List.take_succ_cons, List.take_zero]
      exact rfl
    case hF4 =>
      simp only [fill, Kind.val, Act.put, List.setIfInBounds_toArray, List.set_cons_zero, List.set_cons_succ]
      exact rfl
    case hL4 => exact trivial
    case hS4 => exact fun w' hb => H4.out.1.below hb
    case ho4 =>
      refine AllOk.cons ?_ ?_
      · (refine fun γ => ⟨rfl, fun w' hh => ?_⟩; clear hh; go_simp <;> omega)
      exact trivial
    intro γ w5 l hM hl
    have M5 : Mm w5 [(γ2_4, cells6 (f k)), (γ1_0, zero6), (g, modx n o s)] := H4.out.1.grow hM (Nat.le_refl _) hl [] rfl (by decide)
    have B5 : Below w.heap.size w w5 := H4.out.2.trans (hM.below.mono H4.out.2.size)
    clear hM hl l H4
    clear γ
    have H5 : Hid (_ ∧ _) := ⟨M5, B5⟩
    clear M5 B5
    refine rest_at (l := []) rfl ?_
    refine rest_nil ?_
    refine then_normal ?_
    refine wp_seq ?_
    refine wp_cond_true rfl ?_
    refine wp_skip ?_
    refine then_normal ?_
    refine wp_seq ?_
    refine wp_block ?_
    refine wp_seq ?_
    refine walk_seq 9 [.quiet (N (f k)), .quiet (N (f k)), .call (.tuple #[N (d k), .bool false]), .quiet (.tuple #[N (d k), .bool false]), .quiet (N (d k)), .quiet (.bool false), .made zero6 24, .laid 6 zero6 (cells6 (d k)), .quiet (.bool false)] (fun w' => Mm w' [(γ2_4, cells6 (f k)), (γ1_0, zero6), (g, modx n o s)]) ?pre5 ?F5 ?hpre5 (fun γ => ?hF5) (by kernel_rfl) ?hL5 ?hS5 ?ho5 ?he5
    case hpre5 =>
      simp only [List.take_succ_cons, List.take_zero]
      exact rfl
    case hF5 =>
      simp only [fill, Kind.val, Act.put, List.setIfInBounds_toArray, List.set_cons_zero, List.set_cons_succ]
      exact rfl
    case hL5 => exact ⟨⟨_, rfl⟩, trivial⟩
    case hS5 => exact fun w' hb => H5.out.1.below hb
    case ho5 =>
      refine AllOk.cons ?_ ?_
      · exact fun γ => ⟨rfl, fun w' hh => ex_load6 hh 0 rfl rfl rfl rfl⟩
      refine AllOk.cons ?_ ?_
      · exact fun γ => ⟨rfl, fun w' hh => ex_load6 hh 0 rfl rfl rfl rfl⟩
      refine AllOk.cons ?_ ?_
      · exact fun γ => ⟨rfl, fun w' hh => ⟨45, #[N (f k), N (f k)], exec_call rfl call45 rfl (by simp only [List.map_toArray, List.map_cons, List.map_nil]; rfl), C45.out k w'⟩⟩
      refine AllOk.cons ?_ ?_
      · exact fun γ => ⟨rfl, fun w' _ => rfl⟩
      refine AllOk.cons ?_ ?_
      · (refine fun γ => ⟨rfl, fun w' hh => ?_⟩; clear hh; go_simp)
      refine AllOk.cons ?_ ?_
      · (refine fun γ => ⟨rfl, fun w' hh => ?_⟩; clear hh; go_simp)
      refine AllOk.cons ?_ ?_
      · exact fun γ => ⟨rfl, fun w' => exec_made6 rfl⟩
      refine AllOk.cons ?_ ?_
      · exact fun γ => ⟨rfl, rfl, rfl, fun w' hh => exec_laid6 hh rfl rfl rfl⟩
      refine AllOk.cons ?_ ?_
      · exact fun γ => ⟨rfl, fun w' _ => rfl⟩
      exact trivial
    intro γ w6 l hM hl
    have M6 : Mm w6 [(γ 6, cells6 (d k)), (γ2_4, cells6 (f k)), (γ1_0, zero6), (g, modx n o s)] := H5.out.1.grow hM (Nat.le_refl _) hl [6] rfl (by decide)
    have B6 : Below w.heap.size w w6 := H5.out.2.trans (hM.below.mono H5.out.2.size)
    have o5_6 : Hid (w.heap.size ≤ γ 6) := Nat.le_trans H5.out.2.size (hM.fin (Nat.le_refl _) hl (i := 6) rfl).2.1
    clear hM hl l H5
    generalize γ 6 = γ5_6 at M6 o5_6 ⊢
    clear γ
    have H6 : Hid (_ ∧ _) := ⟨M6, B6⟩
    clear M6 B6
    refine rest_at (l := []) rfl ?_
    refine rest_nil ?_
    refine then_normal ?_
    refine walk_seq 3 [.quiet (PT g 0), .quiet (N (d k)), .call (N (f (k + 1)))] (fun w' => Mm w' [(γ5_6, cells6 (d k)), (γ2_4, cells6 (f k)), (γ1_0, zero6), (g, modx n o s)]) ?pre6 ?F6 ?hpre6 (fun γ => ?hF6) (by kernel_rfl) ?hL6 ?hS6 ?ho6 ?he6
    case hpre6 =>
      simp only [List.take_succ_cons, List.take_zero]
      exact rfl
    case hF6 =>
      simp only [fill, Kind.val, Act.put, List.setIfInBounds_toArray, List.set_cons_zero, List.set_cons_succ]
      exact rfl
    case hL6 => exact trivial
    case hS6 => exact fun w' hb => H6.out.1.below hb
    case ho6 =>
      refine AllOk.cons ?_ ?_
      · exact fun γ => ⟨rfl, fun w' _ => rfl⟩
      refine AllOk.cons ?_ ?_
      · exact fun γ => ⟨rfl, fun w' hh => ex_load6 hh 0 rfl rfl rfl rfl⟩
      refine AllOk.cons ?_ ?_
      · exact fun γ => ⟨rfl, fun w' hh => ⟨60, #[PT g 0, N (d k)], exec_call rfl call60 rfl (by simp only [List.map_toArray, List.map_cons, List.map_nil]; rfl), C60.out k w' (hh.one 3 rfl)⟩⟩
      exact trivial
    intro γ w7 l hM hl
    have M7 : Mm w7 [(γ5_6, cells6 (d k)), (γ2_4, cells6 (f k)), (γ1_0, zero6), (g, modx n o s)] := H6.out.1.grow hM (Nat.le_refl _) hl [] rfl (by decide)
    have B7 : Below w.heap.size w w7 := H6.out.2.trans (hM.below.mono H6.out.2.size)
    clear hM hl l H6
    clear γ
    have H7 : Hid (_ ∧ _) := ⟨M7, B7⟩
    clear M7 B7
    refine rest_at (l := [3]) rfl ?_
    refine rest_store rfl rfl rfl (ex_store6 H7.out.1 1 rfl rfl rfl rfl (Nat.le_of_ble_eq_true rfl)) ?_
    have H8 : Hid (Mm (w7.setCells γ2_4 0 (cells6 (f (k + 1)))) [(γ5_6, cells6 (d k)), (γ2_4, cells6 (f (k + 1))), (γ1_0, zero6), (g, modx n o s)] ∧ Below w.heap.size w (w7.setCells γ2_4 0 (cells6 (f (k + 1))))) := ⟨H7.out.1.put 1 (off := 0) (vs := cells6 (f (k + 1))) rfl (Nat.le_of_ble_eq_true rfl), below_setCells _ o2_4.out _ _ _ H7.out.2⟩
    clear H7
    generalize hgw : World.setCells _ _ _ _ = w8 at H8 ⊢
    clear hgw
    refine rest_nil ?_
    refine block_normal ?_
    refine then_normal ?_
    refine walk_seq 1 [.quiet (.int .i64 ((k + 1 : Nat) : Int))] (fun w' => Mm w' [(γ5_6, cells6 (d k)), (γ2_4, cells6 (f (k + 1))), (γ1_0, zero6), (g, modx n o s)]) ?pre7 ?F7 ?hpre7 (fun γ => ?hF7) (by kernel_rfl) ?hL7 ?hS7 ?ho7 ?he7
    case hpre7 =>
      simp only [List.take_succ_cons, List.take_zero]
      exact rfl
    case hF7 =>
      simp only [fill, Kind.val, Act.put, List.setIfInBounds_toArray, List.set_cons_zero, List.set_cons_succ]
      exact rfl
    case hL7 => exact trivial
    case hS7 => exact fun w' hb => H8.out.1.below hb
    case ho7 =>
      refine AllOk.cons ?_ ?_
      · (refine fun γ => ⟨rfl, fun w' hh => ?_⟩; clear hh; go_simp; rw [IntKind.wrap_i64]; omega)
      exact trivial
    intro γ w9 l hM hl
    have M9 : Mm w9 [(γ5_6, cells6 (d k)), (γ2_4, cells6 (f (k + 1))), (γ1_0, zero6), (g, modx n o s)] := H8.out.1.grow hM (Nat.le_refl _) hl [] rfl (by decide)
    have B9 : Below w.heap.size w w9 := H8.out.2.trans (hM.below.mono H8.out.2.size)
    clear hM hl l H8
    clear γ
    have H9 : Hid (_ ∧ _) := ⟨M9, B9⟩
    clear M9 B9
    refine rest_at (l := [1]) rfl ?_
    refine rest_set (d := 10) rfl rfl rfl rfl ?_
    simp only [Act.put, List.setIfInBounds_toArray, List.set_cons_zero, List.set_cons_succ]
    refine rest_nil ?_
    refine then_normal ?_
    exact ⟨k + 1, ⟨(slotfn [undef, undef, undef, undef, PT γ5_6 0, .bool false, undef, undef, undef, undef, undef, .bool true, .tuple #[N (d k), .bool false], N (f k), N (f k), .tuple #[N (d k), .bool false], N (d k), .bool false, PT g 0, N (d k), N (f (k + 1)), .int .i64 ((k + 1 : Nat) : Int)]), rfl, ⟨H9.out.1.tail, H9.out.2⟩, by omega⟩, by omega⟩
  have hkN : k = 3 := by omega
  subst hkN
  refine wp_seq ?_
  refine walk_seq 1 [.quiet (.bool false)] (fun w' => Mm w' [(γ2_4, cells6 (f 3)), (γ1_0, zero6), (g, modx n o s)]) ?pre8 ?F8 ?hpre8 (fun γ => ?hF8) (by kernel_rfl) ?hL8 ?hS8 ?ho8 ?he8
  case hpre8 =>
    simp only [List.take_succ_cons, List.take_zero]
    exact rfl
  case hF8 =>
    simp only [fill, Kind.val, Act.put, List.setIfInBounds_toArray, List.set_cons_zero, List.set_cons_succ]
    exact rfl
  case hL8 => exact trivial
  case hS8 => exact fun w' hb => H4.out.1.below hb
  case ho8 =>
    refine AllOk.cons ?_ ?_
    · (refine fun γ => ⟨rfl, fun w' hh => ?_⟩; clear hh; go_simp <;> omega)
    exact trivial
  intro γ w10 l hM hl
  have M10 : Mm w10 [(γ2_4, cells6 (f 3)), (γ1_0, zero6), (g, modx n o s)] := H4.out.1.grow hM (Nat.le_refl _) hl [] rfl (by decide)
  have B10 : Below w.heap.size w w10 := H4.out.2.trans (hM.below.mono H4.out.2.size)
  clear hM hl l H4
  clear γ
  have H10 : Hid (_ ∧ _) := ⟨M10, B10⟩
  clear M10 B10
  refine rest_at (l := []) rfl ?_
  refine rest_nil ?_
  refine then_normal ?_
  refine wp_seq ?_
  refine wp_cond_false rfl ?_
  refine wp_exit ?_
  repeat refine then_exit ?_
  refine block_exit ?_
  refine then_normal ?_
  refine wp_seq ?_
  refine wp_seq ?_
  refine walk_seq 1 [.quiet (.int .i64 0)] (fun w' => Mm w' [(γ2_4, cells6 (f 3)), (γ1_0, zero6), (g, modx n o s)]) ?pre9 ?F9 ?hpre9 (fun γ => ?hF9) (by kernel_rfl) ?hL9 ?hS9 ?ho9 ?he9
  case hpre9 =>
    simp only [List.take_succ_cons, List.take_zero]
    exact rfl
  case hF9 =>
    simp only [fill, Kind.val, Act.put, List.setIfInBounds_toArray, List.set_cons_zero, List.set_cons_succ]
    exact rfl
  case hL9 => exact trivial
  case hS9 => exact fun w' hb => H10.out.1.below hb
  case ho9 =>
    refine AllOk.cons ?_ ?_
    · exact fun γ => ⟨rfl, fun w' _ => rfl⟩
    exact trivial
  intro γ w11 l hM hl
  have M11 : Mm w11 [(γ2_4, cells6 (f 3)), (γ1_0, zero6), (g, modx n o s)] := H10.out.1.grow hM (Nat.le_refl _) hl [] rfl (by decide)
  have B11 : Below w.heap.size w w11 := H10.out.2.trans (hM.below.mono H10.out.2.size)
  clear hM hl l H10
  clear γ
  have H11 : Hid (_ ∧ _) := ⟨M11, B11⟩
  clear M11 B11
  refine rest_at (l := []) rfl ?_
  refine rest_nil ?_
  refine then_normal ?_
  refine wp_block ?_
  refine loop_ghost (α := Nat) (fun m a' w' => ∃ s2 : Nat → Value, a' = ⟨#[PT g 0, undef, PT γ1_0 0, PT γ2_4 0, s0 4, s0 5, PT g 0, PT g 0, PT g 7, N o, .int .i64 ((3 : Nat) : Int), .bool false, s0 12, s0 13, s0 14, s0 15, s0 16, s0 17, s0 18, s0 19, s0 20, s0 21, .int .i64 ((m : Nat) : Int), s2 23, s2 24, s2 25, s2 26, s2 27, s2 28, undef], []⟩ ∧ (Mm w' [(γ2_4, cells6 (h m)), (γ1_0, zero6), (g, modx n o s)] ∧ Below w.heap.size w w') ∧ m ≤ 7) (fun m => 7 - m) 0 ?st2 ?rd2
  case st2 => exact ⟨(slotfn [undef, undef, undef, undef, undef, undef, undef, undef, undef, undef, undef, undef, undef, undef, undef, undef, undef, undef, undef, undef, undef, undef, undef, undef, undef, undef, undef, undef, undef]), rfl, ⟨H11.out.1.at0 (by rw [HF.out]), H11.out.2⟩, by omega⟩
  intro m a' w12 hI
  obtain ⟨s2, rfl, hMB, hk2⟩ := hI
  have H12 : Hid (_ ∧ _) := hMB
  clear hMB H11
  by_cases hltm : m < 7
  · have hrd : True := trivial
    clear hrd
    refine wp_seq ?_
    refine walk_seq 1 [.quiet (.bool true)] (fun w' => Mm w' [(γ2_4, cells6 (h m)), (γ1_0, zero6), (g, modx n o s)]) ?pre10 ?F10 ?hpre10 (fun γ => ?hF10) (by kernel_rfl) ?hL10 ?hS10 ?ho10 ?he10
    case hpre10 =>
      simp only [List.take_succ_cons, List.take_zero]
      exact rfl
    case hF10 =>
      simp only [fill, Kind.val, Act.put, List.setIfInBounds_toArray, List.set_cons_zero, List.set_cons_succ]
      exact rfl
    case hL10 => exact trivial
    case hS10 => exact fun w' hb => H12.out.1.below hb
    case ho10 =>
      refine AllOk.cons ?_ ?_
      · (refine fun γ => ⟨rfl, fun w' hh => ?_⟩; clear hh; go_simp <;> omega)
      exact trivial
    intro γ w13 l hM hl
    have M13 : Mm w13 [(γ2_4, cells6 (h m)), (γ1_0, zero6), (g, modx n o s)] := H12.out.1.grow hM (Nat.le_refl _) hl [] rfl (by decide)
    have B13 : Below w.heap.size w w13 := H12.out.2.trans (hM.below.mono H12.out.2.size)
    clear hM hl l H12
    clear γ
    have H13 : Hid (_ ∧ _) := ⟨M13, B13⟩
    clear M13 B13
    refine rest_at (l := []) rfl ?_
    refine rest_nil ?_
    refine then_normal ?_
    refine wp_seq ?_
    refine wp_cond_true rfl ?_
    refine wp_skip ?_
    refine then_normal ?_
    refine wp_seq ?_
    refine wp_block ?_
    refine walk_seq 4 [.quiet (PT g 0), .quiet (N (h m)), .quiet (N (h m)), .call (N (h (m + 1)))] (fun w' => Mm w' [(γ2_4, cells6 (h m)), (γ1_0, zero6), (g, modx n o s)]) ?pre11 ?F11 ?hpre11 (fun γ => ?hF11) (by kernel_rfl) ?hL11 ?hS11 ?ho11 ?he11
    case hpre11 =>
      simp only [List.take_succ_cons, List.take_zero]
      exact rfl
    case hF11 =>
      simp only [fill, Kind.val, Act.put, List.setIfInBounds_toArray, List.set_cons_zero, List.set_cons_succ]
      exact rfl
    case hL11 => exact trivial
    case hS11 => exact fun w' hb => H13.out.1.below hb
    case ho11 =>
      refine AllOk.cons ?_ ?_
      · exact fun γ => ⟨rfl, fun w' _ => rfl⟩
      refine AllOk.cons ?_ ?_
      · exact fun γ => ⟨rfl, fun w' hh => ex_load6 hh 0 rfl rfl rfl rfl⟩
      refine AllOk.cons ?_ ?_
      · exact fun γ => ⟨rfl, fun w' hh => ex_load6 hh 0 rfl rfl rfl rfl⟩
      refine AllOk.cons ?_ ?_
      · exact fun γ => ⟨rfl, fun w' hh => ⟨41, #[PT g 0, N (h m), N (h m)], exec_call rfl call41 rfl (by simp only [List.map_toArray, List.map_cons, List.map_nil]; rfl), C41.out m w' (hh.one 2 rfl)⟩⟩
      exact trivial
    intro γ w14 l hM hl
    have M14 : Mm w14 [(γ2_4, cells6 (h m)), (γ1_0, zero6), (g, modx n o s)] := H13.out.1.grow hM (Nat.le_refl _) hl [] rfl (by decide)
    have B14 : Below w.heap.size w w14 := H13.out.2.trans (hM.below.mono H13.out.2.size)
    clear hM hl l H13
    clear γ
    have H14 : Hid (_ ∧ _) := ⟨M14, B14⟩
    clear M14 B14
    refine rest_at (l := [4]) rfl ?_
    refine rest_store rfl rfl rfl (ex_store6 H14.out.1 0 rfl rfl rfl rfl (Nat.le_of_ble_eq_true rfl)) ?_
    have H15 : Hid (Mm (w14.setCells γ2_4 0 (cells6 (h (m + 1)))) [(γ2_4, cells6 (h (m + 1))), (γ1_0, zero6), (g, modx n o s)] ∧ Below w.heap.size w (w14.setCells γ2_4 0 (cells6 (h (m + 1))))) := ⟨H14.out.1.put 0 (off := 0) (vs := cells6 (h (m + 1))) rfl (Nat.le_of_ble_eq_true rfl), below_setCells _ o2_4.out _ _ _ H14.out.2⟩
    clear H14
    generalize hgw : World.setCells _ _ _ _ = w15 at H15 ⊢
    clear hgw
    refine rest_nil ?_
    refine block_normal ?_
    refine then_normal ?_
    refine walk_seq 1 [.quiet (.int .i64 ((m + 1 : Nat) : Int))] (fun w' => Mm w' [(γ2_4, cells6 (h (m + 1))), (γ1_0, zero6), (g, modx n o s)]) ?pre12 ?F12 ?hpre12 (fun γ => ?hF12) (by kernel_rfl) ?hL12 ?hS12 ?ho12 ?he12
    case hpre12 =>
      simp only [List.take_succ_cons, List.take_zero]
      exact rfl
    case hF12 =>
      simp only [fill, Kind.val, Act.put, List.setIfInBounds_toArray, List.set_cons_zero, List.set_cons_succ]
      exact rfl
    case hL12 => exact trivial
    case hS12 => exact fun w' hb => H15.out.1.below hb
    case ho12 =>
      refine AllOk.cons ?_ ?_
      · (refine fun γ => ⟨rfl, fun w' hh => ?_⟩; clear hh; go_simp; rw [IntKind.wrap_i64]; omega)
      exact trivial
    intro γ w16 l hM hl
    have M16 : Mm w16 [(γ2_4, cells6 (h (m + 1))), (γ1_0, zero6), (g, modx n o s)] := H15.out.1.grow hM (Nat.le_refl _) hl [] rfl (by decide)
    have B16 : Below w.heap.size w w16 := H15.out.2.trans (hM.below.mono H15.out.2.size)
    clear hM hl l H15
    clear γ
    have H16 : Hid (_ ∧ _) := ⟨M16, B16⟩
    clear M16 B16
    refine rest_at (l := [1]) rfl ?_
    refine rest_set (d := 22) rfl rfl rfl rfl ?_
    simp only [Act.put, List.setIfInBounds_toArray, List.set_cons_zero, List.set_cons_succ]
    refine rest_nil ?_
    refine then_normal ?_
    exact ⟨m + 1, ⟨(slotfn [undef, undef, undef, undef, undef, undef, undef, undef, undef, undef, undef, undef, undef, undef, undef, undef, undef, undef, undef, undef, undef, undef, undef, .bool true, PT g 0, N (h m), N (h m), N (h (m + 1)), .int .i64 ((m + 1 : Nat) : Int)]), rfl, ⟨H16.out.1, H16.out.2⟩, by omega⟩, by omega⟩
  have hmN : m = 7 := by omega
  subst hmN
  refine wp_seq ?_
  refine walk_seq 1 [.quiet (.bool false)] (fun w' => Mm w' [(γ2_4, cells6 (h 7)), (γ1_0, zero6), (g, modx n o s)]) ?pre13 ?F13 ?hpre13 (fun γ => ?hF13) (by kernel_rfl) ?hL13 ?hS13 ?ho13 ?he13
  case hpre13 =>
    simp only [List.take_succ_cons, List.take_zero]
    exact rfl
  case hF13 =>
    simp only [fill, Kind.val, Act.put, List.setIfInBounds_toArray, List.set_cons_zero, List.set_cons_succ]
    exact rfl
  case hL13 => exact trivial
  case hS13 => exact fun w' hb => H12.out.1.below hb
  case ho13 =>
    refine AllOk.cons ?_ ?_
    · (refine fun γ => ⟨rfl, fun w' hh => ?_⟩; clear hh; go_simp <;> omega)
    exact trivial
  intro γ w17 l hM hl
  have M17 : Mm w17 [(γ2_4, cells6 (h 7)), (γ1_0, zero6), (g, modx n o s)] := H12.out.1.grow hM (Nat.le_refl _) hl [] rfl (by decide)
  have B17 : Below w.heap.size w w17 := H12.out.2.trans (hM.below.mono H12.out.2.size)
  clear hM hl l H12
  clear γ
  have H17 : Hid (_ ∧ _) := ⟨M17, B17⟩
  clear M17 B17
  refine rest_at (l := []) rfl ?_
  refine rest_nil ?_
  refine then_normal ?_
  refine wp_seq ?_
  refine wp_cond_false rfl ?_
  refine wp_exit ?_
  repeat refine then_exit ?_
  refine block_exit ?_
  refine then_normal ?_
  refine wp_seq ?_
  refine walk_seq 1 [.quiet (N (h 7))] (fun w' => Mm w' [(γ2_4, cells6 (h 7)), (γ1_0, zero6), (g, modx n o s)]) ?pre14 ?F14 ?hpre14 (fun γ => ?hF14) (by kernel_rfl) ?hL14 ?hS14 ?ho14 ?he14
  case hpre14 =>
    simp only [List.take_succ_cons, List.take_zero]
    exact rfl
  case hF14 =>
    simp only [fill, Kind.val, Act.put, List.setIfInBounds_toArray, List.set_cons_zero, List.set_cons_succ]
    exact rfl
  case hL14 => exact trivial
  case hS14 => exact fun w' hb => H17.out.1.below hb
  case ho14 =>
    refine AllOk.cons ?_ ?_
    · exact fun γ => ⟨rfl, fun w' hh => ex_load6 hh 0 rfl rfl rfl rfl⟩
    exact trivial
  intro γ w18 l hM hl
  have M18 : Mm w18 [(γ2_4, cells6 (h 7)), (γ1_0, zero6), (g, modx n o s)] := H17.out.1.grow hM (Nat.le_refl _) hl [] rfl (by decide)
  have B18 : Below w.heap.size w w18 := H17.out.2.trans (hM.below.mono H17.out.2.size)
  clear hM hl l H17
  clear γ
  have H18 : Hid (_ ∧ _) := ⟨M18, B18⟩
  clear M18 B18
  refine rest_at (l := [1]) rfl ?_
  refine rest_store rfl rfl rfl (ex_store6 H18.out.1 1 rfl rfl rfl rfl (Nat.le_of_ble_eq_true rfl)) ?_
  have H19 : Hid (Mm (w18.setCells γ1_0 0 (cells6 (h 7))) [(γ2_4, cells6 (h 7)), (γ1_0, cells6 (h 7)), (g, modx n o s)] ∧ Below w.heap.size w (w18.setCells γ1_0 0 (cells6 (h 7)))) := ⟨H18.out.1.put 1 (off := 0) (vs := cells6 (h 7)) rfl (Nat.le_of_ble_eq_true rfl), below_setCells _ o1_0.out _ _ _ H18.out.2⟩
  clear H18
  generalize hgw : World.setCells _ _ _ _ = w19 at H19 ⊢
  clear hgw
  refine rest_nil ?_
  refine then_normal ?_
  refine wp_ret ?_
  repeat (first | refine then_ret ?_ | refine block_ret ?_)
  have c0 := H19.out.1.get 1 rfl 0 rfl
  have c1 := H19.out.1.get 1 rfl 1 rfl
  have c2 := H19.out.1.get 1 rfl 2 rfl
  have c3 := H19.out.1.get 1 rfl 3 rfl
  have c4 := H19.out.1.get 1 rfl 4 rfl
  have c5 := H19.out.1.get 1 rfl 5 rfl
  refine bodyPost_ret (v := N (h 7)) (by simp [results, Tryd.results36, go_sem, *]) rfl ?_
  exact ⟨rfl, H19.out.2⟩
theorem squareOfOne_any (g n s : Nat) (ok : Ok n) (w : World) (hm : Mm w [(g, modx n (big % n) s)]) :
    Calls Tryd.prog 36 #[PT g 0] w fun e w' => e = .returned (N (big * big % n)) ∧ Below w.heap.size w w' := by
  have h := squareOfOne_gen g n (big % n) s (fun k => 2 ^ k * big % n) (fun k => 2 ^ k * big % n + 2 ^ k * big % n) (fun k => 2 ^ (3 * 2 ^ k) * big % n) (by simp only [Nat.pow_zero, Nat.one_mul]) (by simp only [Nat.pow_zero, Nat.mul_one]) ?_ ?_ ?_ w hm
  · obtain ⟨m, hm7⟩ : ∃ m, m = 7 := ⟨_, rfl⟩
    rw [← hm7] at h
    rw [pow_is (3 * 2 ^ m) (by rw [hm7])] at h
    exact h
  · intro k w
    have h1 := Nat.mod_lt (2 ^ k * big) ok.pos
    have h2 := ok.top
    have h := add_any (2 ^ k * big % n) (2 ^ k * big % n) (okLt ok _) (okLt ok _) w
    rw [decide_eq_false (by omega), Nat.mod_eq_of_lt (show 2 ^ k * big % n + 2 ^ k * big % n < big by omega)] at h
    exact h
  · intro k w hm
    have h1 := Nat.mod_lt (2 ^ k * big) ok.pos
    have h2 := ok.top
    have h := below_any g n (big % n) s (2 ^ k * big % n + 2 ^ k * big % n) (by omega) ok.big w hm
    rw [dbl_eq ok, ← Nat.mul_assoc, ← Nat.pow_succ'] at h
    exact h
  · intro m w hm
    have h := product_any g n (big % n) s (2 ^ (3 * 2 ^ m) * big % n) (2 ^ (3 * 2 ^ m) * big % n) ok (okLt ok _) (Nat.mod_lt _ ok.pos) w hm
    rw [sq_eq ok] at h
    exact h
end Rg
end Go.Proofs.YtkfannhbnbgloaaDoor
