/- equality of arrays -/
import Derived.Test.YtoagmdgmbkpghabDoorA18
import Derived.Laws.StructEq
import Derived.Test.YtoagmdgmbkpghabDoorA2
namespace Go.Proofs.YtoagmdgmbkpghabDoor
open Go.RowKit

theorem run_eq6' (D : Nat) (hin : ∀ (a b : Int) (w : World), (Op.equalIn D 22 (.int .u64 a) (.int .u64 b)).run Tryd.prog w = .ok (a == b) w) (x0 x1 x2 x3 x4 x5 y0 y1 y2 y3 y4 y5 : Int) (w : World) :
    (Op.equalIn (D + 1) 24 (.agg #[.int .u64 x0, .int .u64 x1, .int .u64 x2, .int .u64 x3, .int .u64 x4, .int .u64 x5]) (.agg #[.int .u64 y0, .int .u64 y1, .int .u64 y2, .int .u64 y3, .int .u64 y4, .int .u64 y5])).run Tryd.prog w =
      .ok (x0 == y0 && (x1 == y1 && (x2 == y2 && (x3 == y3 && (x4 == y4 && x5 == y5))))) w := by
  have h24 : Tryd.prog.underlying 24 = some (.array 6 22) := by kernel_rfl
  have hsz : ∀ w, (sizeOf 22).run Tryd.prog w = .ok 1 w := fun w => by kernel_rfl
  have hp : ∀ (a b c d e f : Int) (w : World), (Go.part 22 #[.int .u64 a, .int .u64 b, .int .u64 c, .int .u64 d, .int .u64 e, .int .u64 f] 0).run Tryd.prog w = .ok (.int .u64 a) w ∧ (Go.part 22 #[.int .u64 a, .int .u64 b, .int .u64 c, .int .u64 d, .int .u64 e, .int .u64 f] 1).run Tryd.prog w = .ok (.int .u64 b) w ∧ (Go.part 22 #[.int .u64 a, .int .u64 b, .int .u64 c, .int .u64 d, .int .u64 e, .int .u64 f] 2).run Tryd.prog w = .ok (.int .u64 c) w ∧ (Go.part 22 #[.int .u64 a, .int .u64 b, .int .u64 c, .int .u64 d, .int .u64 e, .int .u64 f] 3).run Tryd.prog w = .ok (.int .u64 d) w ∧ (Go.part 22 #[.int .u64 a, .int .u64 b, .int .u64 c, .int .u64 d, .int .u64 e, .int .u64 f] 4).run Tryd.prog w = .ok (.int .u64 e) w ∧ (Go.part 22 #[.int .u64 a, .int .u64 b, .int .u64 c, .int .u64 d, .int .u64 e, .int .u64 f] 5).run Tryd.prog w = .ok (.int .u64 f) w := fun a b c d e f w => ⟨by kernel_rfl, by kernel_rfl, by kernel_rfl, by kernel_rfl, by kernel_rfl, by kernel_rfl⟩
  simp only [Op.equalIn, Sem.run_bind, run_underlying h24, Result.andThen_ok, hsz]
  simp [Std.Legacy.Range.forIn_eq_forIn_range', List.range', List.forIn_cons, hin, hp]
  repeat' split
  all_goals simp_all
theorem run_eq6 (x0 x1 x2 x3 x4 x5 y0 y1 y2 y3 y4 y5 : Int) (w : World) :
    (Op.equalIn 10000 24 (.agg #[.int .u64 x0, .int .u64 x1, .int .u64 x2, .int .u64 x3, .int .u64 x4, .int .u64 x5]) (.agg #[.int .u64 y0, .int .u64 y1, .int .u64 y2, .int .u64 y3, .int .u64 y4, .int .u64 y5])).run Tryd.prog w =
      .ok (x0 == y0 && (x1 == y1 && (x2 == y2 && (x3 == y3 && (x4 == y4 && x5 == y5))))) w :=
  run_eq6' 9999 (fun a b w => run_equalIn_int w 9998 22 .u64 .u64 a b (by kernel_rfl)) x0 x1 x2 x3 x4 x5 y0 y1 y2 y3 y4 y5 w
theorem num_ext' (a b : Nat) : ∀ m, (∀ j, j < m → wd a j = wd b j) → a % 2 ^ (64 * m) = b % 2 ^ (64 * m) := by
  intro m
  induction m with
  | zero => intro _; rw [Nat.mul_zero, Nat.pow_zero, Nat.mod_one, Nat.mod_one]
  | succ m ih =>
    intro h
    have h2 : wn a m = wn b m := Int.ofNat.inj (h m (by omega))
    rw [mod_step, mod_step, ih (fun j hj => h j (by omega)), h2]
theorem num_ext (a b : Nat) (ha : a < big) (hb : b < big) (h : ∀ j, j < 6 → wd a j = wd b j) : a = b := by
  have h2 := num_ext' a b 6 h
  rw [← big_eq, Nat.mod_eq_of_lt ha, Nat.mod_eq_of_lt hb] at h2
  exact h2
theorem num_eq (a b : Nat) (ha : a < big) (hb : b < big) : (wd a 0 == wd b 0 && (wd a 1 == wd b 1 && (wd a 2 == wd b 2 && (wd a 3 == wd b 3 && (wd a 4 == wd b 4 && wd a 5 == wd b 5))))) = decide (a = b) := by
  by_cases h : a = b
  · subst h; simp
  · rw [decide_eq_false h]
    apply Bool.eq_false_iff.2
    intro hh
    simp only [Bool.and_eq_true, beq_iff_eq] at hh
    obtain ⟨h0, h1, h2, h3, h4, h5⟩ := hh
    apply h
    apply num_ext a b ha hb
    intro j hj
    match j, hj with
    | 0, _ => exact h0
    | 1, _ => exact h1
    | 2, _ => exact h2
    | 3, _ => exact h3
    | 4, _ => exact h4
    | 5, _ => exact h5
theorem run_eqN (a b : Nat) (ha : a < big) (hb : b < big) (w : World) :
    (Op.equalIn 10000 24 (N a) (N b)).run Tryd.prog w = .ok (decide (a = b)) w := by rw [run_eq6, num_eq a b ha hb]
theorem big_pos : 0 < big := by rw [big_eq]; exact pow_pos' 6
theorem run_eqZ (a : Nat) (ha : a < big) (w : World) :
    (Op.equalIn 10000 24 (N a) (.agg #[.int .u64 0, .int .u64 0, .int .u64 0, .int .u64 0, .int .u64 0, .int .u64 0])).run Tryd.prog w = .ok (decide (a = 0)) w := by
  have h := run_eqN a 0 ha big_pos w
  unfold N at h
  simp only [wd_zero] at h
  exact h

theorem wd_small (n j : Nat) (hn : n < 18446744073709551616) : wd n (j + 1) = 0 := wd_top' n 1 (j + 1) (by simpa using hn) (by omega)
theorem wd_small0 (n : Nat) (hn : n < 18446744073709551616) : wd n 0 = n := by unfold wd; rw [Nat.mul_zero, Nat.pow_zero, Nat.div_one, Nat.mod_eq_of_lt hn]
set_option maxHeartbeats 400000 in
theorem of_any (n : Nat) (hn : n < 18446744073709551616) (w : World) :
    Calls Tryd.prog 11 #[.int .u64 n] w fun e w' => e = .returned (N n) ∧ Below w.heap.size w w' := by
  have h1 : wd n 1 = 0 := wd_small n 0 hn
  have h2 : wd n 2 = 0 := wd_small n 1 hn
  have h3 : wd n 3 = 0 := wd_small n 2 hn
  have h4 : wd n 4 = 0 := wd_small n 3 hn
  have h5 : wd n 5 = 0 := wd_small n 4 hn
  have h0 := wd_small0 n hn
  unfold N
  rw [h0, h1, h2, h3, h4, h5]
  clear h0 h1 h2 h3 h4 h5 hn
  go_enter Tryd.func11, Tryd.ntmps11
  go_wp2
  refine bodyPost_ret (v := .agg #[.int .u64 n, .int .u64 0, .int .u64 0, .int .u64 0, .int .u64 0, .int .u64 0]) ?_ rfl ⟨rfl, ?_⟩
  · simp [results, Tryd.results11, go_sem]
  · exact (Below.refl _ _).alloc (Nat.le_refl _) _

/-- What Compare tells. -/
def cmpv (a b : Nat) : Int := if a = b then 0 else if a < b then -1 else 1
set_option maxHeartbeats 400000 in
set_option maxRecDepth 100000 in
theorem compare_any (a b : Nat) (ha : a < big) (hb : b < big) (w : World) :
    Calls Tryd.prog 26 #[N a, N b] w fun e w' => e = .returned (.int .i64 (cmpv a b)) ∧ Below w.heap.size w w' := by
  have he := fun w => run_eqN a b ha hb w
  have hs := fun w => sub_any a b ha hb w
  have HS : Hid _ := hs
  clear hs ha hb
  unfold cmpv
  by_cases c : a = b
  · have hd : decide (a = b) = true := decide_eq_true c
    rw [if_pos c]
    simp only [hd] at he
    clear c hd
    go_enter Tryd.func26, Tryd.ntmps26
    go_wp2
    go_ret
    exact ⟨rfl, ((Below.refl _ _).alloc (Nat.le_refl _) _).alloc (by first | omega | (simp <;> omega)) _⟩
  · have hd : decide (a = b) = false := decide_eq_false c
    rw [if_neg c]
    simp only [hd] at he
    clear c hd
    by_cases c2 : a < b
    · rw [if_pos c2]
      have hd2 : decide (a < b) = true := decide_eq_true c2
      simp only [hd2] at HS
      clear hd2 c2
      go_enter Tryd.func26, Tryd.ntmps26
      go_wp2_with fail
      refine (HS.out _).mono ?_
      rintro e w1 ⟨rfl, hb1⟩
      go_wp2
      go_ret
      refine ⟨rfl, ?_⟩
      exact (((((Below.refl _ _).alloc (Nat.le_refl _) _).alloc (by first | omega | (simp <;> omega)) _).trans (hb1.mono (by simp <;> omega))).alloc (by have := hb1.size; simp at this; omega) _)
    · rw [if_neg c2]
      have hd2 : decide (a < b) = false := decide_eq_false c2
      simp only [hd2] at HS
      clear hd2 c2
      go_enter Tryd.func26, Tryd.ntmps26
      go_wp2_with fail
      refine (HS.out _).mono ?_
      rintro e w1 ⟨rfl, hb1⟩
      go_wp2
      go_ret
      refine ⟨rfl, ?_⟩
      exact (((((Below.refl _ _).alloc (Nat.le_refl _) _).alloc (by first | omega | (simp <;> omega)) _).trans (hb1.mono (by simp <;> omega))).alloc (by have := hb1.size; simp at this; omega) _)
end Go.Proofs.YtoagmdgmbkpghabDoor
