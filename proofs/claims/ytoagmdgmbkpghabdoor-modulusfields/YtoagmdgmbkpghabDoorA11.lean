/- words.Shift, words.lower, words.shiftLong -/
import Derived.Test.YtoagmdgmbkpghabDoorA7
import Derived.Test.YtoagmdgmbkpghabDoorA9
namespace Go.Proofs.YtoagmdgmbkpghabDoor
open Go.RowKit

/-- What Shift tells. -/
def shv (a : Nat) (n : Int) : Nat := if 384 ≤ n ∨ n ≤ -384 then 0 else if n < 0 then a / 2 ^ (-n).toNat else a * 2 ^ n.toNat % big
theorem bcell {W w1 : World} (hb : Below W.heap.size W w1) : (∀ b o, b < W.heap.size → w1.cell? ⟨b, o, none⟩ = W.cell? ⟨b, o, none⟩) ∧ (∀ b o, b < W.heap.size → w1.frozen? ⟨b, o, none⟩ = W.frozen? ⟨b, o, none⟩) :=
  ⟨fun b o h => hb.cell (p := ⟨b, o, none⟩) h, fun b o h => hb.frozen (p := ⟨b, o, none⟩) h⟩
theorem wd_zero (j : Nat) : wd 0 j = 0 := by unfold wd; rw [Nat.zero_div]; rfl

set_option maxHeartbeats 400000 in
theorem shift_none (a : Nat) (n : Int) (h : 384 ≤ n ∨ n ≤ -384) (w : World) :
    Calls Tryd.prog 34 #[N a, .int .i64 n] w fun e w' => e = .returned (N 0) ∧ Below w.heap.size w w' := by
  by_cases h1 : 384 ≤ n
  · have hd : decide (384 ≤ n) = true := decide_eq_true h1
    clear h
    go_enter Tryd.func34, Tryd.ntmps34
    go_wp2
    refine bodyPost_ret (v := N 0) ?_ rfl ⟨rfl, ?_⟩
    · simp [results, Tryd.results34, go_sem, wd_zero]
    · exact ((Below.refl _ _).alloc (Nat.le_refl _) _).alloc (by first | omega | (simp <;> omega)) _
  · have h2 : n ≤ -384 := by omega
    have hd : decide (384 ≤ n) = false := decide_eq_false h1
    have hd2 : decide (n ≤ -384) = true := decide_eq_true h2
    clear h h1
    go_enter Tryd.func34, Tryd.ntmps34
    go_wp2
    refine bodyPost_ret (v := N 0) ?_ rfl ⟨rfl, ?_⟩
    · simp [results, Tryd.results34, go_sem, wd_zero]
    · exact ((Below.refl _ _).alloc (Nat.le_refl _) _).alloc (by first | omega | (simp <;> omega)) _

set_option maxHeartbeats 400000 in
theorem shift_up (a m : Nat) (h : m < 384) (w : World) :
    Calls Tryd.prog 34 #[N a, .int .i64 m] w fun e w' => e = .returned (N (a * 2 ^ m % big)) ∧ Below w.heap.size w w' := by
  have hd : decide (384 ≤ (m : Int)) = false := decide_eq_false (by omega)
  have hd2 : decide ((m : Int) ≤ -384) = false := decide_eq_false (by omega)
  go_enter Tryd.func34, Tryd.ntmps34
  go_wp2_with (go_at_call 44; refine (shiftUp_any a m h _).mono ?_; rintro e w1 ⟨rfl, hb⟩; obtain ⟨hc, hf⟩ := bcell hb)
  have hz : w.heap.size + 2 ≤ w1.heap.size := by have := hb.size; simp at this; omega
  refine bodyPost_ret (v := N (a * 2 ^ m % big)) ?_ rfl ⟨rfl, ?_⟩
  · simp [results, Tryd.results34, go_sem, hc]
  · exact below6 ((((Below.refl _ _).alloc (Nat.le_refl _) _).alloc (by first | omega | (simp <;> omega)) _).trans (hb.mono (by simp <;> omega))) (by omega) _ _ _ _ _ _

set_option maxHeartbeats 400000 in
theorem shift_down (a : Nat) (n : Int) (ha : a < big) (h : -384 < n) (h0 : n < 0) (w : World) :
    Calls Tryd.prog 34 #[N a, .int .i64 n] w fun e w' => e = .returned (N (a / 2 ^ (-n).toNat)) ∧ Below w.heap.size w w' := by
  have hd : decide (384 ≤ n) = false := decide_eq_false (by omega)
  have hd2 : decide (n ≤ -384) = false := decide_eq_false (by omega)
  have hc := fun w => shiftDown_any a (-n).toNat ha (by omega) w
  rw [Int.toNat_of_nonneg (show 0 ≤ -n by omega)] at hc
  have HC : Hid _ := hc
  generalize a / 2 ^ (-n).toNat = R at HC ⊢
  clear ha hc
  go_enter Tryd.func34, Tryd.ntmps34
  go_wp2_with (go_at_call 43; refine (HC.out _).mono ?_; rintro e w1 ⟨rfl, hb⟩; obtain ⟨hc, hf⟩ := bcell hb)
  refine bodyPost_ret (v := N R) ?_ rfl ⟨rfl, ?_⟩
  · simp [results, Tryd.results34, go_sem, hc]
  · exact below6 ((((Below.refl _ _).alloc (Nat.le_refl _) _).alloc (by first | omega | (simp <;> omega)) _).trans (hb.mono (by simp <;> omega))) (by omega) _ _ _ _ _ _

theorem shift_any (a : Nat) (n : Int) (ha : a < big) (w : World) :
    Calls Tryd.prog 34 #[N a, .int .i64 n] w fun e w' => e = .returned (N (shv a n)) ∧ Below w.heap.size w w' := by
  unfold shv
  by_cases h : 384 ≤ n ∨ n ≤ -384
  · rw [if_pos h]; exact shift_none a n h w
  · rw [if_neg h]
    by_cases h2 : n < 0
    · rw [if_pos h2]
      exact shift_down a n ha (by omega) h2 w
    · rw [if_neg h2]
      obtain ⟨m, rfl⟩ := Int.eq_ofNat_of_zero_le (show 0 ≤ n by omega)
      rw [Int.toNat_natCast]
      exact shift_up a m (by omega) w

end Go.Proofs.YtoagmdgmbkpghabDoor
