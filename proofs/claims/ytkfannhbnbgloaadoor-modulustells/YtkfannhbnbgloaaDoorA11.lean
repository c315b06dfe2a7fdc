/- words.Shift, words.lower, words.shiftLong -/
import Derived.Test.YtkfannhbnbgloaaDoorA7
import Derived.Test.YtkfannhbnbgloaaDoorA9
namespace Go.Proofs.YtkfannhbnbgloaaDoor
open Go.RowKit

/-- What Shift tells. -/
def shv (a : Nat) (n : Int) : Nat := if 384 ≤ n ∨ n ≤ -384 then 0 else if n < 0 then a / 2 ^ (-n).toNat else a * 2 ^ n.toNat % big
theorem bcell {W w1 : World} (hb : Below W.heap.size W w1) : (∀ b o, b < W.heap.size → w1.cell? ⟨b, o, none⟩ = W.cell? ⟨b, o, none⟩) ∧ (∀ b o, b < W.heap.size → w1.frozen? ⟨b, o, none⟩ = W.frozen? ⟨b, o, none⟩) :=
  ⟨fun b o h => hb.cell (p := ⟨b, o, none⟩) h, fun b o h => hb.frozen (p := ⟨b, o, none⟩) h⟩
theorem wd_zero (j : Nat) : wd 0 j = 0 := by unfold wd; rw [Nat.zero_div]; rfl

set_option maxHeartbeats 400000 in
theorem shift_none (a : Nat) (n : Int) (h : 384 ≤ n ∨ n ≤ -384) (w : World) :
    Calls Tryd.prog 53 #[N a, .int .i64 n] w fun e w' => e = .returned (N 0) ∧ Below w.heap.size w w' := by
  by_cases h1 : 384 ≤ n
  · have hd : decide (384 ≤ n) = true := decide_eq_true h1
    clear h
    go_enter Tryd.func53, Tryd.ntmps53
    go_wp2
    refine bodyPost_ret (v := N 0) ?_ rfl ⟨rfl, ?_⟩
    · simp [results, Tryd.results53, go_sem, wd_zero]
    · exact ((Below.refl _ _).alloc (Nat.le_refl _) _).alloc (by first | omega | (simp <;> omega)) _
  · have h2 : n ≤ -384 := by omega
    have hd : decide (384 ≤ n) = false := decide_eq_false h1
    have hd2 : decide (n ≤ -384) = true := decide_eq_true h2
    clear h h1
    go_enter Tryd.func53, Tryd.ntmps53
    go_wp2
    refine bodyPost_ret (v := N 0) ?_ rfl ⟨rfl, ?_⟩
    · simp [results, Tryd.results53, go_sem, wd_zero]
    · exact ((Below.refl _ _).alloc (Nat.le_refl _) _).alloc (by first | omega | (simp <;> omega)) _

set_option maxHeartbeats 400000 in
theorem shift_up (a m : Nat) (h : m < 384) (w : World) :
    Calls Tryd.prog 53 #[N a, .int .i64 m] w fun e w' => e = .returned (N (a * 2 ^ m % big)) ∧ Below w.heap.size w w' := by
  have hd : decide (384 ≤ (m : Int)) = false := decide_eq_false (by omega)
  have hd2 : decide ((m : Int) ≤ -384) = false := decide_eq_false (by omega)
  go_enter Tryd.func53, Tryd.ntmps53
  go_wp2_with (go_at_call 68; refine (shiftUp_any a m h _).mono ?_; rintro e w1 ⟨rfl, hb⟩; obtain ⟨hc, hf⟩ := bcell hb)
  have hz : w.heap.size + 2 ≤ w1.heap.size := by have := hb.size; simp at this; omega
  refine bodyPost_ret (v := N (a * 2 ^ m % big)) ?_ rfl ⟨rfl, ?_⟩
  · simp [results, Tryd.results53, go_sem, hc]
  · exact below6 ((((Below.refl _ _).alloc (Nat.le_refl _) _).alloc (by first | omega | (simp <;> omega)) _).trans (hb.mono (by simp <;> omega))) (by omega) _ _ _ _ _ _

set_option maxHeartbeats 400000 in
theorem shift_down (a : Nat) (n : Int) (ha : a < big) (h : -384 < n) (h0 : n < 0) (w : World) :
    Calls Tryd.prog 53 #[N a, .int .i64 n] w fun e w' => e = .returned (N (a / 2 ^ (-n).toNat)) ∧ Below w.heap.size w w' := by
  have hd : decide (384 ≤ n) = false := decide_eq_false (by omega)
  have hd2 : decide (n ≤ -384) = false := decide_eq_false (by omega)
  have hc := fun w => shiftDown_any a (-n).toNat ha (by omega) w
  rw [Int.toNat_of_nonneg (show 0 ≤ -n by omega)] at hc
  have HC : Hid _ := hc
  generalize a / 2 ^ (-n).toNat = R at HC ⊢
  clear ha hc
  go_enter Tryd.func53, Tryd.ntmps53
  go_wp2_with (go_at_call 67; refine (HC.out _).mono ?_; rintro e w1 ⟨rfl, hb⟩; obtain ⟨hc, hf⟩ := bcell hb)
  refine bodyPost_ret (v := N R) ?_ rfl ⟨rfl, ?_⟩
  · simp [results, Tryd.results53, go_sem, hc]
  · exact below6 ((((Below.refl _ _).alloc (Nat.le_refl _) _).alloc (by first | omega | (simp <;> omega)) _).trans (hb.mono (by simp <;> omega))) (by omega) _ _ _ _ _ _

theorem shift_any (a : Nat) (n : Int) (ha : a < big) (w : World) :
    Calls Tryd.prog 53 #[N a, .int .i64 n] w fun e w' => e = .returned (N (shv a n)) ∧ Below w.heap.size w w' := by
  unfold shv
  by_cases h : 384 ≤ n ∨ n ≤ -384
  · rw [if_pos h]; exact shift_none a n h w
  · rw [if_neg h]
    by_cases h2 : n < 0
    · rw [if_pos h2]
      exact shift_down a n ha (by omega) h2 w
    · rw [if_neg h2]
      obtain ⟨m, rfl⟩ := Int.eq_ofNat_of_zero_le (show 0 ≤ n by omega)
      rw [Int.toNat_natCast]
      exact shift_up a m (by omega) w

set_option maxHeartbeats 400000 in
set_option maxRecDepth 100000 in
theorem lower_any (v : Nat) (w : World) :
    Calls Tryd.prog 58 #[L7 v] w fun e w' => e = .returned (N (v % big)) ∧ Below w.heap.size w w' := by
  go_enter Tryd.func58, Tryd.ntmps58
  go_wp2
  go_loopw [5] (fun i wr => ∃ k : Nat, k ≤ 6 ∧ i = .int .i64 k ∧ Row wr w.heap.size 7 (wd v) ∧ Row wr (w.heap.size + 1) 6 (fun _ => 0) ∧ Row wr (w.heap.size + 1 + 1) 6 (part v k) ∧ Below w.heap.size w wr) (fun i _ => 6 - (intOf i).toNat)
  case atStart =>
    refine ⟨0, by omega, rfl, ?_, ?_, ?_, ?_⟩
    · exact ((Row.new w _ 65 rfl (seven_lt (f := wd v) rfl)).alloc (by first | omega | (simp <;> omega)) _).alloc (by first | omega | (simp <;> omega)) _
    · exact (Row.new _ _ 24 (by first | omega | (simp <;> omega)) (six_lt (f := fun _ => 0) rfl)).alloc (by first | omega | (simp <;> omega)) _
    · exact Row.new _ _ 24 (by first | omega | (simp <;> omega)) (six_lt (f := part v 0) rfl)
    · exact (((Below.refl _ _).alloc (Nat.le_refl _) _).alloc (by first | omega | (simp <;> omega)) _).alloc (by first | omega | (simp <;> omega)) _
  case round =>
    obtain ⟨k, hk, rfl, hA, hZ, hS, hw⟩ := hrel
    by_cases hlt : k < 6
    · obtain ⟨hS1, hS2⟩ := hS k hlt
      have hA1 := (hA k (by omega)).1
      have HM : Hid (_ ∧ _ ∧ _ ∧ _) := ⟨hA, hZ, hS, hw⟩
      clear hA hZ hS hw
      go_wp2
      go_roundw
      case rel =>
        obtain ⟨hA, hZ, hS, hw⟩ := HM.out
        exact ⟨k + 1, by omega, by go_num, hA.set_other _ (by simp <;> omega), hZ.set_other _ (by simp <;> omega), (hS.set _).congr (fun j _ => part_step rfl j), hw.setCell (by simp <;> omega) _⟩
      case measure => simp [intOf] <;> omega
    · have hk6 : k = 6 := by omega
      subst hk6
      obtain ⟨s0, s1, s2, s3, s4, s5⟩ := (hS.congr (f' := wd (v % big)) (fun j hj => by rw [part_lt hj, wd_mod _ _ hj])).reads
      obtain ⟨z0, z1, z2, z3, z4, z5⟩ := hZ.writes
      obtain ⟨y0, y1, y2, y3, y4, y5⟩ := hZ.reads
      clear hA hZ hS
      rw [show ((6 : Nat) : Int) = 6 from rfl]
      go_wp2
      refine bodyPost_ret (v := N (v % big)) ?_ rfl ⟨rfl, ?_⟩
      · simp [results, Tryd.results58, go_sem, *]
      · exact below6 hw (by omega) _ _ _ _ _ _
end Go.Proofs.YtkfannhbnbgloaaDoor
