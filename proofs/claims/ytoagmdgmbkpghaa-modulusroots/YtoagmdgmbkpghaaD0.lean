/- The document's own Of and Bit, and words.Bit at any place. -/
import Derived.Test.YtoagmdgmbkpghaaPA3
import Derived.Test.YtoagmdgmbkpghaaA31
namespace Go.Proofs.Ytoagmdgmbkpghaa
open Go.RowKit

set_option maxHeartbeats 400000 in
set_option maxRecDepth 100000 in
theorem bit_ref_in (a i : Nat) (hi : i < 384) (w : World) :
    Calls Try.prog 9 #[N a, .int .i64 i] w fun e w' => e = .returned (.int .i64 (bitv a i)) ∧ Below w.heap.size w w' := by
  have d0 : decide ((i : Int) < 0) = false := decide_eq_false (by omega)
  have d1 : decide ((383 : Int) < i) = false := decide_eq_false (by omega)
  have hA : Row (w.alloc (.cells #[.int .u64 (wd a 0), .int .u64 (wd a 1), .int .u64 (wd a 2), .int .u64 (wd a 3), .int .u64 (wd a 4), .int .u64 (wd a 5)] 24)) w.heap.size 6 (wd a) := Row.new w _ 24 rfl (six_lt rfl)
  have hA1 := (hA (i / 64) (by omega)).1
  clear hA
  go_enter Try.func9, Try.ntmps9
  go_wp2
  rw [bitv_word, show wrap64 (bitv a i) = bitv a i by have := bitv_bd a i; unfold wrap64; omega]
  go_ret
  exact ⟨rfl, (Below.refl _ _).alloc (Nat.le_refl _) _⟩
/-- Bit i of a number, at any place. -/
def bitz (a : Nat) (i : Int) : Int := if 0 ≤ i ∧ i < 384 then bitv a i.toNat else 0
set_option maxHeartbeats 400000 in
set_option maxRecDepth 100000 in
theorem bit_any (a : Nat) (i : Int) (w : World) :
    Calls Try.prog 34 #[N a, .int .i64 i] w fun e w' => e = .returned (.int .i64 (bitz a i)) ∧ Below w.heap.size w w' := by
  unfold bitz
  by_cases h : 0 ≤ i ∧ i < 384
  · obtain ⟨n, rfl⟩ := Int.eq_ofNat_of_zero_le h.1
    rw [if_pos h]
    exact bit_in a n (by omega) w
  · rw [if_neg h]
    by_cases h0 : i < 0
    · have d0 : decide (i < 0) = true := decide_eq_true h0
      go_enter Try.func34, Try.ntmps34
      go_wp2
      go_ret
      exact ⟨rfl, (Below.refl _ _).alloc (Nat.le_refl _) _⟩
    · have d0 : decide (i < 0) = false := decide_eq_false h0
      have d1 : decide ((384 : Int) ≤ i) = true := decide_eq_true (by omega)
      go_enter Try.func34, Try.ntmps34
      go_wp2
      go_ret
      exact ⟨rfl, (Below.refl _ _).alloc (Nat.le_refl _) _⟩
set_option maxHeartbeats 400000 in
set_option maxRecDepth 100000 in
theorem bit_ref (a : Nat) (i : Int) (w : World) :
    Calls Try.prog 9 #[N a, .int .i64 i] w fun e w' => e = .returned (.int .i64 (bitz a i)) ∧ Below w.heap.size w w' := by
  unfold bitz
  by_cases h : 0 ≤ i ∧ i < 384
  · obtain ⟨n, rfl⟩ := Int.eq_ofNat_of_zero_le h.1
    rw [if_pos h]
    exact bit_ref_in a n (by omega) w
  · rw [if_neg h]
    by_cases h0 : i < 0
    · have d0 : decide (i < 0) = true := decide_eq_true h0
      go_enter Try.func9, Try.ntmps9
      go_wp2
      go_ret
      exact ⟨rfl, (Below.refl _ _).alloc (Nat.le_refl _) _⟩
    · have d0 : decide (i < 0) = false := decide_eq_false h0
      have d1 : decide ((383 : Int) < i) = true := decide_eq_true (by omega)
      go_enter Try.func9, Try.ntmps9
      go_wp2
      go_ret
      exact ⟨rfl, (Below.refl _ _).alloc (Nat.le_refl _) _⟩
theorem call23 : ∀ args w, (callFunc 23 args).run Try.prog w = .ok (.enter 23 args) w := by intro args w; go_simp
theorem call41 : ∀ args w, (callFunc 41 args).run Try.prog w = .ok (.enter 41 args) w := by intro args w; go_simp
theorem call10 : ∀ args w, (callFunc 10 args).run Try.prog w = .ok (.enter 10 args) w := by intro args w; go_simp
theorem call38 : ∀ args w, (callFunc 38 args).run Try.prog w = .ok (.enter 38 args) w := by intro args w; go_simp
theorem call40 : ∀ args w, (callFunc 40 args).run Try.prog w = .ok (.enter 40 args) w := by intro args w; go_simp
theorem call9 : ∀ args w, (callFunc 9 args).run Try.prog w = .ok (.enter 9 args) w := by intro args w; go_simp
theorem call4 : ∀ args w, (callFunc 4 args).run Try.prog w = .ok (.enter 4 args) w := by intro args w; go_simp
theorem call48 : ∀ args w, (callFunc 48 args).run Try.prog w = .ok (.enter 48 args) w := by intro args w; go_simp
end Go.Proofs.Ytoagmdgmbkpghaa
