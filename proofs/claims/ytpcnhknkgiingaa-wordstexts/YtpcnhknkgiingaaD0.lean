/- The document's own Of and Bit, and words.Bit at any place. -/
import Derived.Test.YtpcnhknkgiingaaA19
import Derived.Test.YtpcnhknkgiingaaA31
namespace Go.Proofs.Ytpcnhknkgiingaa
open Go.RowKit

set_option maxHeartbeats 400000 in
theorem of_ref (n : Nat) (hn : n < 18446744073709551616) (w : World) :
    Calls Try.prog 26 #[.int .u64 n] w fun e w' => e = .returned (N n) ∧ Below w.heap.size w w' := by
  have h1 : wd n 1 = 0 := wd_small n 0 hn
  have h2 : wd n 2 = 0 := wd_small n 1 hn
  have h3 : wd n 3 = 0 := wd_small n 2 hn
  have h4 : wd n 4 = 0 := wd_small n 3 hn
  have h5 : wd n 5 = 0 := wd_small n 4 hn
  have h0 := wd_small0 n hn
  unfold N
  rw [h0, h1, h2, h3, h4, h5]
  clear h0 h1 h2 h3 h4 h5 hn
  go_enter Try.func26, Try.ntmps26
  go_wp2
  refine bodyPost_ret (v := .agg #[.int .u64 n, .int .u64 0, .int .u64 0, .int .u64 0, .int .u64 0, .int .u64 0]) ?_ rfl ⟨rfl, ?_⟩
  · simp [results, Try.results26, go_sem]
  · exact (Below.refl _ _).alloc (Nat.le_refl _) _
set_option maxHeartbeats 400000 in
set_option maxRecDepth 100000 in
theorem bit_ref_in (a i : Nat) (hi : i < 384) (w : World) :
    Calls Try.prog 22 #[N a, .int .i64 i] w fun e w' => e = .returned (.int .i64 (bitv a i)) ∧ Below w.heap.size w w' := by
  have d0 : decide ((i : Int) < 0) = false := decide_eq_false (by omega)
  have d1 : decide ((383 : Int) < i) = false := decide_eq_false (by omega)
  have hA : Row (w.alloc (.cells #[.int .u64 (wd a 0), .int .u64 (wd a 1), .int .u64 (wd a 2), .int .u64 (wd a 3), .int .u64 (wd a 4), .int .u64 (wd a 5)] 24)) w.heap.size 6 (wd a) := Row.new w _ 24 rfl (six_lt rfl)
  have hA1 := (hA (i / 64) (by omega)).1
  clear hA
  go_enter Try.func22, Try.ntmps22
  go_wp2
  rw [bitv_word, show wrap64 (bitv a i) = bitv a i by have := bitv_bd a i; unfold wrap64; omega]
  go_ret
  exact ⟨rfl, (Below.refl _ _).alloc (Nat.le_refl _) _⟩
/-- Bit i of a number, at any place. -/
def bitz (a : Nat) (i : Int) : Int := if 0 ≤ i ∧ i < 384 then bitv a i.toNat else 0
set_option maxHeartbeats 400000 in
set_option maxRecDepth 100000 in
theorem bit_any (a : Nat) (i : Int) (w : World) :
    Calls Try.prog 21 #[N a, .int .i64 i] w fun e w' => e = .returned (.int .i64 (bitz a i)) ∧ Below w.heap.size w w' := by
  unfold bitz
  by_cases h : 0 ≤ i ∧ i < 384
  · obtain ⟨n, rfl⟩ := Int.eq_ofNat_of_zero_le h.1
    rw [if_pos h]
    exact bit_in a n (by omega) w
  · rw [if_neg h]
    by_cases h0 : i < 0
    · have d0 : decide (i < 0) = true := decide_eq_true h0
      go_enter Try.func21, Try.ntmps21
      go_wp2
      go_ret
      exact ⟨rfl, (Below.refl _ _).alloc (Nat.le_refl _) _⟩
    · have d0 : decide (i < 0) = false := decide_eq_false h0
      have d1 : decide ((384 : Int) ≤ i) = true := decide_eq_true (by omega)
      go_enter Try.func21, Try.ntmps21
      go_wp2
      go_ret
      exact ⟨rfl, (Below.refl _ _).alloc (Nat.le_refl _) _⟩
set_option maxHeartbeats 400000 in
set_option maxRecDepth 100000 in
theorem bit_ref (a : Nat) (i : Int) (w : World) :
    Calls Try.prog 22 #[N a, .int .i64 i] w fun e w' => e = .returned (.int .i64 (bitz a i)) ∧ Below w.heap.size w w' := by
  unfold bitz
  by_cases h : 0 ≤ i ∧ i < 384
  · obtain ⟨n, rfl⟩ := Int.eq_ofNat_of_zero_le h.1
    rw [if_pos h]
    exact bit_ref_in a n (by omega) w
  · rw [if_neg h]
    by_cases h0 : i < 0
    · have d0 : decide (i < 0) = true := decide_eq_true h0
      go_enter Try.func22, Try.ntmps22
      go_wp2
      go_ret
      exact ⟨rfl, (Below.refl _ _).alloc (Nat.le_refl _) _⟩
    · have d0 : decide (i < 0) = false := decide_eq_false h0
      have d1 : decide ((383 : Int) < i) = true := decide_eq_true (by omega)
      go_enter Try.func22, Try.ntmps22
      go_wp2
      go_ret
      exact ⟨rfl, (Below.refl _ _).alloc (Nat.le_refl _) _⟩
theorem call10 : ∀ args w, (callFunc 10 args).run Try.prog w = .ok (.enter 10 args) w := by intro args w; go_simp
theorem call12 : ∀ args w, (callFunc 12 args).run Try.prog w = .ok (.enter 12 args) w := by intro args w; go_simp
theorem call14 : ∀ args w, (callFunc 14 args).run Try.prog w = .ok (.enter 14 args) w := by intro args w; go_simp
theorem call16 : ∀ args w, (callFunc 16 args).run Try.prog w = .ok (.enter 16 args) w := by intro args w; go_simp
theorem call18 : ∀ args w, (callFunc 18 args).run Try.prog w = .ok (.enter 18 args) w := by intro args w; go_simp
theorem call20 : ∀ args w, (callFunc 20 args).run Try.prog w = .ok (.enter 20 args) w := by intro args w; go_simp
theorem call22 : ∀ args w, (callFunc 22 args).run Try.prog w = .ok (.enter 22 args) w := by intro args w; go_simp
theorem call24 : ∀ args w, (callFunc 24 args).run Try.prog w = .ok (.enter 24 args) w := by intro args w; go_simp
theorem call26 : ∀ args w, (callFunc 26 args).run Try.prog w = .ok (.enter 26 args) w := by intro args w; go_simp
theorem call44 : ∀ args w, (callFunc 44 args).run Try.prog w = .ok (.enter 44 args) w := by intro args w; go_simp
end Go.Proofs.Ytpcnhknkgiingaa
