/- The law WordsKnown, walked. -/
import Derived.Test.YtpcnhknkgiingabB1
import Derived.Test.YtpcnhknkgiingabA31
import Derived.Test.YtpcnhknkgiingabA32
import Derived.Test.YtpcnhknkgiingabA35
import Derived.Test.YtpcnhknkgiingabAT
import Derived.BigRegion
namespace Go.Proofs.Ytpcnhknkgiingab
open Go.RowKit Go.Lib

set_option maxHeartbeats 400000 in
theorem bit_out (a : Nat) (w : World) :
    Calls Try.prog 15 #[N a, .int .i64 400] w fun e w' => e = .returned (.int .i64 0) ∧ Below w.heap.size w w' := by
  go_enter Try.func15, Try.ntmps15
  go_wp2
  go_ret
  exact ⟨rfl, (Below.refl _ _).alloc (Nat.le_refl _) _⟩
theorem call13 : ∀ args w, (callFunc 13 args).run Try.prog w = .ok (.enter 13 args) w := by intro args w; go_simp
/-- The texts that are none. -/
def bad : Nat → ByteArray
  | 0 => ⟨#[48, 102, 102]⟩
  | 1 => ⟨#[70, 70]⟩
  | 2 => ⟨#[]⟩
  | 3 => ⟨#[103]⟩
  | _ => ⟨#[32, 49]⟩
theorem psn_none (k : Nat) (h : k < 5) : psn (bad k) = (0, 4) := by
  match k, h with
  | 0, _ => decide +kernel
  | 1, _ => decide +kernel
  | 2, _ => decide +kernel
  | 3, _ => decide +kernel
  | 4, _ => decide +kernel
theorem p383 : N (2 ^ 383) = .agg #[.int .u64 0, .int .u64 0, .int .u64 0, .int .u64 0, .int .u64 0, .int .u64 9223372036854775808] := by
  have h0 : wd (2 ^ 383) 0 = 0 := by decide +kernel
  have h1 : wd (2 ^ 383) 1 = 0 := by decide +kernel
  have h2 : wd (2 ^ 383) 2 = 0 := by decide +kernel
  have h3 : wd (2 ^ 383) 3 = 0 := by decide +kernel
  have h4 : wd (2 ^ 383) 4 = 0 := by decide +kernel
  have h5 : wd (2 ^ 383) 5 = 9223372036854775808 := by decide +kernel
  rw [N, h0, h1, h2, h3, h4, h5]
theorem p383_big : 2 ^ 383 < big := by decide +kernel
abbrev Zv : Value := .agg #[.int .u64 0, .int .u64 0, .int .u64 0, .int .u64 0, .int .u64 0, .int .u64 0]
theorem Nzero : N 0 = Zv := by simp only [N, wd_zero]
theorem c_sub (w : World) : Calls Try.prog 4 #[Zv, N 1] w fun e w' => e = .returned (.tuple #[N (big - 1), .bool true]) ∧ Below w.heap.size w w' := by
  have h := sub_any 0 1 big_pos (small_big 1 (by decide)) w
  rw [Nzero, show (0 + big - 1) % big = big - 1 by decide +kernel] at h
  exact h
theorem c_add (w : World) : Calls Try.prog 6 #[N (big - 1), N 1] w fun e w' => e = .returned (.tuple #[N 0, .bool true]) ∧ Below w.heap.size w w' := by
  have h := add_any (big - 1) 1 (by decide +kernel) (small_big 1 (by decide)) w
  rw [show (big - 1 + 1) % big = 0 by decide +kernel, show decide (big ≤ big - 1 + 1) = true by decide +kernel] at h
  exact h
theorem c_shift (w : World) : Calls Try.prog 8 #[N 1, .int .i64 383] w fun e w' => e = .returned (N (2 ^ 383)) ∧ Below w.heap.size w w' := by
  have h := shift_up 1 383 (by decide) w
  rw [show 1 * 2 ^ 383 % big = 2 ^ 383 by decide +kernel] at h
  exact h
theorem c_mul (w : World) : Calls Try.prog 7 #[N (2 ^ 383), N 2] w fun e w' => e = .returned (.tuple #[N 0, N 1]) ∧ Below w.heap.size w w' := by
  have h := mul_any (2 ^ 383) 2 p383_big (small_big 2 (by decide)) w
  rw [show 2 ^ 383 * 2 % big = 0 by decide +kernel, show 2 ^ 383 * 2 / big = 1 by decide +kernel] at h
  exact h
theorem c_back (w : World) : Calls Try.prog 8 #[N (2 ^ 383), .int .i64 (-383)] w fun e w' => e = .returned (N 1) ∧ Below w.heap.size w w' := by
  have h := shift_down (2 ^ 383) (-383) p383_big (by decide) (by decide) w
  rw [show 2 ^ 383 / 2 ^ (- (-383 : Int)).toNat = 1 by decide +kernel] at h
  exact h
theorem c_long (w : World) : Calls Try.prog 10 #[.string ⟨(Lib.repeatL (ByteArray.mk #[49]).data.toList 97).toArray⟩] w fun e w' => e = .returned (.tuple #[N 0, .int .i64 3]) ∧ Below w.heap.size w w' := by
  have h := parse_any ⟨(Lib.repeatL (ByteArray.mk #[49]).data.toList 97).toArray⟩ w
  rw [show psn ⟨(Lib.repeatL (ByteArray.mk #[49]).data.toList 97).toArray⟩ = (0, 3) by decide +kernel] at h
  exact h
theorem c_zero (w : World) : Calls Try.prog 10 #[.string ⟨#[48]⟩] w fun e w' => e = .returned (.tuple #[N 0, .int .i64 0]) ∧ Below w.heap.size w w' := by
  have h := parse_any ⟨#[48]⟩ w
  rw [show psn ⟨#[48]⟩ = (0, 0) by decide +kernel] at h
  exact h
def twoB (j : Nat) : Int := if j = 0 then 1 else 0
theorem c_read (g : Nat) (w : World) (hg : g < w.heap.size) (hr : Row8 w g 2 twoB) : Calls Try.prog 12 #[.slice (some ⟨g, 0, none⟩) 2 2] w fun e w' => e = .returned (.tuple #[N 256, .int .i64 0]) ∧ Below w.heap.size w w' := by
  have h := read_any g 2 2 twoB (by decide) (fun j _ => by unfold twoB; split <;> omega) w hg hr
  rw [show rdv twoB 2 2 = 256 by decide +kernel] at h
  exact h
theorem c_len (w : World) : Calls Try.prog 14 #[N 255] w fun e w' => e = .returned (.int .i64 8) ∧ Below w.heap.size w w' := by
  have h := len_any 255 (small_big 255 (by decide)) w
  rw [show bl 255 = 8 by decide +kernel] at h
  exact h
theorem c_bit (w : World) : Calls Try.prog 15 #[N 4, .int .i64 2] w fun e w' => e = .returned (.int .i64 1) ∧ Below w.heap.size w w' := by
  have h := bit_in 4 2 (by decide) w
  rw [show bitv 4 2 = 1 by decide +kernel] at h
  exact h
end Go.Proofs.Ytpcnhknkgiingab
