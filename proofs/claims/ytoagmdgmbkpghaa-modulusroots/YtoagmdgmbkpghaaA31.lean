/- reliquarykit.Pick, words.Bit -/
import Derived.Test.YtoagmdgmbkpghaaPA1
namespace Go.Proofs.Ytoagmdgmbkpghaa
open Go.RowKit

/-- Bit i of a number. -/
def bitv (a i : Nat) : Int := ((a / 2 ^ i % 2 : Nat) : Int)
theorem bitv_bits (a i : Nat) : ((a >>> (64 * (i / 64)) % 2 ^ 64) >>> (i % 64)) &&& 1 = a / 2 ^ i % 2 := by
  rw [show (1 : Nat) = 2 ^ 1 - 1 from rfl, Nat.and_two_pow_sub_one_eq_mod, ← Nat.shiftRight_eq_div_pow, show a >>> i % 2 = a >>> i % 2 ^ 1 from rfl]
  apply Nat.eq_of_testBit_eq
  intro m
  simp only [Nat.testBit_mod_two_pow, Nat.testBit_shiftRight]
  by_cases hm : m < 1
  · have e1 : i % 64 + m < 64 := by omega
    have e2 : 64 * (i / 64) + (i % 64 + m) = i + m := by omega
    simp [hm, e1, e2]
  · simp [hm]
theorem bitv_word (a i : Nat) : bits .and .u64 (wd a (i / 64) / 2 ^ (i % 64)) 1 = bitv a i := by
  unfold bitv
  rw [wd_shr, div_shr, ← bitv_bits]
  exact bits_and_u64_nat _ 1 (by rw [Nat.shiftRight_eq_div_pow (n := i % 64)]; exact Nat.lt_of_le_of_lt (Nat.div_le_self _ _) (Nat.mod_lt _ (by decide))) (by decide)
theorem bitv_bd (a i : Nat) : 0 ≤ bitv a i ∧ bitv a i < 2 := by unfold bitv; omega
set_option maxHeartbeats 400000 in
set_option maxRecDepth 100000 in
theorem bit_in (a i : Nat) (hi : i < 384) (w : World) :
    Calls Try.prog 34 #[N a, .int .i64 i] w fun e w' => e = .returned (.int .i64 (bitv a i)) ∧ Below w.heap.size w w' := by
  have d0 : decide ((i : Int) < 0) = false := decide_eq_false (by omega)
  have d1 : decide ((384 : Int) ≤ i) = false := decide_eq_false (by omega)
  have hA : Row (w.alloc (.cells #[.int .u64 (wd a 0), .int .u64 (wd a 1), .int .u64 (wd a 2), .int .u64 (wd a 3), .int .u64 (wd a 4), .int .u64 (wd a 5)] 24)) w.heap.size 6 (wd a) := Row.new w _ 24 rfl (six_lt rfl)
  have hA1 := (hA (i / 64) (by omega)).1
  clear hA
  go_enter Try.func34, Try.ntmps34
  go_wp2
  rw [bitv_word, show wrap64 (bitv a i) = bitv a i by have := bitv_bd a i; unfold wrap64; omega]
  go_ret
  exact ⟨rfl, (Below.refl _ _).alloc (Nat.le_refl _) _⟩
end Go.Proofs.Ytoagmdgmbkpghaa
