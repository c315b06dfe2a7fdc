/- Plain arithmetic of shifts, by bits. -/
import Derived.Test.YtjmbgchoioepjaaA0
import Derived.Laws.Bits64b
namespace Go.Proofs.Ytjmbgchoioepjaa
open Go.RowKit

theorem wd_shr (v k : Nat) : wd v k = ((v >>> (64 * k) % 2 ^ 64 : Nat) : Int) := by unfold wd; rw [Nat.shiftRight_eq_div_pow]
theorem up_bits1 (a n k : Nat) (h : k = n / 64) : ((a >>> (64 * (k - n / 64)) % 2 ^ 64) <<< (n % 64)) % 2 ^ 64 = (a <<< n) >>> (64 * k) % 2 ^ 64 := by
  apply Nat.eq_of_testBit_eq
  intro i
  simp only [Nat.testBit_mod_two_pow, Nat.testBit_shiftLeft, Nat.testBit_shiftRight]
  by_cases hi : i < 64
  · by_cases ht : n % 64 ≤ i
    · have e1 : n ≤ 64 * k + i := by omega
      have e2 : 64 * (k - n / 64) + (i - n % 64) = 64 * k + i - n := by omega
      have e3 : i - n % 64 < 64 := by omega
      simp [hi, ht, e1, e2, e3]
    · have e1 : ¬ n ≤ 64 * k + i := by omega
      simp [hi, ht, e1]
  · simp [hi]
theorem up_bits (a n k : Nat) (h : n / 64 < k) : ((a >>> (64 * (k - n / 64)) % 2 ^ 64) <<< (n % 64)) % 2 ^ 64 ||| (a >>> (64 * (k - n / 64 - 1)) % 2 ^ 64) >>> (64 - n % 64) = (a <<< n) >>> (64 * k) % 2 ^ 64 := by
  apply Nat.eq_of_testBit_eq
  intro i
  simp only [Nat.testBit_or, Nat.testBit_mod_two_pow, Nat.testBit_shiftLeft, Nat.testBit_shiftRight]
  by_cases hi : i < 64
  · have e1 : n ≤ 64 * k + i := by omega
    by_cases ht : n % 64 ≤ i
    · have e2 : 64 * (k - n / 64) + (i - n % 64) = 64 * k + i - n := by omega
      have e3 : i - n % 64 < 64 := by omega
      have e4 : ¬ 64 - n % 64 + i < 64 := by omega
      simp [hi, ht, e1, e2, e3, e4]
    · have e4 : 64 - n % 64 + i < 64 := by omega
      have e5 : 64 * (k - n / 64 - 1) + (64 - n % 64 + i) = 64 * k + i - n := by omega
      simp [hi, ht, e1, e4, e5]
  · have e4 : ¬ 64 - n % 64 + i < 64 := by omega
    simp [hi, e4]
theorem down_bits (a n k : Nat) (h : n / 64 ≤ k) : (a >>> (64 * k) % 2 ^ 64) >>> (n % 64) ||| ((a >>> (64 * (k + 1)) % 2 ^ 64) <<< (64 - n % 64)) % 2 ^ 64 = (a >>> n) >>> (64 * (k - n / 64)) % 2 ^ 64 := by
  apply Nat.eq_of_testBit_eq
  intro i
  simp only [Nat.testBit_or, Nat.testBit_mod_two_pow, Nat.testBit_shiftLeft, Nat.testBit_shiftRight]
  by_cases hi : i < 64
  · by_cases ht : n % 64 + i < 64
    · have e2 : 64 * k + (n % 64 + i) = n + (64 * (k - n / 64) + i) := by omega
      have e3 : ¬ 64 - n % 64 ≤ i := by omega
      simp [hi, ht, e2, e3]
    · have e3 : 64 - n % 64 ≤ i := by omega
      have e4 : i - (64 - n % 64) < 64 := by omega
      have e5 : 64 * (k + 1) + (i - (64 - n % 64)) = n + (64 * (k - n / 64) + i) := by omega
      simp [hi, ht, e3, e4, e5]
  · have e4 : ¬ n % 64 + i < 64 := by omega
    simp [hi, e4]
theorem wrap_shl (x t : Nat) : IntKind.u64.wrap ((x : Int) * 2 ^ t) = ((x <<< t % 2 ^ 64 : Nat) : Int) := by
  rw [IntKind.wrap_u64, Nat.shiftLeft_eq]
  have : (x : Int) * 2 ^ t = ((x * 2 ^ t : Nat) : Int) := by rw [Int.natCast_mul, Int.natCast_pow]; rfl
  rw [this]; rfl
theorem div_shr (x t : Nat) : (x : Int) / 2 ^ t = ((x >>> t : Nat) : Int) := by
  rw [Nat.shiftRight_eq_div_pow]
  have : ((2 : Int) ^ t) = ((2 ^ t : Nat) : Int) := by rw [Int.natCast_pow]; rfl
  rw [this]; rfl
theorem up_word1 (a n k : Nat) (h : k = n / 64) : IntKind.u64.wrap (wd a (k - n / 64) * 2 ^ (n % 64)) = wd (a * 2 ^ n) k := by
  rw [wd_shr, wrap_shl, up_bits1 a n k h, wd_shr, Nat.shiftLeft_eq]
theorem up_word (a n k : Nat) (h : n / 64 < k) : bits .or .u64 (IntKind.u64.wrap (wd a (k - n / 64) * 2 ^ (n % 64))) (wd a (k - n / 64 - 1) / 2 ^ (64 - n % 64)) = wd (a * 2 ^ n) k := by
  rw [wd_shr, wrap_shl, wd_shr, div_shr, wd_shr, ← Nat.shiftLeft_eq, ← up_bits a n k h]
  refine bits_or_u64_nat _ _ (Nat.mod_lt _ (by decide)) ?_
  rw [Nat.shiftRight_eq_div_pow]
  exact Nat.lt_of_le_of_lt (Nat.div_le_self _ _) (Nat.mod_lt _ (by decide))
theorem down_word (a n k : Nat) (h : n / 64 ≤ k) : bits .or .u64 (wd a k / 2 ^ (n % 64)) (IntKind.u64.wrap (wd a (k + 1) * 2 ^ (64 - n % 64))) = wd (a / 2 ^ n) (k - n / 64) := by
  rw [wd_shr, wd_shr, wrap_shl, div_shr, wd_shr, ← Nat.shiftRight_eq_div_pow, ← down_bits a n k h]
  refine bits_or_u64_nat _ _ ?_ (Nat.mod_lt _ (by decide))
  rw [Nat.shiftRight_eq_div_pow (n := n % 64)]
  exact Nat.lt_of_le_of_lt (Nat.div_le_self _ _) (Nat.mod_lt _ (by decide))
theorem pow_le' (j m : Nat) (h : j ≤ m) : 2 ^ j ≤ 2 ^ m := Nat.pow_le_pow_right (by decide) h
theorem big_pow : ∃ n, n = 6 ∧ big = 2 ^ (64 * n) := ⟨6, rfl, big_eq⟩
theorem big_le (m : Nat) (h : 384 ≤ m) : big ≤ 2 ^ m := by
  obtain ⟨n, hn, e⟩ := big_pow
  rw [e]; exact pow_le' _ _ (by omega)
theorem pow_mono (j k : Nat) (h : j ≤ k) : 2 ^ (64 * j) ≤ 2 ^ (64 * k) := Nat.pow_le_pow_right (by decide) (Nat.mul_le_mul_left 64 h)
theorem wd_top' (v j k : Nat) (h : v < 2 ^ (64 * j)) (hk : j ≤ k) : wd v k = 0 := by
  unfold wd
  rw [Nat.div_eq_of_lt (Nat.lt_of_lt_of_le h (pow_mono j k hk))]
  rfl
theorem wd_top (v k : Nat) (h : v < big) (hk : 6 ≤ k) : wd v k = 0 := wd_top' v 6 k (Nat.lt_of_lt_of_eq h big_eq) hk
theorem down_last (a n : Nat) (ha : a < big) (h : n / 64 ≤ 5) : wd a 5 / 2 ^ (n % 64) = wd (a / 2 ^ n) (5 - n / 64) := by
  have e := down_bits a n 5 h
  have z : a >>> (64 * (5 + 1)) % 2 ^ 64 = 0 := by
    have := wd_top a 6 ha (by omega)
    rw [wd_shr] at this
    exact Int.ofNat.inj this
  rw [z] at e
  rw [wd_shr, div_shr, wd_shr, ← Nat.shiftRight_eq_div_pow, ← e]
  simp
end Go.Proofs.Ytjmbgchoioepjaa
