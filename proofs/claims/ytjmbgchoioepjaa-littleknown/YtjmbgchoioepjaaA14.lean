/- math/bits.Div64, words.guess -/
import Derived.Test.YtjmbgchoioepjaaA13
import Derived.BigQuiet
namespace Go.Proofs.Ytjmbgchoioepjaa
open Go.RowKit

/-- What Div64 makes of its arguments first: Y the divisor, shifted; U, u1, u0 the dividend, shifted. -/
theorem norm_parts (hi lo y : Nat) (h1 : hi < y) (hy : y < 18446744073709551616) (hl : lo < 18446744073709551616) :
    ∃ Y U u1 u0 y1 y0 : Nat, Y = y * 2 ^ (64 - bl y) ∧ 9223372036854775808 ≤ Y ∧ Y < 18446744073709551616 ∧ Y = y1 * 4294967296 + y0 ∧ y0 < 4294967296 ∧ 2147483648 ≤ y1 ∧ y1 < 4294967296 ∧ u1 < 4294967296 ∧ u0 < 4294967296 ∧ U < Y ∧
      (hi * 18446744073709551616 + lo) * 2 ^ (64 - bl y) = (U * 4294967296 + u1) * 4294967296 + u0 ∧
      IntKind.u64.wrap ((y : Int) * 2 ^ (64 - bl y)) = Y ∧ bits .or .u64 (IntKind.u64.wrap ((hi : Int) * 2 ^ (64 - bl y))) ((lo : Int) / 2 ^ (64 - (64 - bl y))) = U ∧
      IntKind.u64.wrap ((lo : Int) * 2 ^ (64 - bl y)) / 4294967296 = u1 ∧ bits .and .u64 (IntKind.u64.wrap ((lo : Int) * 2 ^ (64 - bl y))) 4294967295 = u0 ∧ (Y : Int) / 4294967296 = y1 ∧ bits .and .u64 (Y : Int) 4294967295 = y0 := by
  have hb1 : bl y ≤ 64 := bl_le_of y 64 hy
  have hb2 : 1 ≤ bl y := bl_pos y (by omega)
  have hlt := bl_lt y
  have hle := bl_le y (by omega)
  generalize hs : 64 - bl y = s
  have hbs : bl y = 64 - s := by omega
  have hs2 : s < 64 := by omega
  rw [hbs] at hlt hle
  have p64 : (18446744073709551616 : Nat) = 2 ^ 64 := by decide
  have p63 : (9223372036854775808 : Nat) = 2 ^ 63 := by decide
  have hY1 : y * 2 ^ s < 18446744073709551616 := by
    rw [p64, show (64 : Nat) = (64 - s) + s by omega, Nat.pow_add]
    have : 64 - s + s - s = 64 - s := by omega
    exact Nat.mul_lt_mul_of_pos_right hlt (Nat.two_pow_pos s)
  have hY2 : 9223372036854775808 ≤ y * 2 ^ s := by
    have e : (63 : Nat) = (64 - s - 1) + s := by omega
    rw [p63, e, Nat.pow_add]
    exact Nat.mul_le_mul_right _ hle
  -- the dividend
  have hN : hi * 18446744073709551616 + lo < y * 18446744073709551616 := by omega
  generalize hNe : (hi * 18446744073709551616 + lo) * 2 ^ s = M
  have hM : M < y * 2 ^ s * 18446744073709551616 := by
    rw [← hNe, Nat.mul_right_comm]
    exact Nat.mul_lt_mul_of_pos_right hN (Nat.two_pow_pos s)
  have hU : M / 18446744073709551616 < y * 2 ^ s := (Nat.div_lt_iff_lt_mul (by decide)).2 hM
  have hlow : M % 18446744073709551616 = lo * 2 ^ s % 18446744073709551616 := by
    rw [← hNe, Nat.add_mul, Nat.mul_right_comm, Nat.mul_add_mod_self_right]
  have hUo : (hi <<< s % 2 ^ 64) ||| (lo >>> (64 - s)) = M / 18446744073709551616 := by
    have hUlt : M / 18446744073709551616 < 2 ^ 64 := by rw [← p64]; omega
    rw [← Nat.mod_eq_of_lt hUlt, ← hNe, p64, ← Nat.shiftLeft_eq _ s, ← Nat.shiftRight_eq_div_pow]
    apply Nat.eq_of_testBit_eq
    intro i
    have eor : hi * 2 ^ 64 + lo = hi <<< 64 ||| lo := by rw [← Nat.shiftLeft_eq, Nat.shiftLeft_add_eq_or_of_lt (by rw [← p64]; exact hl)]
    rw [eor]
    simp only [Nat.testBit_or, Nat.testBit_mod_two_pow, Nat.testBit_shiftLeft, Nat.testBit_shiftRight]
    by_cases h64 : i < 64
    · by_cases his : s ≤ i
      · have f1 : s ≤ 64 + i := by omega
        have f2 : 64 ≤ 64 + i - s := by omega
        have f3 : 64 + i - s - 64 = i - s := by omega
        have f4 : 64 - s + i = 64 + i - s := by omega
        have f5 : lo.testBit (64 + i - s) = false := Nat.testBit_lt_two_pow (Nat.lt_of_lt_of_le (by rw [← p64]; exact hl) (Nat.pow_le_pow_right (by decide) f2))
        simp [h64, his, f1, f2, f3, f4, f5]
      · have f1 : s ≤ 64 + i := by omega
        have f2 : ¬ 64 ≤ 64 + i - s := by omega
        have f4 : 64 - s + i = 64 + i - s := by omega
        simp [h64, his, f1, f2, f4]
    · have f5 : lo.testBit (64 - s + i) = false := Nat.testBit_lt_two_pow (Nat.lt_of_lt_of_le (by rw [← p64]; exact hl) (Nat.pow_le_pow_right (by decide) (by omega)))
      simp [h64, f5]
  refine ⟨y * 2 ^ s, M / 18446744073709551616, M % 18446744073709551616 / 4294967296, M % 18446744073709551616 % 4294967296, y * 2 ^ s / 4294967296, y * 2 ^ s % 4294967296, rfl, hY2, hY1, by omega, by omega, by omega, by omega, by omega, by omega, hU, by omega, ?_, ?_, ?_, ?_, ?_, ?_⟩
  · rw [wrap_shl, Nat.shiftLeft_eq, ← p64, Nat.mod_eq_of_lt hY1]
  · rw [wrap_shl, div_shr, bits_or_u64_nat _ _ (Nat.mod_lt _ (by decide)) (by rw [Nat.shiftRight_eq_div_pow]; exact Nat.lt_of_le_of_lt (Nat.div_le_self _ _) hl), hUo]
  · rw [wrap_shl, Nat.shiftLeft_eq, ← p64, hlow]; rfl
  · rw [wrap_shl, Nat.shiftLeft_eq, ← p64, hlow, Mul64.maskN _ (Nat.mod_lt _ (by decide))]
  · rfl
  · rw [Mul64.maskN _ hY1]
end Go.Proofs.Ytjmbgchoioepjaa
