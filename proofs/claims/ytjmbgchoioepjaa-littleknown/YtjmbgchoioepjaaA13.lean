/- math/bits.Div64: the plain arithmetic. -/
import Derived.Test.YtjmbgchoioepjaaA8
namespace Go.Proofs.Ytjmbgchoioepjaa
open Go.RowKit

theorem qmul (q Y M : Nat) (h : q * Y ≤ M) (hY : 0 < Y) : q ≤ M / Y := (Nat.le_div_iff_mul_le hY).2 h
/-- The guess is too great: so one less is not too small. -/
theorem half_more (U y1 y0 u q r : Nat) (hq : q * y1 + r = U) (hY : 0 < y1 * 4294967296 + y0) (h : r * 4294967296 + u < q * y0) :
    (U * 4294967296 + u) / (y1 * 4294967296 + y0) + 1 ≤ q := by
  have h1 : U * 4294967296 + u < q * (y1 * 4294967296 + y0) := by
    subst hq
    have e : q * (y1 * 4294967296 + y0) = q * y1 * 4294967296 + q * y0 := by rw [Nat.mul_add, Nat.mul_assoc]
    rw [e]
    clear e
    generalize q * y1 = A
    rw [Nat.add_mul, Nat.add_assoc]
    exact Nat.add_lt_add_left h _
  exact (Nat.div_lt_iff_lt_mul hY).2 h1
theorem half_big (U y1 y0 u q : Nat) (hu : u < 4294967296) (hU : U < y1 * 4294967296 + y0) (h : 4294967296 ≤ q) :
    (U * 4294967296 + u) / (y1 * 4294967296 + y0) + 1 ≤ q := by
  have hY : 0 < y1 * 4294967296 + y0 := by omega
  have h1 : U * 4294967296 + u < 4294967296 * (y1 * 4294967296 + y0) := by omega
  have := (Nat.div_lt_iff_lt_mul hY).2 h1
  omega
theorem half_enough (U y1 y0 u q r : Nat) (hq : q * y1 + r = U) (hY : 0 < y1 * 4294967296 + y0) (h : q * y0 ≤ r * 4294967296 + u) :
    q ≤ (U * 4294967296 + u) / (y1 * 4294967296 + y0) := by
  apply qmul _ _ _ _ hY
  subst hq
  have e : q * (y1 * 4294967296 + y0) = q * y1 * 4294967296 + q * y0 := by rw [Nat.mul_add, Nat.mul_assoc]
  rw [e]
  clear e
  generalize q * y1 = A
  generalize q * y0 = B at h ⊢
  omega
theorem half_start (U y1 y0 : Nat) (hy0 : y0 < 4294967296) (hy1 : 2147483648 ≤ y1) (hU : U < y1 * 4294967296 + y0) : U / y1 ≤ 4294967297 := by
  have h1 : U < 4294967298 * y1 := by omega
  have := (Nat.div_lt_iff_lt_mul (by omega : 0 < y1)).2 h1
  omega
theorem half_ge (U y1 y0 u : Nat) (hu : u < 4294967296) (hy1 : 0 < y1) : (U * 4294967296 + u) / (y1 * 4294967296 + y0) ≤ U / y1 := by
  have h1 : (U * 4294967296 + u) / (y1 * 4294967296 + y0) ≤ (U * 4294967296 + u) / (y1 * 4294967296) := Nat.div_le_div_left (by omega) (by omega)
  have h2 : (U * 4294967296 + u) / (y1 * 4294967296) = U / y1 := by
    rw [Nat.mul_comm y1, ← Nat.div_div_eq_div_mul]
    congr 1
    omega
  omega

/-- Both halves. -/
theorem halves_join (M Y u0 : Nat) (hY : 0 < Y) : M / Y * 4294967296 + (M % Y * 4294967296 + u0) / Y = (M * 4294967296 + u0) / Y := by
  have d := Nat.div_add_mod M Y
  have e : M * 4294967296 + u0 = (M % Y * 4294967296 + u0) + Y * (M / Y * 4294967296) := by
    have e1 : M * 4294967296 = Y * (M / Y * 4294967296) + M % Y * 4294967296 := by rw [← Nat.mul_assoc, ← Nat.add_mul, d]
    rw [e1]
    generalize Y * (M / Y * 4294967296) = Z
    omega
  rw [e, Nat.add_mul_div_left _ _ hY, Nat.add_comm]
theorem norm_div (n y s : Nat) : n * 2 ^ s / (y * 2 ^ s) = n / y := Nat.mul_div_mul_right _ _ (Nat.two_pow_pos s)
end Go.Proofs.Ytjmbgchoioepjaa
