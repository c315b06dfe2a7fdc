/- words.shiftLong -/
import Derived.Test.YtoagmdgmbkpghabDoorA11
import Derived.Test.YtoagmdgmbkpghabDoorC0
namespace Go.Proofs.YtoagmdgmbkpghabDoor
open Go.RowKit

theorem div_zero_of (a m : Nat) (ha : a < big) (hm : 384 ≤ m) : a / 2 ^ m = 0 := Nat.div_eq_of_lt (Nat.lt_of_lt_of_le ha (big_le m hm))
theorem shv_high (a n : Nat) (ha : a < big) (hn : n < 64) : shv a ((n : Int) - 384) = a / 2 ^ (384 - n) := by
  unfold shv
  by_cases h : n = 0
  · rw [if_pos (by omega)]
    exact (div_zero_of a (384 - n) ha (by omega)).symm
  · rw [if_neg (by omega), if_pos (by omega)]
    have e : (-((n : Int) - 384)).toNat = 384 - n := by omega
    rw [e]
theorem long_top (a n : Nat) (hn : n < 64) : wd (a / 2 ^ (384 - n)) 0 = wd (a * 2 ^ n) 6 := by
  unfold wd
  rw [Nat.mul_zero, Nat.pow_zero, Nat.div_one]
  have e : 64 * 6 = n + (384 - n) := by omega
  rw [e, Nat.pow_add, ← Nat.div_div_eq_div_mul, Nat.mul_div_cancel _ (Nat.two_pow_pos n)]

end Go.Proofs.YtoagmdgmbkpghabDoor
