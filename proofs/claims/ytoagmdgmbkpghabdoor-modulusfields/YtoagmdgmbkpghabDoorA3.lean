/- words.mulAdd, words.Mul -/
import Derived.Test.YtoagmdgmbkpghabDoorA1
import Derived.BigRegion
import Derived.Deep.RegionWith
namespace Go.Proofs.YtoagmdgmbkpghabDoor
open Go.RowKit Go.Lib

def mulLo (a b m c : Int) : Int := (a * b + m + c) % 18446744073709551616
def mulHi (a b m c : Int) : Int := (a * b + m + c) / 18446744073709551616
def pHi (x y : Nat) : Int := ((x * y / 18446744073709551616 : Nat) : Int)
def pLo (x y : Nat) : Int := ((x * y % 18446744073709551616 : Nat) : Int)
theorem mul64' (x y : Nat) (hx : x < 18446744073709551616) (hy : y < 18446744073709551616) (w : World) :
    Calls Tryd.prog 38 #[.int .u64 x, .int .u64 y] w fun e w' => e = .returned (.tuple #[.int .u64 (pHi x y), .int .u64 (pLo x y)]) ∧ w' = w := mul64N x y hx hy w
theorem prod_le (x y : Nat) (hx : x < 18446744073709551616) (hy : y < 18446744073709551616) : x * y ≤ 18446744073709551615 * 18446744073709551615 := Nat.mul_le_mul (by omega) (by omega)
theorem mulAdd_lo (x y : Nat) (m c : Int) : addLo (addLo (pLo x y) m 0) c 0 = mulLo x y m c := by
  unfold addLo pLo mulLo
  rw [← Int.natCast_mul]
  generalize x * y = p
  omega
theorem mulAdd_hi (x y : Nat) (m c : Int) (hx : x < 18446744073709551616) (hy : y < 18446744073709551616) (hm : 0 ≤ m) (hm' : m < 18446744073709551616) (hc : 0 ≤ c) (hc' : c < 18446744073709551616) :
    IntKind.u64.wrap (IntKind.u64.wrap (pHi x y + addHi (pLo x y) m 0) + addHi (addLo (pLo x y) m 0) c 0) = mulHi x y m c := by
  have h := prod_le x y hx hy
  rw [IntKind.wrap_u64, IntKind.wrap_u64]
  unfold addLo addHi pLo pHi mulHi
  rw [← Int.natCast_mul]
  generalize x * y = p at h ⊢
  omega

end Go.Proofs.YtoagmdgmbkpghabDoor
