/- words.mulAdd, words.Mul -/
import Derived.Test.YtkfannhbnbgloaaDoorA1
import Derived.BigRegion
import Derived.Deep.RegionWith
namespace Go.Proofs.YtkfannhbnbgloaaDoor
open Go.RowKit Go.Lib

def mulLo (a b m c : Int) : Int := (a * b + m + c) % 18446744073709551616
def mulHi (a b m c : Int) : Int := (a * b + m + c) / 18446744073709551616
def pHi (x y : Nat) : Int := ((x * y / 18446744073709551616 : Nat) : Int)
def pLo (x y : Nat) : Int := ((x * y % 18446744073709551616 : Nat) : Int)
theorem mul64' (x y : Nat) (hx : x < 18446744073709551616) (hy : y < 18446744073709551616) (w : World) :
    Calls Tryd.prog 62 #[.int .u64 x, .int .u64 y] w fun e w' => e = .returned (.tuple #[.int .u64 (pHi x y), .int .u64 (pLo x y)]) ∧ w' = w := mul64N x y hx hy w
theorem prod_le (x y : Nat) (hx : x < 18446744073709551616) (hy : y < 18446744073709551616) : x * y ≤ 18446744073709551615 * 18446744073709551615 := Nat.mul_le_mul (by omega) (by omega)
theorem mulAdd_lo (x y : Nat) (m c : Int) : addLo (addLo (pLo x y) m 0) c 0 = mulLo x y m c := by
  unfold addLo pLo mulLo
  rw [← Int.natCast_mul]
  generalize x * y = p
  omega
theorem mulAdd_hi (x y : Nat) (m c : Int) (hx : x < 18446744073709551616) (hy : y < 18446744073709551616) (hm : 0 ≤ m) (hm' : m < 18446744073709551616) (hc : 0 ≤ c) (hc' : c < 18446744073709551616) :
    IntKind.u64.wrap (IntKind.u64.wrap (pHi x y + addHi (pLo x y) m 0) + addHi (addLo (pLo x y) m 0) c 0) = mulHi x y m c := by
  have h := prod_le x y hx hy
  rw [IntKind.wrap_u64, IntKind.wrap_u64]
  unfold addLo addHi pLo pHi mulHi
  rw [← Int.natCast_mul]
  generalize x * y = p at h ⊢
  omega

set_option maxHeartbeats 400000 in
theorem mulAdd_any (a b m c : Int) (ha : 0 ≤ a) (ha' : a < 18446744073709551616) (hb : 0 ≤ b) (hb' : b < 18446744073709551616) (hm : 0 ≤ m) (hm' : m < 18446744073709551616) (hc : 0 ≤ c) (hc' : c < 18446744073709551616) (w : World) :
    Calls Tryd.prog 55 #[.int .u64 a, .int .u64 b, .int .u64 m, .int .u64 c] w fun e w' => e = .returned (.tuple #[.int .u64 (mulLo a b m c), .int .u64 (mulHi a b m c)]) ∧ w' = w := by
  obtain ⟨x, rfl⟩ := Int.eq_ofNat_of_zero_le ha
  obtain ⟨y, rfl⟩ := Int.eq_ofNat_of_zero_le hb
  have hx : x < 18446744073709551616 := by omega
  have hy : y < 18446744073709551616 := by omega
  have e1 : Hid _ := mulAdd_hi x y m c hx hy hm hm' hc hc'
  have e2 : Hid _ := mulAdd_lo x y m c
  have h1 := fun w => add64' (pLo x y) m 0 (by unfold pLo; omega) hm (by omega) (by omega) w
  have h2 := fun w => add64' (addLo (pLo x y) m 0) c 0 (by unfold addLo; omega) hc (by omega) (by omega) w
  have h3 := fun w => mul64' x y hx hy w
  have H3 : Hid _ := h3
  clear ha ha' hb hb' hm hm' hc hc' hx hy h3
  go_enter Tryd.func55, Tryd.ntmps55
  go_wp2_with (go_at_call 62; refine (H3.out _).mono ?_; rintro e w' ⟨rfl, rfl⟩)
  rw [e1.out, e2.out]
  go_ret2
  exact ⟨rfl, rfl⟩
end Go.Proofs.YtkfannhbnbgloaaDoor
