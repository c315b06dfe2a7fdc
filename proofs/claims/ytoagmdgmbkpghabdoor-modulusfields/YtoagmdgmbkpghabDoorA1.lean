/- The words of math/bits at this program's numbers: sums, differences and products of two words, by the library's contracts. -/
import Derived.Test.YtoagmdgmbkpghabDoorAS
import Derived.Test.YtoagmdgmbkpghabDoorA0
import Derived.WalkKit
import Derived.WalkSpells
import Derived.Laws.Externs
import Derived.Laws.Bits64b
namespace Go.Proofs.YtoagmdgmbkpghabDoor
open Go.RowKit Go.Shelf

/-- bits.Add64: the lower word and what is carried. -/
theorem add64' (x y c : Int) (hx : 0 ≤ x) (hy : 0 ≤ y) (hc0 : 0 ≤ c) (hc : c ≤ 1) (w : World) : (callFunc 39 #[.int .u64 x, .int .u64 y, .int .u64 c]).run Tryd.prog w =
    .ok (.value (.tuple #[.int .u64 (addLo x y c), .int .u64 (addHi x y c)])) w := by
  have h := run_callFunc_extern Tryd.func39 (by kernel_rfl) (by kernel_rfl) (by kernel_rfl) (e := add64Entry) (by kernel_rfl) #[.int .u64 x, .int .u64 y, .int .u64 c] w
  rw [run_add64 x y c hx hy hc0 hc] at h
  exact h

/-- bits.Sub64: the lower word and what is borrowed. -/
theorem sub64' (x y b : Int) (hx : 0 ≤ x) (hy : 0 ≤ y) (hy' : y < 18446744073709551616) (hb0 : 0 ≤ b) (hb : b ≤ 1) (w : World) : (callFunc 28 #[.int .u64 x, .int .u64 y, .int .u64 b]).run Tryd.prog w =
    .ok (.value (.tuple #[.int .u64 (subLo x y b), .int .u64 (bor x (y + b))])) w := by
  have h := Any7.bits_Sub64 Tryd.lays26 x.toNat y.toNat b.toNat (by omega) w
  rw [Int.toNat_of_nonneg hx, Int.toNat_of_nonneg hy, Int.toNat_of_nonneg hb0] at h
  have lo : (((x.toNat + 18446744073709551616 - y.toNat - b.toNat) % 18446744073709551616 : Nat) : Int) = subLo x y b := by unfold subLo; omega
  have up : ((if x.toNat < y.toNat + b.toNat then 1 else 0 : Nat) : Int) = bor x (y + b) := by
    unfold bor
    by_cases c : x < y + b
    · rw [if_pos c, if_pos (by omega)]; rfl
    · rw [if_neg c, if_neg (by omega)]; rfl
  rw [lo, up] at h
  exact h

/-- bits.Mul64: the upper and the lower word of a product. -/
theorem mul64N (x y : Nat) (hx : x < 18446744073709551616) (hy : y < 18446744073709551616) (w : World) :
    Calls Tryd.prog 38 #[.int .u64 x, .int .u64 y] w fun e w' => e = .returned (.tuple #[.int .u64 ((x * y / 18446744073709551616 : Nat) : Int), .int .u64 ((x * y % 18446744073709551616 : Nat) : Int)]) ∧ w' = w :=
  Any.bits_Mul64 Tryd.lays264 x y hx hy w

end Go.Proofs.YtoagmdgmbkpghabDoor
