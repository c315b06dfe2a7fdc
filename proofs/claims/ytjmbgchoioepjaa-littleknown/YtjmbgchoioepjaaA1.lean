/- The words of math/bits at this program's numbers: sums, differences and products of two words, by the library's contracts. -/
import Derived.Test.YtjmbgchoioepjaaAS
import Derived.Test.YtjmbgchoioepjaaA0
import Derived.WalkKit
import Derived.WalkSpells
import Derived.Laws.Externs
import Derived.Laws.Bits64b
namespace Go.Proofs.Ytjmbgchoioepjaa
open Go.RowKit Go.Shelf

/-- bits.Add64: the lower word and what is carried. -/
theorem add64' (x y c : Int) (hx : 0 ≤ x) (hy : 0 ≤ y) (hc0 : 0 ≤ c) (hc : c ≤ 1) (w : World) : (callFunc 84 #[.int .u64 x, .int .u64 y, .int .u64 c]).run Try.prog w =
    .ok (.value (.tuple #[.int .u64 (addLo x y c), .int .u64 (addHi x y c)])) w := by
  have h := run_callFunc_extern Try.func84 (by kernel_rfl) (by kernel_rfl) (by kernel_rfl) (e := add64Entry) (by kernel_rfl) #[.int .u64 x, .int .u64 y, .int .u64 c] w
  rw [run_add64 x y c hx hy hc0 hc] at h
  exact h

/-- bits.Mul64: the upper and the lower word of a product. -/
theorem mul64N (x y : Nat) (hx : x < 18446744073709551616) (hy : y < 18446744073709551616) (w : World) :
    Calls Try.prog 75 #[.int .u64 x, .int .u64 y] w fun e w' => e = .returned (.tuple #[.int .u64 ((x * y / 18446744073709551616 : Nat) : Int), .int .u64 ((x * y % 18446744073709551616 : Nat) : Int)]) ∧ w' = w :=
  Any.bits_Mul64 Try.lays264 x y hx hy w

end Go.Proofs.Ytjmbgchoioepjaa
