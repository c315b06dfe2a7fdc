/- reliquarylaw01.awake -/
import Derived.Test.YtkfannhbnbgloaaDoorA21
import Derived.Deep.RegionHeld3
namespace Go.Proofs.YtkfannhbnbgloaaDoor
open Go.RowKit

theorem of_int (x : Int) (h0 : 0 ≤ x) (h1 : x < 18446744073709551616) (w : World) :
    Calls Tryd.prog 29 #[.int .u64 x] w fun e w' => e = .returned (N x.toNat) ∧ Below w.heap.size w w' := by
  obtain ⟨n, rfl⟩ := Int.eq_ofNat_of_zero_le h0
  rw [Int.toNat_natCast]
  exact of_any n (by omega) w
theorem small_big (n : Nat) (h : n < 18446744073709551616) : n < big := Nat.lt_of_lt_of_le (show n < 2 ^ 64 from h) (by
  obtain ⟨m, hm, e⟩ := big_pow
  rw [e]; exact pow_le' _ _ (by omega))
theorem div72 (w : World) : Calls Tryd.prog 32 #[N 7, N 2] w fun e w' => e = .returned (.tuple #[N 3, N 1, .int .i64 0]) ∧ Below w.heap.size w w' :=
  divide_some 7 2 (small_big 7 (by decide)) (small_big 2 (by decide)) (by decide) w
theorem eq_same (n : Nat) (hn : n < 18446744073709551616) (w : World) : (Op.equalIn 10000 24 (N n) (N n)).run Tryd.prog w = .ok true w := by
  rw [run_eqN n n (small_big n hn) (small_big n hn), decide_eq_true rfl]

end Go.Proofs.YtkfannhbnbgloaaDoor
