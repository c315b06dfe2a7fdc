/- reliquarylaw01.awake -/
import Derived.Test.YtoagmdgmbkpghabDoorA21
import Derived.Deep.RegionHeld3
namespace Go.Proofs.YtoagmdgmbkpghabDoor
open Go.RowKit

theorem of_int (x : Int) (h0 : 0 ≤ x) (h1 : x < 18446744073709551616) (w : World) :
    Calls Tryd.prog 11 #[.int .u64 x] w fun e w' => e = .returned (N x.toNat) ∧ Below w.heap.size w w' := by
  obtain ⟨n, rfl⟩ := Int.eq_ofNat_of_zero_le h0
  rw [Int.toNat_natCast]
  exact of_any n (by omega) w
theorem small_big (n : Nat) (h : n < 18446744073709551616) : n < big := Nat.lt_of_lt_of_le (show n < 2 ^ 64 from h) (by
  obtain ⟨m, hm, e⟩ := big_pow
  rw [e]; exact pow_le' _ _ (by omega))
theorem eq_same (n : Nat) (hn : n < 18446744073709551616) (w : World) : (Op.equalIn 10000 24 (N n) (N n)).run Tryd.prog w = .ok true w := by
  rw [run_eqN n n (small_big n hn) (small_big n hn), decide_eq_true rfl]

end Go.Proofs.YtoagmdgmbkpghabDoor
