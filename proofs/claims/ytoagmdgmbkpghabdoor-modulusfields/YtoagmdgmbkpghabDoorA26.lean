/- The law WordsBack, walked. -/
import Derived.Test.YtoagmdgmbkpghabDoorA25
import Derived.Test.YtoagmdgmbkpghabDoorA5
namespace Go.Proofs.YtoagmdgmbkpghabDoor
open Go.RowKit

/-! The plain law. -/
theorem back_sub (a b : Nat) (ha : a < big) (hb : b < big) : ((a + b) % big + big - b) % big = a ∧ decide ((a + b) % big < b) = decide (big ≤ a + b) := by
  by_cases c : big ≤ a + b
  · have e : (a + b) % big = a + b - big := by rw [Nat.mod_eq_sub_mod c, Nat.mod_eq_of_lt (by omega)]
    rw [e, decide_eq_true c, show a + b - big + big - b = a by omega, Nat.mod_eq_of_lt ha]
    exact ⟨rfl, decide_eq_true (by omega)⟩
  · rw [Nat.mod_eq_of_lt (show a + b < big by omega), decide_eq_false c, show a + b + big - b = a + big by omega, Nat.add_mod_right, Nat.mod_eq_of_lt ha]
    exact ⟨rfl, decide_eq_false (by omega)⟩
theorem mod_big (n : Nat) : n % big < big := Nat.mod_lt _ big_pos

end Go.Proofs.YtoagmdgmbkpghabDoor
