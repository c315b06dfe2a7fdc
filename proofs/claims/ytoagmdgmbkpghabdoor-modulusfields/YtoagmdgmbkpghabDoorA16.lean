/- math/bits.Div64 whole, words.guess -/
import Derived.Test.YtoagmdgmbkpghabDoorA15
import Derived.WalkSmall
namespace Go.Proofs.YtoagmdgmbkpghabDoor
open Go.RowKit

set_option maxHeartbeats 400000 in
theorem div64_zero (lo y : Nat) (h1 : 0 < y) (hl : lo < 18446744073709551616) (w : World) :
    Calls Tryd.prog 50 #[.int .u64 0, .int .u64 lo, .int .u64 y] w fun e w' => ∃ rr : Int, e = .returned (.tuple #[.int .u64 (lo / y : Nat), .int .u64 rr]) ∧ ∃ n, w' = w.drewN n := by
  have e1 : ((y : Int) == 0) = false := by simp; omega
  have e3 : (1 : Int) ≤ y := by omega
  have eq : Hid _ := quo_wrap lo y (lo / y) rfl (Nat.lt_of_le_of_lt (Nat.div_le_self _ _) hl)
  clear hl
  go_enter Tryd.func50, Tryd.ntmps50
  go_wp2
  go_quiet (fail)
  go_wp2
  rw [eq.out]
  go_ret2
  exact ⟨_, rfl, _, rfl⟩
theorem div64_any (hi lo y : Nat) (h1 : hi < y) (hy : y < 18446744073709551616) (hl : lo < 18446744073709551616) (w : World) :
    Calls Tryd.prog 50 #[.int .u64 hi, .int .u64 lo, .int .u64 y] w fun e w' => ∃ rr : Int, e = .returned (.tuple #[.int .u64 ((hi * 18446744073709551616 + lo) / y : Nat), .int .u64 rr]) ∧ ∃ n, w' = w.drewN n := by
  by_cases h0 : hi = 0
  · subst h0
    rw [Nat.zero_mul, Nat.zero_add]
    exact div64_zero lo y (by omega) hl w
  · refine (div64_hi hi lo y h1 hy hl h0 w).mono ?_
    rintro e w' ⟨rr, rfl, hw⟩
    exact ⟨rr, rfl, 0, hw⟩

/-- What guess tells. -/
def gs (h l t : Nat) : Nat := if t ≤ h then 18446744073709551615 else (h * 18446744073709551616 + l) / t
theorem gs_lt (h l t : Nat) (hh : h < t) (hl : l < 18446744073709551616) : gs h l t < 18446744073709551616 := by
  unfold gs
  rw [if_neg (by omega)]
  rw [Nat.div_lt_iff_lt_mul (by omega)]
  omega
theorem gs_bd (h l t : Nat) (hl : l < 18446744073709551616) : gs h l t < 18446744073709551616 := by
  by_cases c : t ≤ h
  · unfold gs; rw [if_pos c]; omega
  · exact gs_lt h l t (by omega) hl
end Go.Proofs.YtoagmdgmbkpghabDoor
