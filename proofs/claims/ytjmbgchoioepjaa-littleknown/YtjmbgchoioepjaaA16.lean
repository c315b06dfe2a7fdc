/- math/bits.Div64 whole, Rem64 -/
import Derived.Test.YtjmbgchoioepjaaA15
import Derived.WalkSmall
namespace Go.Proofs.Ytjmbgchoioepjaa
open Go.RowKit

set_option maxHeartbeats 400000 in
theorem div64_zero (lo y : Nat) (h1 : 0 < y) (hl : lo < 18446744073709551616) (w : World) :
    Calls Try.prog 83 #[.int .u64 0, .int .u64 lo, .int .u64 y] w fun e w' => e = .returned (.tuple #[.int .u64 (lo / y : Nat), .int .u64 (lo % y : Nat)]) ∧ ∃ n, w' = w.drewN n := by
  have e1 : ((y : Int) == 0) = false := by simp; omega
  have e3 : (1 : Int) ≤ y := by omega
  have eq : Hid _ := quo_wrap lo y (lo / y) rfl (Nat.lt_of_le_of_lt (Nat.div_le_self _ _) hl)
  clear hl
  go_enter Try.func83, Try.ntmps83
  go_wp2
  go_quiet (fail)
  go_wp2
  rw [eq.out]
  go_ret2
  exact ⟨rfl, _, rfl⟩
theorem div64_any (hi lo y : Nat) (h1 : hi < y) (hy : y < 18446744073709551616) (hl : lo < 18446744073709551616) (w : World) :
    Calls Try.prog 83 #[.int .u64 hi, .int .u64 lo, .int .u64 y] w fun e w' => e = .returned (.tuple #[.int .u64 ((hi * 18446744073709551616 + lo) / y : Nat), .int .u64 ((hi * 18446744073709551616 + lo) % y : Nat)]) ∧ ∃ n, w' = w.drewN n := by
  by_cases h0 : hi = 0
  · subst h0
    rw [Nat.zero_mul, Nat.zero_add]
    exact div64_zero lo y (by omega) hl w
  · refine (div64_hi hi lo y h1 hy hl h0 w).mono ?_
    rintro e w' ⟨rfl, hw⟩
    exact ⟨rfl, 0, hw⟩
set_option maxHeartbeats 400000 in
theorem rem64_any (hi lo y : Nat) (h0 : 0 < y) (hy : y < 18446744073709551616) (hl : lo < 18446744073709551616) (w : World) :
    Calls Try.prog 76 #[.int .u64 hi, .int .u64 lo, .int .u64 y] w fun e w' => e = .returned (.int .u64 ((hi * 18446744073709551616 + lo) % y : Nat)) ∧ ∃ n, w' = w.drewN n := by
  have hc := fun w => div64_any (hi % y) lo y (Nat.mod_lt _ h0) hy hl w
  have er : (hi % y * 18446744073709551616 + lo) % y = (hi * 18446744073709551616 + lo) % y := by
    rw [Nat.add_mod, Nat.mul_mod, Nat.mod_mod, ← Nat.mul_mod, ← Nat.add_mod]
  rw [er] at hc
  generalize (hi * 18446744073709551616 + lo) % y = rr at hc ⊢
  generalize (hi % y * 18446744073709551616 + lo) / y = qq at hc
  have e3 : (1 : Int) ≤ y := by omega
  have HC : Hid _ := hc
  clear hc hl hy er h0
  go_enter Try.func76, Try.ntmps76
  go_wp2_with (go_at_call 83; refine (HC.out _).mono ?_; rintro e w' ⟨rfl, hb⟩)
  go_ret
  exact ⟨rfl, hb⟩
end Go.Proofs.Ytjmbgchoioepjaa
