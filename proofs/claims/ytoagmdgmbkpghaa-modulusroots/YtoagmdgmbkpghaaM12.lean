/- trailing, divideByPower -/
import Derived.Test.YtoagmdgmbkpghaaM11
namespace Go.Proofs.Ytoagmdgmbkpghaa
open Go.RowKit
namespace Rg

theorem first_word (r : Nat) : ∀ m, r % 2 ^ (64 * m) ≠ 0 → ∃ i, i < m ∧ (∀ j, j < i → wd r j = 0) ∧ wd r i ≠ 0 := by
  intro m
  induction m with
  | zero => intro h; rw [Nat.mul_zero, Nat.pow_zero, Nat.mod_one] at h; exact absurd rfl h
  | succ m ih =>
    intro h
    by_cases h0 : r % 2 ^ (64 * m) = 0
    · by_cases h1 : wd r m = 0
      · exfalso
        apply h
        rw [mod_step, h0]
        have : wn r m = 0 := by have := wd_wn r m; omega
        rw [this]; simp
      · refine ⟨m, by omega, fun j hj => ?_, h1⟩
        unfold wd
        have e : 2 ^ (64 * m) = 2 ^ (64 * j) * (18446744073709551616 * 2 ^ (64 * (m - j - 1))) := by
          have : 64 * m = 64 * j + (64 + 64 * (m - j - 1)) := by omega
          rw [this, Nat.pow_add, Nat.pow_add]
        obtain ⟨q, hq⟩ := Nat.dvd_of_mod_eq_zero h0
        rw [hq, e, Nat.mul_assoc, Nat.mul_div_cancel_left _ (pow_pos' j), Nat.mul_assoc, Nat.mul_mod_right]
        rfl
    · obtain ⟨i, h1, h2, h3⟩ := ih h0
      exact ⟨i, by omega, h2, h3⟩
theorem low_zero (r : Nat) : ∀ m, (∀ j, j < m → wd r j = 0) → r % 2 ^ (64 * m) = 0 := by
  intro m
  induction m with
  | zero => intro _; rw [Nat.mul_zero, Nat.pow_zero, Nat.mod_one]
  | succ m ih =>
    intro h
    have : wn r m = 0 := by have := wd_wn r m; have := h m (by omega); omega
    rw [mod_step, ih (fun j hj => h j (by omega)), this]; simp
end Rg
end Go.Proofs.Ytoagmdgmbkpghaa
