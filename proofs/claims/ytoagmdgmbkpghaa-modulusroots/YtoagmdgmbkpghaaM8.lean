/- New -/
import Derived.Test.YtoagmdgmbkpghaaM7
namespace Go.Proofs.Ytoagmdgmbkpghaa
open Go.RowKit
namespace Rg
theorem call12 : ∀ args w, (callFunc 12 args).run Try.prog w = .ok (.enter 12 args) w := by intro args w; go_simp
theorem call13 : ∀ args w, (callFunc 13 args).run Try.prog w = .ok (.enter 13 args) w := by intro args w; go_simp
abbrev modv (n o s : Nat) : Value := .agg (modx n o s).toArray
theorem ex_build39 {ρ : Operand → Value} {o : Oper} {x y : Operand} {n : Nat} {w : World} (ho : o.op = .build 40 #[(0, x), (1, y)]) (hx : ρ x = N n) (hy : ρ y = .int .u64 (wrapZ (wd n 0))) : (execOp ρ o).run Try.prog w = .ok (.value (modv n 0 0)) w := by
  simp only [execOp, ho]
  go_simp
  simp [wd_zero]
theorem ex_box39 {ρ : Operand → Value} {o : Oper} {x : Operand} {n : Nat} {w : World} (ho : o.op = .box 40 x) (hx : ρ x = modv n 0 0) :
    (execOp ρ o).run Try.prog w = .ok (.value (.pointer (some ⟨w.heap.size, 0, none⟩))) (w.alloc (.cells (modx n 0 0).toArray 40)) := by
  simp only [execOp, ho, hx]
  go_simp
theorem word_mod (n : Nat) : (wd n 0).tmod 2 = ((n % 2 : Nat) : Int) := by
  have h0 : wd n 0 = ((n % 18446744073709551616 : Nat) : Int) := by unfold wd; rw [Nat.mul_zero, Nat.pow_zero, Nat.div_one]
  rw [h0]
  rw [Int.tmod_eq_emod_of_nonneg (by omega)]; omega
theorem ok_len {n : Nat} (h1 : n % 2 = 1) (h2 : n ≠ 1) (hL : ¬ (382 : Int) < (bl n : Nat)) : Ok n := by
  refine ⟨h1, by omega, ?_⟩
  have h3 := bl_lt n
  obtain ⟨m, hm, e⟩ := big_pow
  have h4 : 2 ^ bl n ≤ 2 ^ (64 * m - 2) := Nat.pow_le_pow_right (by decide) (by omega)
  have h5 : big = 4 * 2 ^ (64 * m - 2) := by
    rw [e]
    have : 64 * m = 2 + (64 * m - 2) := by omega
    rw [this, Nat.pow_add, show 2 + (64 * m - 2) - 2 = 64 * m - 2 by omega]
  omega
theorem len_ok {n : Nat} (ok : Ok n) : ¬ (382 : Int) < (bl n : Nat) := by
  have h := ok.top
  obtain ⟨m, hm, e⟩ := big_pow
  have h5 : big = 4 * 2 ^ (64 * m - 2) := by
    rw [e]
    have : 64 * m = 2 + (64 * m - 2) := by omega
    rw [this, Nat.pow_add, show 2 + (64 * m - 2) - 2 = 64 * m - 2 by omega]
  have := bl_le_of n (64 * m - 2) (by omega)
  omega
end Rg
end Go.Proofs.Ytoagmdgmbkpghaa
