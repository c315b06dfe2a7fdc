/- down, Wide -/
import Derived.Test.YtoagmdgmbkpghaaL6
namespace Go.Proofs.Ytoagmdgmbkpghaa
open Go.RowKit
namespace Rg

/-- The rounds of down. -/
def drun (n wr a : Nat) : Nat → Nat
  | 0 => a
  | k + 1 => (drun n wr a k + mt (drun n wr a k) wr * n) / 18446744073709551616
theorem drun_bd (n wr a : Nat) : ∀ k, drun n wr a k ≤ a / 2 ^ (64 * k) + n
  | 0 => by rw [Nat.mul_zero, Nat.pow_zero, Nat.div_one]; exact Nat.le_add_right _ _
  | k + 1 => by
    have ih := drun_bd n wr a k
    have ht := mt_lt (drun n wr a k) wr
    show (drun n wr a k + mt (drun n wr a k) wr * n) / 18446744073709551616 ≤ _
    rw [pow_step, ← Nat.div_div_eq_div_mul]
    have h1 : mt (drun n wr a k) wr * n ≤ 18446744073709551615 * n := Nat.mul_le_mul (by omega) (Nat.le_refl n)
    generalize mt (drun n wr a k) wr * n = p at h1
    omega
theorem drun_lt (n wr a : Nat) (ha : a < big) (hn : n < big) : ∀ k, drun n wr a k < big
  | 0 => ha
  | k + 1 => by
    have ih := drun_lt n wr a ha hn k
    have ht := mt_lt (drun n wr a k) wr
    show (drun n wr a k + mt (drun n wr a k) wr * n) / 18446744073709551616 < _
    rw [Nat.div_lt_iff_lt_mul (by decide)]
    have h1 : mt (drun n wr a k) wr * n ≤ 18446744073709551615 * n := Nat.mul_le_mul (by omega) (Nat.le_refl n)
    omega
theorem drun_cg (n wr a : Nat) (h : wr * n % 18446744073709551616 = 18446744073709551615) : ∀ k, Cg n (drun n wr a k * 2 ^ (64 * k)) a
  | 0 => by rw [Nat.mul_zero, Nat.pow_zero, Nat.mul_one]; exact Cg.refl _ _
  | k + 1 => by
    have ih := drun_cg n wr a h k
    have he := mt_even n wr (drun n wr a k) h
    have e : drun n wr a (k + 1) * 18446744073709551616 = drun n wr a k + mt (drun n wr a k) wr * n := by
      show (drun n wr a k + mt (drun n wr a k) wr * n) / 18446744073709551616 * 18446744073709551616 = _
      omega
    rw [pow_step, ← Nat.mul_assoc, Nat.mul_right_comm, e, Nat.add_mul]
    refine Cg.trans (b := drun n wr a k * 2 ^ (64 * k) + 0) (Cg.addL _ ?_) (by rw [Nat.add_zero]; exact ih)
    rw [Nat.mul_right_comm]
    exact Cg.zero n _
theorem drun_top (n S t : Nat) (hS : S < big) (hn : n < big) : cc S t n 6 = wn ((S + t * n) / 18446744073709551616) 5 ∨ ¬ (S + t * n) / 18446744073709551616 < big := by
  by_cases hr : (S + t * n) / 18446744073709551616 < big
  · left
    obtain ⟨j, hj⟩ : ∃ j, j = 5 := ⟨5, rfl⟩
    have hb := big_j j hj
    have e6 : cc S t n 6 = cc S t n (j + 1) := by rw [hj]
    rw [← hj, e6]
    have h := wd_last ((S + t * n) / 18446744073709551616) j (by rw [← hb]; exact hr)
    rw [wd_wn] at h
    have h' : wn ((S + t * n) / 18446744073709551616) j = (S + t * n) / 18446744073709551616 / 2 ^ (64 * j) := by omega
    rw [h', Nat.div_div_eq_div_mul, Nat.mul_comm 18446744073709551616, ← pow_step]
    unfold cc
    rw [← hb, Nat.mod_eq_of_lt hS, Nat.mod_eq_of_lt hn]
  · exact Or.inr hr
theorem d_word (Y k : Nat) : wd (Y / 18446744073709551616) k = wd Y (k + 1) := by
  unfold wd
  rw [Nat.div_div_eq_div_mul, Nat.mul_comm 18446744073709551616, ← pow_step]
theorem wideM {n : Nat} (ok : Ok n) {a b x : Nat} (hx : Cg n x (b + drun n (wrapN n) a 6)) : mont n x (big * big % n) = (a + b * big) % n := by
  rw [mont_big ok]
  have h1 := drun_cg n (wrapN n) a (wrapN_spec n ok.odd) 6
  rw [← big_eq] at h1
  have h2 := hx.mulR big
  refine h2.trans ?_
  rw [Nat.add_mul, Nat.add_comm]
  exact h1.addR _
end Rg
end Go.Proofs.Ytoagmdgmbkpghaa
