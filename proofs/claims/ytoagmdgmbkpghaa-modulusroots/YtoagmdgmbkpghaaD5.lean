/- Long division, bit by bit: the numbers. -/
import Derived.Test.YtoagmdgmbkpghaaD4
namespace Go.Proofs.Ytoagmdgmbkpghaa
open Go.RowKit

/-- What is left, and what went in, when the bits from k on have been taken. -/
def dvr (a b k : Nat) : Nat := a / 2 ^ k % b
def dvq (a b k : Nat) : Nat := a / 2 ^ k / b * 2 ^ k
theorem dv_step (a b i : Nat) (hb : 0 < b) : (b ≤ 2 * dvr a b (i + 1) + a / 2 ^ i % 2 ∧ dvr a b i = 2 * dvr a b (i + 1) + a / 2 ^ i % 2 - b ∧ dvq a b i = dvq a b (i + 1) + 2 ^ i) ∨
    (2 * dvr a b (i + 1) + a / 2 ^ i % 2 < b ∧ dvr a b i = 2 * dvr a b (i + 1) + a / 2 ^ i % 2 ∧ dvq a b i = dvq a b (i + 1)) := by
  have e1 : a / 2 ^ i = 2 * (a / 2 ^ (i + 1)) + a / 2 ^ i % 2 := by
    rw [Nat.pow_succ, ← Nat.div_div_eq_div_mul]; omega
  have e2 := Nat.div_add_mod (a / 2 ^ (i + 1)) b
  have e3 := Nat.mod_lt (a / 2 ^ (i + 1)) hb
  have e4 : a / 2 ^ i % 2 < 2 := Nat.mod_lt _ (by decide)
  unfold dvr dvq
  generalize a / 2 ^ (i + 1) = A at e1 e2 e3 ⊢
  generalize ha : a / 2 ^ i = A2 at e1 e4 ⊢
  generalize hq : A / b = q at e2 ⊢
  generalize hr : A % b = r at e2 e3 ⊢
  generalize A2 % 2 = e at e1 e4 ⊢
  have e5 : A2 = 2 * r + e + b * (2 * q) := by
    rw [show b * (2 * q) = 2 * (b * q) by rw [Nat.mul_left_comm]]; omega
  have e6 : q * 2 ^ (i + 1) = 2 * q * 2 ^ i := by rw [Nat.pow_succ, ← Nat.mul_assoc, Nat.mul_comm (q * 2 ^ i), ← Nat.mul_assoc]
  rcases Nat.lt_or_ge (2 * r + e) b with h | h
  · right
    rw [e5, Nat.add_mul_mod_self_left, Nat.mod_eq_of_lt h, Nat.add_mul_div_left _ _ hb, Nat.div_eq_of_lt h, Nat.zero_add, e6]
    exact ⟨h, rfl, rfl⟩
  · left
    have e7 : A2 = (2 * r + e - b) + b * (2 * q + 1) := by rw [e5, Nat.mul_add]; omega
    have e8 : 2 * r + e - b < b := by omega
    rw [e7, Nat.add_mul_mod_self_left, Nat.mod_eq_of_lt e8, Nat.add_mul_div_left _ _ hb, Nat.div_eq_of_lt e8, Nat.zero_add, e6, Nat.add_mul, Nat.one_mul]
    exact ⟨h, rfl, rfl⟩
theorem dvr_lt (a b k : Nat) (hb : 0 < b) : dvr a b k < b := Nat.mod_lt _ hb
theorem dv_start (a b m : Nat) (ha : a < 2 ^ m) : dvr a b m = 0 ∧ dvq a b m = 0 := by
  unfold dvr dvq
  rw [Nat.div_eq_of_lt ha, Nat.zero_mod, Nat.zero_div, Nat.zero_mul]
  exact ⟨rfl, rfl⟩
theorem dv_end (a b : Nat) : dvr a b 0 = a % b ∧ dvq a b 0 = a / b := by
  unfold dvr dvq
  simp
theorem dvq_or (a b i : Nat) : dvq a b (i + 1) + 2 ^ i = 2 ^ i ||| dvq a b (i + 1) := by
  unfold dvq
  have h := Nat.shiftLeft_add_eq_or_of_lt (b := 2 ^ i) (i := i + 1) (Nat.pow_lt_pow_right (by decide) (Nat.lt_succ_self i)) (a / 2 ^ (i + 1) / b)
  rw [Nat.shiftLeft_eq] at h
  rw [h, Nat.or_comm]
theorem or_other (V p j : Nat) (hj : j ≠ p / 64) : wd (2 ^ p ||| V) j = wd V j := by
  rw [wd_shr, wd_shr]
  congr 1
  apply Nat.eq_of_testBit_eq
  intro i
  simp only [Nat.testBit_or, Nat.testBit_mod_two_pow, Nat.testBit_shiftRight, Nat.testBit_two_pow]
  by_cases hi : i < 64
  · have : ¬ p = 64 * j + i := by omega
    simp [this]
  · simp [hi]
theorem or_word (V p : Nat) : bits .or .u64 (wd V (p / 64)) (IntKind.u64.wrap (2 ^ (p % 64))) = wd (2 ^ p ||| V) (p / 64) := by
  have h1 := part_bits V 1 p
  have h2 := wrap_shl 1 (p % 64)
  rw [show ((1 : Nat) : Int) * 2 ^ (p % 64) = 2 ^ (p % 64) by rw [show ((1 : Nat) : Int) = 1 from rfl, Int.one_mul]] at h2
  rw [h2, wd_shr, wd_shr, show 2 ^ p = 1 <<< p by rw [Nat.shiftLeft_eq, Nat.one_mul], ← h1]
  exact bits_or_u64_nat _ _ (Nat.mod_lt _ (by decide)) (Nat.mod_lt _ (by decide))
theorem set_or (V p j : Nat) : upd (wd V) (p / 64) (bits .or .u64 (wd V (p / 64)) (IntKind.u64.wrap (2 ^ (p % 64)))) j = wd (2 ^ p ||| V) j := by
  unfold upd
  by_cases h : j = p / 64
  · rw [if_pos h, h, or_word]
  · rw [if_neg h, or_other V p j h]
/-- The lowest bit laid into an even number. -/
theorem low_bit (r e : Nat) (he : e < 2) (j : Nat) : upd (wd ((r + r) % big)) 0 (bits .or .u64 (wd ((r + r) % big) 0) (e : Int)) j = wd ((r + r) % big + e) j := by
  have hev : (r + r) % big = ((r + r) % big / 2) * 2 ^ 1 := by
    have : (r + r) % big % 2 = 0 := by
      obtain ⟨n, hn, eb⟩ := big_pow
      rw [eb, show 64 * n = 64 * n - 1 + 1 by omega, Nat.pow_succ, Nat.mod_mul_left_mod]
      omega
    omega
  generalize (r + r) % big / 2 = d at hev
  rw [hev]
  have hor : d * 2 ^ 1 + e = d <<< 1 ||| e := by
    rw [← Nat.shiftLeft_eq, Nat.shiftLeft_add_eq_or_of_lt (by omega)]
  rw [hor, ← Nat.shiftLeft_eq]
  unfold upd
  by_cases h : j = 0
  · subst h
    rw [if_pos rfl]
    rw [wd_shr, wd_shr]
    have e1 : (d <<< 1 ||| e) >>> (64 * 0) % 2 ^ 64 = (d <<< 1 >>> (64 * 0) % 2 ^ 64) ||| e := by
      apply Nat.eq_of_testBit_eq
      intro i
      simp only [Nat.testBit_or, Nat.testBit_mod_two_pow, Nat.testBit_shiftRight]
      by_cases hi : i < 64
      · simp [hi]
      · have : e.testBit i = false := Nat.testBit_lt_two_pow (Nat.lt_of_lt_of_le he (by
          calc 2 = 2 ^ 1 := rfl
            _ ≤ 2 ^ i := Nat.pow_le_pow_right (by decide) (by omega)))
        simp [hi, this]
    rw [e1]
    exact bits_or_u64_nat _ _ (Nat.mod_lt _ (by decide)) (by omega)
  · rw [if_neg h, wd_shr, wd_shr]
    congr 1
    apply Nat.eq_of_testBit_eq
    intro i
    simp only [Nat.testBit_or, Nat.testBit_mod_two_pow, Nat.testBit_shiftRight]
    have : e.testBit (64 * j + i) = false := Nat.testBit_lt_two_pow (Nat.lt_of_lt_of_le he (by
      calc 2 = 2 ^ 1 := rfl
        _ ≤ 2 ^ (64 * j + i) := Nat.pow_le_pow_right (by decide) (by omega)))
    simp [this]
/-- The top bit. -/
theorem top_one (r : Nat) (hr : r < big) : (wd r 5 / 9223372036854775808 == 1) = decide (big ≤ 2 * r) := by
  obtain ⟨n, hn, eb⟩ := big_pow
  obtain ⟨m, hm⟩ : ∃ m : Nat, m = 5 := ⟨5, rfl⟩
  rw [eb] at hr ⊢
  rw [← hm]
  have e0 : (18446744073709551616 : Nat) = 2 ^ 64 := by decide
  have e2 : 2 ^ (64 * n) = 2 ^ (64 * m) * 18446744073709551616 := by
    rw [e0, ← Nat.pow_add, show 64 * m + 64 = 64 * n by omega]
  rw [e2] at hr ⊢
  have e1 : r / 2 ^ (64 * m) < 18446744073709551616 := Nat.div_lt_of_lt_mul hr
  unfold wd
  rw [Nat.mod_eq_of_lt e1]
  have h1 := Nat.div_add_mod r (2 ^ (64 * m))
  have h2 := Nat.mod_lt r (Nat.two_pow_pos (64 * m))
  clear e0 e2 eb hn hr
  generalize hA : r / 2 ^ (64 * m) = A at h1 e1 ⊢
  generalize r % 2 ^ (64 * m) = B at h1 h2
  generalize 2 ^ (64 * m) = M at h1 h2 ⊢
  have hi : ((A : Nat) : Int) / 9223372036854775808 = ((A / 9223372036854775808 : Nat) : Int) := by omega
  rw [hi]
  obtain ⟨H, hH⟩ : ∃ H : Nat, H = 9223372036854775808 := ⟨_, rfl⟩
  have hH2 : 18446744073709551616 = 2 * H := by omega
  rw [hH2, ← hH, Nat.mul_left_comm]
  by_cases c : H ≤ A
  · have hd : A / H = 1 := by rw [hH]; omega
    have hm : M * H ≤ M * A := Nat.mul_le_mul_left _ c
    rw [hd, decide_eq_true (by omega)]
    rfl
  · have hd : A / H = 0 := Nat.div_eq_of_lt (by omega)
    have hm : M * (A + 1) ≤ M * H := Nat.mul_le_mul_left _ (by omega)
    rw [Nat.mul_add, Nat.mul_one] at hm
    rw [hd, decide_eq_false (by omega)]
    rfl
end Go.Proofs.Ytoagmdgmbkpghaa
