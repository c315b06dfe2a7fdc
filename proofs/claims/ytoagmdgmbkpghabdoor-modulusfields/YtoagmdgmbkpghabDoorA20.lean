/- The plain arithmetic of words.Divide. -/
import Derived.Test.YtoagmdgmbkpghabDoorA19
namespace Go.Proofs.YtoagmdgmbkpghabDoor
open Go.RowKit

/-- What Divide makes of its divisor: s + 1 words, shifted by sh. -/
theorem div_parts (b : Nat) (hb : b < big) (h0 : b ≠ 0) : ∃ s sh : Nat, s ≤ 5 ∧ sh < 64 ∧ bl b + sh = 64 * (s + 1) ∧ (bl b + 63) / 64 = s + 1 ∧ 0 < b * 2 ^ sh ∧ b * 2 ^ sh < 2 ^ (64 * (s + 1)) ∧ 2 ^ (64 * (s + 1) - 1) ≤ b * 2 ^ sh := by
  have hlt : bl b ≤ 384 := by
    obtain ⟨n, hn, e⟩ := big_pow
    rw [e] at hb
    have := bl_le_of b _ hb
    omega
  have hp := bl_pos b h0
  have h1 := bl_lt b
  have h2 := bl_le b h0
  refine ⟨(bl b + 63) / 64 - 1, 64 * ((bl b + 63) / 64) - bl b, by omega, by omega, by omega, by omega, Nat.mul_pos (by omega) (Nat.two_pow_pos _), ?_, ?_⟩
  · have e : 64 * ((bl b + 63) / 64 - 1 + 1) = bl b + (64 * ((bl b + 63) / 64) - bl b) := by omega
    rw [e, Nat.pow_add]
    exact Nat.mul_lt_mul_of_pos_right h1 (Nat.two_pow_pos _)
  · have e : 64 * ((bl b + 63) / 64 - 1 + 1) - 1 = (bl b - 1) + (64 * ((bl b + 63) / 64) - bl b) := by omega
    rw [e, Nat.pow_add]
    exact Nat.mul_le_mul_right _ h2
/-- The words of v from place k on, noughts below. -/
def topPart (v k j : Nat) : Int := if k ≤ j then wd v j else 0
theorem topPart_step {v k : Nat} {x : Int} (h : x = wd v k) (j : Nat) : upd (topPart v (k + 1)) k x j = topPart v k j := by
  unfold upd topPart
  by_cases h1 : j = k
  · subst h1; simp [h]
  · rw [if_neg h1]
    by_cases h2 : k ≤ j
    · rw [if_pos h2, if_pos (by omega)]
    · rw [if_neg h2, if_neg (by omega)]
theorem step_quo (A d i : Nat) : A % (d * 2 ^ (64 * (i + 1))) / 2 ^ (64 * i) / d = wn (A / d) i := by
  rw [pow_step, ← Nat.mul_assoc, Nat.div_div_eq_div_mul, Nat.mul_comm (2 ^ (64 * i)) d, Nat.mod_mul_right_div_self]
  unfold wn
  rw [Nat.div_div_eq_div_mul]
theorem step_rest (A d i : Nat) : glue (A % (d * 2 ^ (64 * (i + 1)))) i (A % (d * 2 ^ (64 * (i + 1))) / 2 ^ (64 * i) % d) = A % (d * 2 ^ (64 * i)) := by
  unfold glue
  rw [← Nat.mod_mul, Nat.mul_comm (2 ^ (64 * i)) d, pow_step, ← Nat.mul_assoc, Nat.mod_mul_right_mod]
theorem step_lt (A d i : Nat) (hd : 0 < d) : A % (d * 2 ^ (64 * (i + 1))) / 2 ^ (64 * i) < d * 18446744073709551616 := by
  have hp := pow_pos' i
  rw [Nat.div_lt_iff_lt_mul hp, Nat.mul_assoc, Nat.mul_comm 18446744073709551616, ← pow_step]
  exact Nat.mod_lt _ (Nat.mul_pos hd (pow_pos' _))
theorem start_rest (a d s sh : Nat) (ha : a < big) (hs : s ≤ 5) (hsh : sh < 64) (hd : 2 ^ (64 * (s + 1) - 1) ≤ d) : a * 2 ^ sh < d * 2 ^ (64 * (6 - s)) := by
  have h1 : a * 2 ^ sh < big * 2 ^ sh := Nat.mul_lt_mul_of_pos_right ha (Nat.two_pow_pos sh)
  obtain ⟨n, hn, e⟩ := big_pow
  rw [e, ← Nat.pow_add] at h1
  have h2 : 2 ^ (64 * (s + 1) - 1) * 2 ^ (64 * (6 - s)) ≤ d * 2 ^ (64 * (6 - s)) := Nat.mul_le_mul_right _ hd
  rw [← Nat.pow_add] at h2
  exact Nat.lt_of_lt_of_le h1 (Nat.le_trans (pow_le' _ _ (by omega)) h2)
theorem quo_high (Q A d k j : Nat) (hQ : Q = A / d) (hd : 0 < d) (h : A < d * 2 ^ (64 * k)) (hj : k ≤ j) : wd Q j = 0 :=
  wd_top' Q k j (by rw [hQ, Nat.div_lt_iff_lt_mul hd, Nat.mul_comm]; exact h) hj
theorem shv_back (x sh : Nat) (hx : x < big) (hsh : sh < 64) : shv x (-(sh : Int)) = x / 2 ^ sh := by
  unfold shv
  rw [if_neg (by omega)]
  by_cases h : sh = 0
  · subst h
    rw [if_neg (by omega), Int.natCast_zero, Int.neg_zero, Int.toNat_zero, Nat.pow_zero, Nat.mul_one, Nat.div_one, Nat.mod_eq_of_lt hx]
  · rw [if_pos (by omega), Int.neg_neg, Int.toNat_natCast]
theorem mod_back (a b sh : Nat) : a * 2 ^ sh % (b * 2 ^ sh) / 2 ^ sh = a % b := by
  rw [Nat.mul_mod_mul_right, Nat.mul_div_cancel _ (Nat.two_pow_pos sh)]
end Go.Proofs.YtoagmdgmbkpghabDoor
