/- words.digit, words.Parse -/
import Derived.Test.YtoagmdgmbkpghabDoorPA3
namespace Go.Proofs.YtoagmdgmbkpghabDoor
open Go.RowKit

/-- What a sign counts as a digit to the base 16. -/
def dgv (c : Int) : Int := if 48 ≤ c ∧ c ≤ 57 then c - 48 else if 97 ≤ c ∧ c ≤ 102 then c - 87 else 0
def dgk (c : Int) : Bool := decide (48 ≤ c ∧ c ≤ 57) || decide (97 ≤ c ∧ c ≤ 102)
theorem dgv_bd (c : Int) : 0 ≤ dgv c ∧ dgv c < 16 := by unfold dgv; split <;> (try split) <;> omega
/-- The sign at place i from the right. -/
def ch (s : ByteArray) (i : Nat) : Int := if h : s.size - 1 - i < s.size then ((s[s.size - 1 - i]).toNat : Int) else 0
theorem ch_eq (s : ByteArray) (i : Nat) (h : s.size - 1 - i < s.size) : ch s i = ((s[s.size - 1 - i]).toNat : Int) := dif_pos h
/-- The number of the lowest k digits; whether they are digits. -/
def pvv (s : ByteArray) : Nat → Nat
  | 0 => 0
  | k + 1 => pvv s k + (dgv (ch s k)).toNat * 2 ^ (4 * k)
def okk (s : ByteArray) : Nat → Bool
  | 0 => true
  | k + 1 => okk s k && dgk (ch s k)
theorem pvv_lt (s : ByteArray) : ∀ k, pvv s k < 2 ^ (4 * k)
  | 0 => by simp [pvv]
  | k + 1 => by
    have h1 := pvv_lt s k
    have h2 := dgv_bd (ch s k)
    have h3 : (dgv (ch s k)).toNat * 2 ^ (4 * k) ≤ 15 * 2 ^ (4 * k) := Nat.mul_le_mul_right _ (by omega)
    have e : 2 ^ (4 * (k + 1)) = 16 * 2 ^ (4 * k) := by rw [Nat.mul_add, Nat.pow_add, Nat.mul_comm]
    unfold pvv
    rw [e]
    omega
theorem okk_mono (s : ByteArray) (m : Nat) : ∀ k, okk s (k + m) = true → okk s k = true := by
  induction m with
  | zero => intro k h; exact h
  | succ m ih =>
    intro k h
    have h2 : (okk s (k + m) && dgk (ch s (k + m))) = true := h
    exact ih k (by simp only [Bool.and_eq_true] at h2; exact h2.1)

theorem set_digit (V d k j : Nat) (hV : V < 2 ^ (4 * k)) (hd : d < 16) (hj : j ≠ k / 16) : wd (V + d * 2 ^ (4 * k)) j = wd V j := by
  rw [wd_shr, wd_shr, ← Nat.shiftLeft_eq, Nat.add_comm, Nat.shiftLeft_add_eq_or_of_lt hV]
  congr 1
  apply Nat.eq_of_testBit_eq
  intro i
  simp only [Nat.testBit_or, Nat.testBit_mod_two_pow, Nat.testBit_shiftLeft, Nat.testBit_shiftRight]
  by_cases hi : i < 64
  · by_cases hk : 4 * k ≤ 64 * j + i
    · have : d.testBit (64 * j + i - 4 * k) = false := Nat.testBit_lt_two_pow (Nat.lt_of_lt_of_le (show d < 2 ^ 4 from hd) (Nat.pow_le_pow_right (by decide) (by omega)))
      simp [this]
    · simp [hk]
  · simp [hi]
theorem or_digit_bits (V d k : Nat) : (V >>> (64 * (k / 16)) % 2 ^ 64) ||| (d <<< (4 * (k % 16)) % 2 ^ 64) = (d <<< (4 * k) ||| V) >>> (64 * (k / 16)) % 2 ^ 64 := by
  apply Nat.eq_of_testBit_eq
  intro i
  simp only [Nat.testBit_or, Nat.testBit_mod_two_pow, Nat.testBit_shiftLeft, Nat.testBit_shiftRight]
  by_cases hi : i < 64
  · by_cases hk : 4 * (k % 16) ≤ i
    · have e1 : 4 * k ≤ 64 * (k / 16) + i := by omega
      have e2 : 64 * (k / 16) + i - 4 * k = i - 4 * (k % 16) := by omega
      simp [hi, hk, e1, e2, Bool.or_comm]
    · have e1 : ¬ 4 * k ≤ 64 * (k / 16) + i := by omega
      simp [hi, hk, e1]
  · simp [hi]
theorem or_digit (V d k : Nat) (hV : V < 2 ^ (4 * k)) : bits .or .u64 (wd V (k / 16)) (IntKind.u64.wrap ((d : Int) * 2 ^ (4 * (k % 16)))) = wd (V + d * 2 ^ (4 * k)) (k / 16) := by
  rw [wrap_shl, wd_shr, wd_shr, ← Nat.shiftLeft_eq, Nat.add_comm, Nat.shiftLeft_add_eq_or_of_lt hV, ← or_digit_bits]
  exact bits_or_u64_nat _ _ (Nat.mod_lt _ (by decide)) (Nat.mod_lt _ (by decide))
theorem digit_step (s : ByteArray) (k j : Nat) : upd (wd (pvv s k)) (k / 16) (bits .or .u64 (wd (pvv s k) (k / 16)) (IntKind.u64.wrap (dgv (ch s k) * 2 ^ (4 * (k % 16))))) j = wd (pvv s (k + 1)) j := by
  have hd := dgv_bd (ch s k)
  have e : dgv (ch s k) = ((dgv (ch s k)).toNat : Int) := by omega
  have hV := pvv_lt s k
  unfold upd
  by_cases h : j = k / 16
  · rw [if_pos h, h, e, or_digit _ _ k hV]
    rfl
  · rw [if_neg h]
    exact (set_digit _ _ k j hV (by omega) h).symm
end Go.Proofs.YtoagmdgmbkpghabDoor
