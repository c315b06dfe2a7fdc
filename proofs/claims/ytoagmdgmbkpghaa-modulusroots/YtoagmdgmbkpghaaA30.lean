/- Plain arithmetic of bytes. -/
import Derived.Test.YtoagmdgmbkpghaaPA1
import Derived.Laws.Bits64b
namespace Go.Proofs.Ytoagmdgmbkpghaa
open Go.RowKit

/-- Byte k of a number, the lowest first. -/
def bt (a k : Nat) : Nat := a / 2 ^ (8 * k) % 256
theorem bt_lt (a k : Nat) : bt a k < 256 := Nat.mod_lt _ (by decide)
theorem bt_bits (a k : Nat) : ((a >>> (64 * (k / 8)) % 2 ^ 64) >>> (8 * (k % 8))) % 2 ^ 8 = a >>> (8 * k) % 2 ^ 8 := by
  apply Nat.eq_of_testBit_eq
  intro i
  simp only [Nat.testBit_mod_two_pow, Nat.testBit_shiftRight]
  by_cases hi : i < 8
  · have e1 : 8 * (k % 8) + i < 64 := by omega
    have e2 : 64 * (k / 8) + (8 * (k % 8) + i) = 8 * k + i := by omega
    simp [hi, e1, e2]
  · simp [hi]
theorem bt_word (a k : Nat) : IntKind.u8.wrap (wd a (k / 8) / 2 ^ (8 * (k % 8))) = (bt a k : Int) := by
  rw [wd_shr, div_shr, IntKind.wrap_u8]
  unfold bt
  have e := bt_bits a k
  rw [Nat.shiftRight_eq_div_pow (m := a) (n := 8 * k)] at e
  have e2 : (2 : Nat) ^ 8 = 256 := by decide
  rw [e2] at e
  rw [← e]
  omega

/-- Bits laid above a number, within one word. -/
theorem part_other (V d p s j : Nat) (hV : V < 2 ^ p) (hd : d < 2 ^ s) (hp : p % 64 + s ≤ 64) (hj : j ≠ p / 64) : wd (V + d * 2 ^ p) j = wd V j := by
  rw [wd_shr, wd_shr, ← Nat.shiftLeft_eq, Nat.add_comm, Nat.shiftLeft_add_eq_or_of_lt hV]
  congr 1
  apply Nat.eq_of_testBit_eq
  intro i
  simp only [Nat.testBit_or, Nat.testBit_mod_two_pow, Nat.testBit_shiftLeft, Nat.testBit_shiftRight]
  by_cases hi : i < 64
  · by_cases hk : p ≤ 64 * j + i
    · have : d.testBit (64 * j + i - p) = false := Nat.testBit_lt_two_pow (Nat.lt_of_lt_of_le hd (Nat.pow_le_pow_right (by decide) (by omega)))
      simp [this]
    · simp [hk]
  · simp [hi]
theorem part_bits (V d p : Nat) : (V >>> (64 * (p / 64)) % 2 ^ 64) ||| (d <<< (p % 64) % 2 ^ 64) = (d <<< p ||| V) >>> (64 * (p / 64)) % 2 ^ 64 := by
  apply Nat.eq_of_testBit_eq
  intro i
  simp only [Nat.testBit_or, Nat.testBit_mod_two_pow, Nat.testBit_shiftLeft, Nat.testBit_shiftRight]
  by_cases hi : i < 64
  · by_cases hk : p % 64 ≤ i
    · have e1 : p ≤ 64 * (p / 64) + i := by omega
      have e2 : 64 * (p / 64) + i - p = i - p % 64 := by omega
      simp [hi, hk, e1, e2, Bool.or_comm]
    · have e1 : ¬ p ≤ 64 * (p / 64) + i := by omega
      simp [hi, hk, e1]
  · simp [hi]
theorem part_word (V d p : Nat) (hV : V < 2 ^ p) : bits .or .u64 (wd V (p / 64)) (IntKind.u64.wrap ((d : Int) * 2 ^ (p % 64))) = wd (V + d * 2 ^ p) (p / 64) := by
  rw [wrap_shl, wd_shr, wd_shr, ← Nat.shiftLeft_eq, Nat.add_comm, Nat.shiftLeft_add_eq_or_of_lt hV, ← part_bits]
  exact bits_or_u64_nat _ _ (Nat.mod_lt _ (by decide)) (Nat.mod_lt _ (by decide))

/-- The number of the lowest k of n bytes, the highest byte first. -/
def rdv (f : Nat → Int) (n : Nat) : Nat → Nat
  | 0 => 0
  | k + 1 => rdv f n k + (f (n - 1 - k)).toNat * 2 ^ (8 * k)
theorem rdv_lt (f : Nat → Int) (n : Nat) (hf : ∀ j, j < n → 0 ≤ f j ∧ f j < 256) : ∀ k, k ≤ n → rdv f n k < 2 ^ (8 * k)
  | 0, _ => by simp [rdv]
  | k + 1, hk => by
    have h1 := rdv_lt f n hf k (by omega)
    have h2 := hf (n - 1 - k) (by omega)
    have h3 : (f (n - 1 - k)).toNat * 2 ^ (8 * k) ≤ 255 * 2 ^ (8 * k) := Nat.mul_le_mul_right _ (by omega)
    have e : 2 ^ (8 * (k + 1)) = 256 * 2 ^ (8 * k) := by rw [Nat.mul_add, Nat.pow_add, Nat.mul_comm]
    unfold rdv
    rw [e]
    omega
theorem rdv_step (f : Nat → Int) (n k j : Nat) (hf : ∀ j, j < n → 0 ≤ f j ∧ f j < 256) (hk : k < n) :
    upd (wd (rdv f n k)) (k / 8) (bits .or .u64 (wd (rdv f n k) (k / 8)) (IntKind.u64.wrap (f (n - 1 - k) * 2 ^ (8 * (k % 8))))) j = wd (rdv f n (k + 1)) j := by
  have hd := hf (n - 1 - k) (by omega)
  have e : f (n - 1 - k) = ((f (n - 1 - k)).toNat : Int) := by omega
  have hV := rdv_lt f n hf k (by omega)
  have e1 : 8 * k / 64 = k / 8 := by omega
  have e2 : 8 * k % 64 = 8 * (k % 8) := by omega
  unfold upd
  by_cases h : j = k / 8
  · have h5 := part_word (rdv f n k) (f (n - 1 - k)).toNat (8 * k) hV
    rw [e1, e2, ← e] at h5
    rw [if_pos h, h, h5]
    rfl
  · rw [if_neg h]
    exact (part_other _ _ (8 * k) 8 j hV (by omega) (by omega) (by omega)).symm
theorem rdv_bt (a : Nat) : ∀ k, k ≤ 48 → rdv (fun p => (bt a (47 - p) : Int)) 48 k = a % 2 ^ (8 * k)
  | 0, _ => by simp [rdv, Nat.mod_one]
  | k + 1, hk => by
    have h1 := rdv_bt a k (by omega)
    unfold rdv
    rw [h1, show 47 - (48 - 1 - k) = k by omega]
    have e : 2 ^ (8 * (k + 1)) = 2 ^ (8 * k) * 256 := by rw [Nat.mul_add, Nat.pow_add]
    rw [e, Nat.mod_mul]
    unfold bt
    rw [Int.toNat_natCast, Nat.mul_comm (2 ^ (8 * k))]
end Go.Proofs.Ytoagmdgmbkpghaa
