/- The plain arithmetic of Montgomery's products: words, rounds, what is left. -/
import Derived.Test.YtoagmdgmbkpghabDoorA4
namespace Go.Proofs.YtoagmdgmbkpghabDoor
open Go.RowKit

/-- What is carried out of the lowest j words of S + x b. -/
def cc (S x b j : Nat) : Nat := (S % 2 ^ (64 * j) + x * (b % 2 ^ (64 * j))) / 2 ^ (64 * j)
theorem cc_zero (S x b : Nat) : cc S x b 0 = 0 := by simp [cc, Nat.mod_one]
theorem cc_core (S x b Q : Nat) (hQ : 0 < Q) :
    (S % (Q * 18446744073709551616) + x * (b % (Q * 18446744073709551616))) / (Q * 18446744073709551616) = (x * (b / Q % 18446744073709551616) + S / Q % 18446744073709551616 + (S % Q + x * (b % Q)) / Q) / 18446744073709551616 ∧
    (S + x * b) / Q % 18446744073709551616 = (x * (b / Q % 18446744073709551616) + S / Q % 18446744073709551616 + (S % Q + x * (b % Q)) / Q) % 18446744073709551616 := by
  constructor
  · rw [Nat.mod_mul, Nat.mod_mul, ← Nat.div_div_eq_div_mul]
    have e : S % Q + Q * (S / Q % 18446744073709551616) + x * (b % Q + Q * (b / Q % 18446744073709551616)) = (S % Q + x * (b % Q)) + Q * (x * (b / Q % 18446744073709551616) + S / Q % 18446744073709551616) := by
      rw [Nat.mul_add, Nat.mul_add, Nat.mul_left_comm x Q]; omega
    rw [e, Nat.add_mul_div_left _ _ hQ]
    congr 1
    omega
  · have e : S + x * b = (S % Q + x * (b % Q)) + Q * (S / Q + x * (b / Q)) := by
      have h1 := Nat.div_add_mod S Q
      have h2 : x * b = x * (Q * (b / Q)) + x * (b % Q) := by rw [← Nat.mul_add, Nat.div_add_mod]
      rw [Nat.mul_add, Nat.mul_left_comm Q x]; omega
    rw [e, Nat.add_mul_div_left _ _ hQ]
    generalize (S % Q + x * (b % Q)) / Q = c
    have h3 : x * (b / Q) = 18446744073709551616 * (x * (b / Q / 18446744073709551616)) + x * (b / Q % 18446744073709551616) := by
      rw [Nat.mul_left_comm, ← Nat.mul_add, Nat.div_add_mod]
    generalize x * (b / Q) = p at h3 ⊢
    generalize x * (b / Q / 18446744073709551616) = q at h3
    generalize x * (b / Q % 18446744073709551616) = r at h3 ⊢
    omega
theorem cc_lt (S x b j : Nat) (hx : x < 18446744073709551616) : cc S x b j < 18446744073709551616 := by
  unfold cc
  have hq := pow_pos' j
  have h1 := Nat.mod_lt S hq
  have h3 := Nat.mod_lt b hq
  rw [Nat.div_lt_iff_lt_mul hq]
  have h4 : x * (b % 2 ^ (64 * j)) ≤ 18446744073709551615 * 2 ^ (64 * j) := Nat.mul_le_mul (by omega) (by omega)
  generalize 2 ^ (64 * j) = Q at *
  omega
theorem cc_hi (S x b j : Nat) : mulHi (x : Int) (wd b j) (wd S j) (cc S x b j : Nat) = (cc S x b (j + 1) : Nat) := by
  unfold mulHi
  have e := (cc_core S x b _ (pow_pos' j)).1
  unfold cc
  rw [pow_step, e, wd_wn, wd_wn]
  unfold wn
  rw [← Int.natCast_mul, ← Int.natCast_add, ← Int.natCast_add]
  rfl
theorem cc_lo (S x b j : Nat) : mulLo (x : Int) (wd b j) (wd S j) (cc S x b j : Nat) = wd (S + x * b) j := by
  unfold mulLo cc
  have e := (cc_core S x b _ (pow_pos' j)).2
  rw [wd_wn (S + x * b)]
  unfold wn
  rw [e, wd_wn, wd_wn]
  unfold wn
  rw [← Int.natCast_mul, ← Int.natCast_add, ← Int.natCast_add]
  rfl

/-! Congruences. -/
/-- a and b leave the same by n. -/
def Cg (n a b : Nat) : Prop := a % n = b % n
theorem Cg.refl (n a : Nat) : Cg n a a := rfl
theorem Cg.symm {n a b : Nat} (h : Cg n a b) : Cg n b a := Eq.symm h
theorem Cg.trans {n a b c : Nat} (h : Cg n a b) (h' : Cg n b c) : Cg n a c := Eq.trans h h'
theorem Cg.mul {n a b c d : Nat} (h : Cg n a b) (h' : Cg n c d) : Cg n (a * c) (b * d) := by
  unfold Cg at *; rw [Nat.mul_mod, h, h', ← Nat.mul_mod]
theorem Cg.add {n a b c d : Nat} (h : Cg n a b) (h' : Cg n c d) : Cg n (a + c) (b + d) := by
  unfold Cg at *; rw [Nat.add_mod, h, h', ← Nat.add_mod]
theorem Cg.mod (n a : Nat) : Cg n (a % n) a := Nat.mod_mod a n
theorem Cg.mulL {n a b : Nat} (c : Nat) (h : Cg n a b) : Cg n (c * a) (c * b) := (Cg.refl n c).mul h
theorem Cg.mulR {n a b : Nat} (c : Nat) (h : Cg n a b) : Cg n (a * c) (b * c) := h.mul (Cg.refl n c)
theorem Cg.addL {n a b : Nat} (c : Nat) (h : Cg n a b) : Cg n (c + a) (c + b) := (Cg.refl n c).add h
theorem Cg.addR {n a b : Nat} (c : Nat) (h : Cg n a b) : Cg n (a + c) (b + c) := h.add (Cg.refl n c)
theorem Cg.zero (n k : Nat) : Cg n (k * n) 0 := by unfold Cg; rw [Nat.mul_mod_left, Nat.zero_mod]
theorem Cg.pow {n a b : Nat} (h : Cg n a b) (k : Nat) : Cg n (a ^ k) (b ^ k) := by
  induction k with
  | zero => exact Cg.refl _ _
  | succ k ih => rw [Nat.pow_succ, Nat.pow_succ]; exact ih.mul h
theorem Cg.eq_of_lt {n a b : Nat} (h : Cg n a b) (ha : a < n) (hb : b < n) : a = b := by
  unfold Cg at h; rwa [Nat.mod_eq_of_lt ha, Nat.mod_eq_of_lt hb] at h
theorem Cg.eq_mod {n a b : Nat} (h : Cg n a b) (ha : a < n) : a = b % n := by
  unfold Cg at h; rwa [Nat.mod_eq_of_lt ha] at h

/-! A half, by an odd number; what undoes 2^384. -/
def hf (n : Nat) : Nat := (n + 1) / 2
theorem hf_two (n : Nat) (ho : n % 2 = 1) : Cg n (2 * hf n) 1 := by
  have e : 2 * hf n = 1 + n := by unfold hf; omega
  unfold Cg; rw [e, Nat.add_mod_right]
theorem hf_pow (n k : Nat) (ho : n % 2 = 1) : Cg n (2 ^ k * hf n ^ k) 1 := by
  rw [← Nat.mul_pow]
  have := (hf_two n ho).pow k
  rwa [Nat.one_pow] at this
def ri (n : Nat) : Nat := hf n ^ (64 * 6)
theorem ri_big (n : Nat) (ho : n % 2 = 1) : Cg n (big * ri n) 1 := by
  unfold ri; rw [big_eq]
  obtain ⟨k, hk⟩ : ∃ k, k = 64 * 6 := ⟨_, rfl⟩
  rw [← hk]
  exact hf_pow n k ho
/-- What Montgomery's product tells. -/
def mont (n a b : Nat) : Nat := a * b * ri n % n
theorem mont_lt (n a b : Nat) (hn : 0 < n) : mont n a b < n := Nat.mod_lt _ hn
theorem mont_cg (n a b : Nat) : Cg n (mont n a b) (a * b * ri n) := Cg.mod _ _
theorem mont_of (n a b y : Nat) (ho : n % 2 = 1) (h : Cg n (y * big) (a * b)) : Cg n y (mont n a b) := by
  have h1 : Cg n (y * big * ri n) (a * b * ri n) := h.mulR _
  have h2 : Cg n (y * (big * ri n)) (y * 1) := (ri_big n ho).mulL y
  rw [← Nat.mul_assoc, Nat.mul_one] at h2
  exact (h2.symm.trans h1).trans (mont_cg n a b).symm

/-! The rounds. -/
def mt (X wr : Nat) : Nat := X % 18446744073709551616 * wr % 18446744073709551616
theorem mt_lt (X wr : Nat) : mt X wr < 18446744073709551616 := Nat.mod_lt _ (by decide)
def mstep (n wr b S x : Nat) : Nat := (S + x * b + mt (S + x * b) wr * n) / 18446744073709551616
def mrun (n wr a b : Nat) : Nat → Nat
  | 0 => 0
  | i + 1 => mstep n wr b (mrun n wr a b i) (wn a i)
theorem mt_even (n wr X : Nat) (h : wr * n % 18446744073709551616 = 18446744073709551615) : (X + mt X wr * n) % 18446744073709551616 = 0 := by
  have h1 : Cg 18446744073709551616 (mt X wr * n) (X * (wr * n)) := by
    rw [← Nat.mul_assoc]
    exact (((Cg.mod _ _).trans ((Cg.mod _ _).mulR wr))).mulR n
  have h2 : Cg 18446744073709551616 (X * (wr * n)) (X * 18446744073709551615) := Cg.mulL X (by unfold Cg; rw [h])
  have h3 := (h1.trans h2).addL X
  unfold Cg at h3
  rw [h3]
  omega
theorem mstep_mul (n wr b S x : Nat) (h : wr * n % 18446744073709551616 = 18446744073709551615) : mstep n wr b S x * 18446744073709551616 = S + x * b + mt (S + x * b) wr * n := by
  have := mt_even n wr (S + x * b) h
  unfold mstep
  omega
theorem mstep_lt (n wr b S x : Nat) (hS : S < b + n) (hx : x < 18446744073709551616) : mstep n wr b S x < b + n := by
  unfold mstep
  have ht := mt_lt (S + x * b) wr
  rw [Nat.div_lt_iff_lt_mul (by decide)]
  have h1 : x * b ≤ 18446744073709551615 * b := Nat.mul_le_mul_right _ (by omega)
  have h2 : mt (S + x * b) wr * n ≤ 18446744073709551615 * n := Nat.mul_le_mul_right _ (by omega)
  omega
theorem mrun_lt (n wr a b : Nat) (hn : 0 < n) : ∀ i, mrun n wr a b i < b + n
  | 0 => by unfold mrun; omega
  | i + 1 => mstep_lt n wr b _ _ (mrun_lt n wr a b hn i) (wn_lt a i)
theorem mrun_cg (n wr a b : Nat) (h : wr * n % 18446744073709551616 = 18446744073709551615) : ∀ i, Cg n (mrun n wr a b i * 2 ^ (64 * i)) (a % 2 ^ (64 * i) * b)
  | 0 => by
    unfold mrun
    rw [Nat.mul_zero, Nat.pow_zero, Nat.mod_one, Nat.zero_mul, Nat.zero_mul]
    exact Cg.refl _ _
  | i + 1 => by
    have ih := mrun_cg n wr a b h i
    have e : mrun n wr a b (i + 1) * 2 ^ (64 * (i + 1)) = mrun n wr a b i * 2 ^ (64 * i) + wn a i * b * 2 ^ (64 * i) + mt (mrun n wr a b i + wn a i * b) wr * 2 ^ (64 * i) * n := by
      have hm := mstep_mul n wr b (mrun n wr a b i) (wn a i) h
      rw [pow_step, Nat.mul_comm (2 ^ (64 * i)), ← Nat.mul_assoc]
      show mstep n wr b (mrun n wr a b i) (wn a i) * 18446744073709551616 * 2 ^ (64 * i) = _
      rw [hm, Nat.add_mul, Nat.add_mul]
      congr 1
      rw [Nat.mul_assoc, Nat.mul_comm n, ← Nat.mul_assoc]
    rw [e, mod_step, Nat.add_mul]
    have h2 := (ih.addR (wn a i * b * 2 ^ (64 * i))).add (Cg.zero n (mt (mrun n wr a b i + wn a i * b) wr * 2 ^ (64 * i)))
    rw [Nat.add_zero] at h2
    refine h2.trans ?_
    have e3 : wn a i * b * 2 ^ (64 * i) = 2 ^ (64 * i) * wn a i * b := by rw [Nat.mul_comm, ← Nat.mul_assoc]
    rw [e3]
    exact Cg.refl _ _
theorem mrun_end (n wr a b : Nat) (ho : n % 2 = 1) (h : wr * n % 18446744073709551616 = 18446744073709551615) (ha : a < big) : Cg n (mrun n wr a b 6) (mont n a b) := by
  have := mrun_cg n wr a b h 6
  rw [← big_eq, Nat.mod_eq_of_lt ha] at this
  exact mont_of n a b _ ho this
theorem low_cut (n x y : Nat) (h : Cg n x y) (hx : x < n + n) (hy : y < n) : (if x < n then x else x - n) = y := by
  split
  · exact h.eq_of_lt ‹_› hy
  · refine Cg.eq_of_lt (n := n) ?_ (by omega) hy
    refine Cg.trans ?_ h
    unfold Cg
    rw [Nat.mod_eq_sub_mod (a := x) (by omega)]

/-! One round's words. -/
theorem step_word (n wr b S x k : Nat) : wd (mstep n wr b S x) k = wd (S + x * b + mt (S + x * b) wr * n) (k + 1) := by
  unfold mstep wd
  rw [pow_step, Nat.mul_comm (2 ^ (64 * k)), Nat.div_div_eq_div_mul]
theorem big_pos0 : 0 < big := by rw [big_eq]; exact pow_pos' 6
theorem step_top (n wr b S x : Nat) (hS : S < big) (hb : b < big) (hn : n < big) (hr : mstep n wr b S x < big) : (cc S x b 6 + cc (S + x * b) (mt (S + x * b) wr) n 6 : Nat) = wn (mstep n wr b S x) 5 := by
  have e1 : cc S x b 6 = (S + x * b) / big := by unfold cc; rw [← big_eq, Nat.mod_eq_of_lt hS, Nat.mod_eq_of_lt hb]
  have e2 : cc (S + x * b) (mt (S + x * b) wr) n 6 = ((S + x * b) % big + mt (S + x * b) wr * n) / big := by unfold cc; rw [← big_eq, Nat.mod_eq_of_lt hn]
  rw [e1, e2]
  have e3 : mstep n wr b S x = (S + x * b + mt (S + x * b) wr * n) / 18446744073709551616 := rfl
  rw [e3] at hr ⊢
  unfold wn
  obtain ⟨m, hm⟩ : ∃ m, m = 5 := ⟨_, rfl⟩
  have hb' : big = 2 ^ (64 * m) * 18446744073709551616 := by
    rw [big_eq, ← pow_step m]
    have : 6 = m + 1 := by omega
    rw [this]
  rw [← hm]
  generalize mt (S + x * b) wr * n = T at hr ⊢
  generalize S + x * b = X at hr ⊢
  have h1 : (X + T) / 18446744073709551616 / 2 ^ (64 * m) = (X + T) / big := by rw [Nat.div_div_eq_div_mul, hb', Nat.mul_comm]
  have h2 : (X + T) / 18446744073709551616 / 2 ^ (64 * m) < 18446744073709551616 := Nat.div_lt_of_lt_mul (by rw [← hb']; exact hr)
  have h3 : (X + T) / big = X / big + (X % big + T) / big := by
    have h4 := Nat.div_add_mod X big
    have h5 : X + T = (X % big + T) + big * (X / big) := by omega
    rw [h5, Nat.add_mul_div_left _ _ big_pos0]; omega
  rw [Nat.mod_eq_of_lt h2, h1, h3]
end Go.Proofs.YtoagmdgmbkpghabDoor
