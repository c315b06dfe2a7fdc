/- The document's own Compare and Len. -/
import Derived.Test.YtoagmdgmbkpghaaD0
import Derived.Test.YtoagmdgmbkpghaaPA2
import Derived.Test.YtoagmdgmbkpghaaPA3
import Derived.BigRegion
namespace Go.Proofs.Ytoagmdgmbkpghaa
open Go.RowKit

theorem high_step (a k : Nat) : ((a / 2 ^ (64 * k) : Nat) : Int) = wd a k + 18446744073709551616 * ((a / 2 ^ (64 * (k + 1)) : Nat) : Int) := by
  unfold wd
  rw [pow_step, ← Nat.div_div_eq_div_mul]
  omega
theorem high_none (a : Nat) (ha : a < big) : a / 2 ^ (64 * 6) = 0 := by
  rw [← big_eq]; exact Nat.div_eq_of_lt ha
theorem lt_of_high {a b k : Nat} (h : a / 2 ^ (64 * k) < b / 2 ^ (64 * k)) : a < b := by
  rcases Nat.lt_or_ge a b with h' | h'
  · exact h'
  · have := Nat.div_le_div_right (c := 2 ^ (64 * k)) h'
    omega
set_option maxHeartbeats 1000000 in
set_option maxRecDepth 100000 in
theorem compare_ref (a b : Nat) (ha : a < big) (hb : b < big) (w : World) :
    Calls Try.prog 10 #[N a, N b] w fun e w' => e = .returned (.int .i64 (cmpv a b)) ∧ Below w.heap.size w w' := by
  have HA : Hid (a < big ∧ b < big) := ⟨ha, hb⟩
  clear ha hb
  go_enter Try.func10, Try.ntmps10
  go_wp2
  go_loopw [5] (fun i wr => ∃ k : Nat, k ≤ 6 ∧ i = .int .i64 ((k : Int) - 1) ∧ a / 2 ^ (64 * k) = b / 2 ^ (64 * k) ∧ Row wr w.heap.size 6 (wd a) ∧ Row wr (w.heap.size + 1) 6 (wd b) ∧ Below w.heap.size w wr) (fun i _ => (RowKit.intOf i + 1).toNat)
  case atStart =>
    refine ⟨6, by omega, rfl, ?_, (Row.new w _ 24 rfl (six_lt rfl)).alloc (by simp) _, Row.new _ _ 24 (by simp) (six_lt rfl), ((Below.refl _ _).alloc (Nat.le_refl _) _).alloc (by simp) _⟩
    rw [high_none a HA.out.1, high_none b HA.out.2]
  case round =>
    obtain ⟨k, hk, rfl, hz, hA, hB, hw⟩ := hrel
    have HZ : Hid _ := hz
    clear hz
    by_cases h0 : 1 ≤ k
    · obtain ⟨i, rfl⟩ : ∃ i, k = i + 1 := ⟨k - 1, by omega⟩
      rw [show (((i + 1 : Nat) : Int) - 1) = (i : Int) by omega]
      have hA1 := (hA i (by omega)).1
      have hB1 := (hB i (by omega)).1
      have HR : Hid (_ ∧ _ ∧ _) := ⟨hA, hB, hw⟩
      clear hA hB hw
      by_cases hx : wd a i < wd b i
      · have d1 : decide (wd a i < wd b i) = true := decide_eq_true hx
        have hfin : Hid (cmpv a b = -1) := by
          have h1 := high_step a i
          have h2 := high_step b i
          rw [HZ.out] at h1
          have h3 : a < b := lt_of_high (k := i) (by omega)
          show cmpv a b = -1
          unfold cmpv
          rw [if_neg (by omega), if_pos h3]
        clear hx
        go_wp2
        go_region
        go_wp2
        go_ret
        refine ⟨?_, HR.out.2.2.drew⟩
        rw [hfin.out]
        rfl
      · have d1 : decide (wd a i < wd b i) = false := decide_eq_false hx
        by_cases hy : wd b i < wd a i
        · have d2 : decide (wd b i < wd a i) = true := decide_eq_true hy
          have hfin : Hid (cmpv a b = 1) := by
            have h1 := high_step a i
            have h2 := high_step b i
            rw [HZ.out] at h1
            have h3 : b < a := lt_of_high (k := i) (by omega)
            show cmpv a b = 1
            unfold cmpv
            rw [if_neg (by omega), if_neg (by omega)]
          clear hx hy
          go_wp2
          go_region
          go_wp2
          go_region
          go_wp2
          go_ret
          refine ⟨?_, HR.out.2.2.drew.drew⟩
          rw [hfin.out]
          rfl
        · have d2 : decide (wd b i < wd a i) = false := decide_eq_false hy
          have HE : Hid (wd a i = wd b i) := (by omega : wd a i = wd b i)
          clear hx hy
          go_wp2
          go_region
          go_wp2
          go_region
          go_wp2
          go_roundw
          case rel =>
            obtain ⟨hA, hB, hw⟩ := HR.out
            refine ⟨i, by omega, by go_num, ?_, hA.drew.drew, hB.drew.drew, hw.drew.drew⟩
            have h1 := high_step a i
            have h2 := high_step b i
            rw [HZ.out] at h1
            have h3 := HE.out
            omega
          case measure => simp [RowKit.intOf] <;> omega
    · have hk0 : k = 0 := by omega
      subst hk0
      rw [show (((0 : Nat) : Int) - 1) = -1 from rfl]
      have hfin : Hid (cmpv a b = 0) := by
        have h1 := HZ.out
        simp only [Nat.mul_zero, Nat.pow_zero, Nat.div_one] at h1
        show cmpv a b = 0
        unfold cmpv
        rw [if_pos h1]
      clear hA hB HZ
      go_wp2
      go_ret
      refine ⟨?_, hw⟩
      rw [hfin.out]
      rfl
theorem top_bit (a i : Nat) (h : a < 2 ^ (i + 1)) : (bitv a i = 1 ∧ bl a = i + 1) ∨ (bitv a i = 0 ∧ a < 2 ^ i) := by
  unfold bitv
  have h1 : a / 2 ^ i < 2 := by
    rw [Nat.div_lt_iff_lt_mul (Nat.two_pow_pos _), Nat.mul_comm, ← Nat.pow_succ]
    exact h
  rcases Nat.lt_or_ge a (2 ^ i) with h2 | h2
  · right
    rw [Nat.div_eq_of_lt h2]
    exact ⟨rfl, h2⟩
  · left
    have h3 := Nat.div_pos h2 (Nat.two_pow_pos i)
    exact ⟨by omega, bl_unique a i h2 h⟩
set_option maxHeartbeats 1000000 in
set_option maxRecDepth 100000 in
theorem len_ref (a : Nat) (ha : a < big) (w : World) :
    Calls Try.prog 4 #[N a] w fun e w' => e = .returned (.int .i64 (bl a)) ∧ Below w.heap.size w w' := by
  have CB : Hid _ := fun i hi w => bit_ref_in a i hi w
  have HA : Hid (a < 2 ^ 384) := by
    obtain ⟨n, hn, e⟩ := big_pow
    show a < 2 ^ 384
    rw [e, show 64 * n = 384 by omega] at ha
    exact ha
  clear ha
  go_enter Try.func4, Try.ntmps4
  go_wp2
  go_loopw [3] (fun i wr => ∃ k : Nat, k ≤ 384 ∧ i = .int .i64 ((k : Int) - 1) ∧ a < 2 ^ k ∧ Rws wr [(w.heap.size, a)] ∧ Below w.heap.size w wr) (fun i _ => (RowKit.intOf i + 1).toNat)
  case atStart =>
    exact ⟨384, by omega, rfl, HA.out, (Rws.nil w).alloc a rfl, (Below.refl _ _).alloc (Nat.le_refl _) _⟩
  case round =>
    obtain ⟨k, hk, rfl, hz, hR, hw⟩ := hrel
    have HZ : Hid _ := hz
    clear hz HA
    by_cases h0 : 1 ≤ k
    · obtain ⟨i, rfl⟩ : ∃ i, k = i + 1 := ⟨k - 1, by omega⟩
      rw [show (((i + 1 : Nat) : Int) - 1) = (i : Int) by omega]
      obtain ⟨pa, a0, a1, a2, a3, a4, a5⟩ := hR.at (g := w.heap.size) (v := a) (by simp)
      have HR : Hid (_ ∧ _) := ⟨hR, hw⟩
      clear hR hw
      go_wp2_with fail
      refine (CB.out i (by omega) _).mono ?_
      rintro e wx ⟨rfl, hb⟩
      rcases top_bit a i HZ.out with ⟨h1, h2⟩ | ⟨h1, h2⟩
      · rw [h1]
        have H2 : Hid (bl a = i + 1) := h2
        clear h1 h2
        go_wp2
        go_ret
        refine ⟨?_, HR.out.2.trans (hb.mono HR.out.2.size)⟩
        rw [H2.out]
        refine congrArg Ending.returned (congrArg (Value.int IntKind.i64) ?_)
        omega
      · rw [h1]
        have H2 : Hid (a < 2 ^ i) := h2
        clear h1 h2
        go_wp2
        go_roundw
        case rel => exact ⟨i, by omega, by go_num, H2.out, HR.out.1.below hb, HR.out.2.trans (hb.mono HR.out.2.size)⟩
        case measure => simp [RowKit.intOf] <;> omega
    · have hk0 : k = 0 := by omega
      subst hk0
      rw [show (((0 : Nat) : Int) - 1) = -1 from rfl]
      have hfin : Hid (bl a = 0) := by
        have h1 := HZ.out
        have : a = 0 := by simpa using h1
        show bl a = 0
        rw [this]; rfl
      clear HZ hR
      go_wp2
      go_ret
      refine ⟨?_, hw⟩
      rw [hfin.out]
      rfl
end Go.Proofs.Ytoagmdgmbkpghaa
