/- The document's own Shift. -/
import Derived.Test.YtoagmdgmbkpghaaD3
import Derived.Test.YtoagmdgmbkpghaaA30
import Derived.Test.YtoagmdgmbkpghaaPA3
namespace Go.Proofs.Ytoagmdgmbkpghaa
open Go.RowKit

theorem bitv_tb (a i : Nat) : bitv a i = if a.testBit i = true then 1 else 0 := by
  unfold bitv
  rw [Nat.testBit_eq_decide_div_mod_eq]
  simp only [decide_eq_true_eq]
  split <;> omega
/-- The bits of a shifted number. -/
theorem shv_bit (a : Nat) (n : Int) (ha : a < big) (h : ¬ (384 ≤ n ∨ n ≤ -384)) (k : Nat) (hk : k < 384) : bitz a ((k : Int) - n) = bitv (shv a n) k := by
  unfold shv bitz
  rw [if_neg h]
  by_cases hn : n < 0
  · rw [if_pos hn]
    obtain ⟨m, rfl⟩ : ∃ m : Nat, n = -(m : Int) := ⟨(-n).toNat, by omega⟩
    rw [show (- -(m : Int)).toNat = m by omega]
    rw [bitv_tb (a / 2 ^ m), ← Nat.shiftRight_eq_div_pow, Nat.testBit_shiftRight]
    by_cases h2 : k + m < 384
    · rw [if_pos (by omega), bitv_tb, show ((k : Int) - -(m : Int)).toNat = m + k by omega]
    · rw [if_neg (by omega), Nat.testBit_lt_two_pow (Nat.lt_of_lt_of_le ha (big_le _ (by omega)))]
      rfl
  · rw [if_neg hn]
    obtain ⟨m, rfl⟩ : ∃ m : Nat, n = (m : Int) := ⟨n.toNat, by omega⟩
    obtain ⟨b, hb, e⟩ := big_pow
    rw [Int.toNat_natCast, bitv_tb (a * 2 ^ m % big), e, Nat.testBit_mod_two_pow, ← Nat.shiftLeft_eq, Nat.testBit_shiftLeft]
    by_cases h2 : m ≤ k
    · rw [if_pos (by omega), bitv_tb, show ((k : Int) - (m : Int)).toNat = k - m by omega]
      simp [show k < 64 * b by omega, h2]
    · rw [if_neg (by omega)]
      simp [h2]
theorem low_step (x k : Nat) : x % 2 ^ (k + 1) = x % 2 ^ k + (x / 2 ^ k % 2) * 2 ^ k := by
  rw [Nat.pow_succ, Nat.mod_mul, Nat.mul_comm (2 ^ k)]
theorem set_bit (V k j : Nat) (hV : V < 2 ^ k) : upd (wd V) (k / 64) (bits .or .u64 (wd V (k / 64)) (IntKind.u64.wrap (2 ^ (k % 64)))) j = wd (V + 2 ^ k) j := by
  have h1 := part_word V 1 k hV
  rw [show ((1 : Nat) : Int) * 2 ^ (k % 64) = 2 ^ (k % 64) by rw [show ((1 : Nat) : Int) = 1 from rfl, Int.one_mul], Nat.one_mul] at h1
  unfold upd
  by_cases h : j = k / 64
  · rw [if_pos h, h, h1]
  · rw [if_neg h]
    have h2 := part_other V 1 k 1 j hV (by decide) (by omega) h
    rw [Nat.one_mul] at h2
    exact h2.symm
set_option maxHeartbeats 1000000 in
set_option maxRecDepth 100000 in
theorem shift_ref_in (a : Nat) (n : Int) (ha : a < big) (h : ¬ (384 ≤ n ∨ n ≤ -384)) (w : World) :
    Calls Try.prog 25 #[N a, .int .i64 n] w fun e w' => e = .returned (N (shv a n)) ∧ Below w.heap.size w w' := by
  have d1 : decide (384 ≤ n) = false := decide_eq_false (by omega)
  have d2 : decide (n ≤ -384) = false := decide_eq_false (by omega)
  have CB : Hid _ := fun (k : Nat) (hk : k < 384) w => by
    have hh := bit_ref a ((k : Int) - n) w
    rw [shv_bit a n ha h k hk] at hh
    exact hh
  have HX : Hid (shv a n < big) := by
    show shv a n < big
    unfold shv
    split
    · exact big_pos
    · split
      · exact Nat.lt_of_le_of_lt (Nat.div_le_self _ _) ha
      · exact Nat.mod_lt _ big_pos
  have HN : Hid (-384 < n ∧ n < 384) := ⟨by omega, by omega⟩
  generalize shv a n = x at CB HX ⊢
  clear ha h
  go_enter Try.func25, Try.ntmps25
  go_wp2
  go_loopw [6] (fun i wr => ∃ k : Nat, k ≤ 384 ∧ i = .int .i64 k ∧ w.heap.size + 1 + 1 < wr.heap.size ∧ Rws wr [(w.heap.size, a)] ∧ Row wr (w.heap.size + 1) 6 (fun _ => 0) ∧ Row wr (w.heap.size + 1 + 1) 6 (wd (x % 2 ^ k)) ∧ Below w.heap.size w wr) (fun i _ => 384 - (intOf i).toNat)
  case atStart =>
    refine ⟨0, by omega, rfl, by simp, ?_, ?_, ?_, ?_⟩
    · exact (((Rws.nil w).alloc a rfl).below ((Below.refl _ _).alloc (Nat.le_refl _) _)).below ((Below.refl _ _).alloc (Nat.le_refl _) _)
    · exact (Row.new _ _ 24 (by simp) (six_lt (f := fun _ => 0) rfl)).alloc (by simp) _
    · exact (Row.new _ _ 24 (by simp) (six_lt (f := fun _ => 0) rfl)).congr (fun j _ => by rw [Nat.pow_zero, Nat.mod_one, wd_zero])
    · exact (((Below.refl _ _).alloc (Nat.le_refl _) _).alloc (by simp) _).alloc (by simp; omega) _
  case round =>
    obtain ⟨k, hk, rfl, hg, hR, hZ, hS, hw⟩ := hrel
    by_cases hlt : k < 384
    · obtain ⟨pa, a0, a1, a2, a3, a4, a5⟩ := hR.at (g := w.heap.size) (v := a) (by simp)
      have ew : IntKind.i64.wrap ((k : Int) - n) = (k : Int) - n := by have := HN.out; rw [IntKind.wrap_i64]; omega
      have HM : Hid (_ ∧ _ ∧ _ ∧ _ ∧ _) := ⟨hg, hR, hZ, hS, hw⟩
      clear hg hR hZ hS hw
      go_wp2_with fail
      refine (CB.out k hlt _).mono ?_
      rintro e wx ⟨rfl, hb⟩
      clear a0 a1 a2 a3 a4 a5 pa
      obtain ⟨hg, hR, hZ, hS, hw⟩ := HM.out
      have hR2 := hR.below hb
      have hZ2 := Row.below hb hZ (by omega)
      have hS2 := Row.below hb hS hg
      have hw2 := hw.trans (hb.mono hw.size)
      have hg2 := Nat.lt_of_lt_of_le hg hb.size
      clear hg hR hZ hS hw HM hb
      rcases Nat.mod_two_eq_zero_or_one (x / 2 ^ k) with hq | hq
      · have hb0 : bitv x k = 0 := by unfold bitv; rw [hq]; rfl
        have HQ : Hid (x % 2 ^ (k + 1) = x % 2 ^ k) := by show _ = _; rw [low_step, hq, Nat.zero_mul, Nat.add_zero]
        rw [hb0]
        have HM : Hid (_ ∧ _ ∧ _ ∧ _ ∧ _) := ⟨hg2, hR2, hZ2, hS2, hw2⟩
        clear hq hb0 hg2 hR2 hZ2 hS2 hw2
        go_wp2
        go_roundw
        case rel =>
          obtain ⟨hg, hR, hZ, hS, hw⟩ := HM.out
          exact ⟨k + 1, by omega, by go_num, hg, hR, hZ, hS.congr (fun j _ => by rw [HQ.out]), hw⟩
        case measure => simp [intOf] <;> omega
      · have hb0 : bitv x k = 1 := by unfold bitv; rw [hq]; rfl
        have HQ : Hid (x % 2 ^ (k + 1) = x % 2 ^ k + 2 ^ k) := by show _ = _; rw [low_step, hq, Nat.one_mul]
        rw [hb0]
        obtain ⟨hS3, hS4⟩ := hS2 (k / 64) (by omega)
        have HM : Hid (_ ∧ _ ∧ _ ∧ _ ∧ _) := ⟨hg2, hR2, hZ2, hS2, hw2⟩
        clear hq hb0 hg2 hR2 hZ2 hS2 hw2
        go_wp2
        go_region
        go_wp2
        go_roundw
        case rel =>
          obtain ⟨hg, hR, hZ, hS, hw⟩ := HM.out
          refine ⟨k + 1, by omega, by go_num, by simpa using hg, fun g v hm => ?_, (hZ.set_other _ (by simp <;> omega)).drew, ((hS.set _).congr (fun j _ => ?_)).drew, (hw.setCell (by simp <;> omega) _).drew⟩
          · obtain ⟨h1, h2⟩ := hR g v hm
            simp only [List.mem_singleton, Prod.mk.injEq] at hm
            exact ⟨by simpa using h1, (h2.set_other _ (by simp <;> omega)).drew⟩
          · rw [HQ.out]
            exact set_bit _ k j (Nat.mod_lt _ (Nat.two_pow_pos _))
        case measure => simp [intOf] <;> omega
    · have hk6 : k = 384 := by omega
      subst hk6
      rw [show ((384 : Nat) : Int) = 384 from rfl]
      have hx : x % 2 ^ 384 = x := Nat.mod_eq_of_lt (by
        have := HX.out
        obtain ⟨m, hm, e⟩ := big_pow
        rw [e, show 64 * m = 384 by omega] at this
        exact this)
      rw [hx] at hS
      obtain ⟨s0, s1, s2, s3, s4, s5⟩ := hS.reads
      obtain ⟨z0, z1, z2, z3, z4, z5⟩ := hZ.writes
      obtain ⟨y0, y1, y2, y3, y4, y5⟩ := hZ.reads
      have HW : Hid _ := hw
      clear hZ hS hw hR hx
      go_wp2
      refine bodyPost_ret (v := N x) ?_ rfl ⟨rfl, ?_⟩
      · simp [results, Try.results25, go_sem, *]
      · exact below6 HW.out (by omega) _ _ _ _ _ _
set_option maxHeartbeats 1000000 in
set_option maxRecDepth 100000 in
theorem shift_ref_none (a : Nat) (n : Int) (h : 384 ≤ n ∨ n ≤ -384) (w : World) :
    Calls Try.prog 25 #[N a, .int .i64 n] w fun e w' => e = .returned (N 0) ∧ Below w.heap.size w w' := by
  by_cases h1 : 384 ≤ n
  · have hd : decide (384 ≤ n) = true := decide_eq_true h1
    clear h
    go_enter Try.func25, Try.ntmps25
    go_wp2
    refine bodyPost_ret (v := N 0) ?_ rfl ⟨rfl, ?_⟩
    · simp [results, Try.results25, go_sem, wd_zero]
    · exact (((Below.refl _ _).alloc (Nat.le_refl _) _).alloc (by simp) _).alloc (by simp; omega) _
  · have h2 : n ≤ -384 := by omega
    have hd : decide (384 ≤ n) = false := decide_eq_false h1
    have hd2 : decide (n ≤ -384) = true := decide_eq_true h2
    clear h h1
    go_enter Try.func25, Try.ntmps25
    go_wp2
    refine bodyPost_ret (v := N 0) ?_ rfl ⟨rfl, ?_⟩
    · simp [results, Try.results25, go_sem, wd_zero]
    · exact (((Below.refl _ _).alloc (Nat.le_refl _) _).alloc (by simp) _).alloc (by simp; omega) _
theorem shift_ref (a : Nat) (n : Int) (ha : a < big) (w : World) :
    Calls Try.prog 25 #[N a, .int .i64 n] w fun e w' => e = .returned (N (shv a n)) ∧ Below w.heap.size w w' := by
  by_cases h : 384 ≤ n ∨ n ≤ -384
  · have := shift_ref_none a n h w
    unfold shv
    rw [if_pos h]
    exact this
  · exact shift_ref_in a n ha h w
end Go.Proofs.Ytoagmdgmbkpghaa
