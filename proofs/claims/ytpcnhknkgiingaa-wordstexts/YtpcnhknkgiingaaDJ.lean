/- D0, D1, D2, D3, D4, D5 in one text -/
import Derived.Test.YtpcnhknkgiingaaA19
import Derived.Test.YtpcnhknkgiingaaA31
import Derived.Test.YtpcnhknkgiingaaA8
import Derived.Test.YtpcnhknkgiingaaC0
import Derived.BigRegion
import Derived.Test.YtpcnhknkgiingaaA2
import Derived.Test.YtpcnhknkgiingaaA30
import Derived.Test.YtpcnhknkgiingaaA11
section
/- The document's own Of and Bit, and words.Bit at any place. -/
namespace Go.Proofs.Ytpcnhknkgiingaa
open Go.RowKit

set_option maxHeartbeats 400000 in
theorem of_ref (n : Nat) (hn : n < 18446744073709551616) (w : World) :
    Calls Try.prog 26 #[.int .u64 n] w fun e w' => e = .returned (N n) ∧ Below w.heap.size w w' := by
  have h1 : wd n 1 = 0 := wd_small n 0 hn
  have h2 : wd n 2 = 0 := wd_small n 1 hn
  have h3 : wd n 3 = 0 := wd_small n 2 hn
  have h4 : wd n 4 = 0 := wd_small n 3 hn
  have h5 : wd n 5 = 0 := wd_small n 4 hn
  have h0 := wd_small0 n hn
  unfold N
  rw [h0, h1, h2, h3, h4, h5]
  clear h0 h1 h2 h3 h4 h5 hn
  go_enter Try.func26, Try.ntmps26
  go_wp2
  refine bodyPost_ret (v := .agg #[.int .u64 n, .int .u64 0, .int .u64 0, .int .u64 0, .int .u64 0, .int .u64 0]) ?_ rfl ⟨rfl, ?_⟩
  · simp [results, Try.results26, go_sem]
  · exact (Below.refl _ _).alloc (Nat.le_refl _) _
set_option maxHeartbeats 400000 in
set_option maxRecDepth 100000 in
theorem bit_ref_in (a i : Nat) (hi : i < 384) (w : World) :
    Calls Try.prog 22 #[N a, .int .i64 i] w fun e w' => e = .returned (.int .i64 (bitv a i)) ∧ Below w.heap.size w w' := by
  have d0 : decide ((i : Int) < 0) = false := decide_eq_false (by omega)
  have d1 : decide ((383 : Int) < i) = false := decide_eq_false (by omega)
  have hA : Row (w.alloc (.cells #[.int .u64 (wd a 0), .int .u64 (wd a 1), .int .u64 (wd a 2), .int .u64 (wd a 3), .int .u64 (wd a 4), .int .u64 (wd a 5)] 24)) w.heap.size 6 (wd a) := Row.new w _ 24 rfl (six_lt rfl)
  have hA1 := (hA (i / 64) (by omega)).1
  clear hA
  go_enter Try.func22, Try.ntmps22
  go_wp2
  rw [bitv_word, show wrap64 (bitv a i) = bitv a i by have := bitv_bd a i; unfold wrap64; omega]
  go_ret
  exact ⟨rfl, (Below.refl _ _).alloc (Nat.le_refl _) _⟩
/-- Bit i of a number, at any place. -/
def bitz (a : Nat) (i : Int) : Int := if 0 ≤ i ∧ i < 384 then bitv a i.toNat else 0
set_option maxHeartbeats 400000 in
set_option maxRecDepth 100000 in
theorem bit_any (a : Nat) (i : Int) (w : World) :
    Calls Try.prog 21 #[N a, .int .i64 i] w fun e w' => e = .returned (.int .i64 (bitz a i)) ∧ Below w.heap.size w w' := by
  unfold bitz
  by_cases h : 0 ≤ i ∧ i < 384
  · obtain ⟨n, rfl⟩ := Int.eq_ofNat_of_zero_le h.1
    rw [if_pos h]
    exact bit_in a n (by omega) w
  · rw [if_neg h]
    by_cases h0 : i < 0
    · have d0 : decide (i < 0) = true := decide_eq_true h0
      go_enter Try.func21, Try.ntmps21
      go_wp2
      go_ret
      exact ⟨rfl, (Below.refl _ _).alloc (Nat.le_refl _) _⟩
    · have d0 : decide (i < 0) = false := decide_eq_false h0
      have d1 : decide ((384 : Int) ≤ i) = true := decide_eq_true (by omega)
      go_enter Try.func21, Try.ntmps21
      go_wp2
      go_ret
      exact ⟨rfl, (Below.refl _ _).alloc (Nat.le_refl _) _⟩
set_option maxHeartbeats 400000 in
set_option maxRecDepth 100000 in
theorem bit_ref (a : Nat) (i : Int) (w : World) :
    Calls Try.prog 22 #[N a, .int .i64 i] w fun e w' => e = .returned (.int .i64 (bitz a i)) ∧ Below w.heap.size w w' := by
  unfold bitz
  by_cases h : 0 ≤ i ∧ i < 384
  · obtain ⟨n, rfl⟩ := Int.eq_ofNat_of_zero_le h.1
    rw [if_pos h]
    exact bit_ref_in a n (by omega) w
  · rw [if_neg h]
    by_cases h0 : i < 0
    · have d0 : decide (i < 0) = true := decide_eq_true h0
      go_enter Try.func22, Try.ntmps22
      go_wp2
      go_ret
      exact ⟨rfl, (Below.refl _ _).alloc (Nat.le_refl _) _⟩
    · have d0 : decide (i < 0) = false := decide_eq_false h0
      have d1 : decide ((383 : Int) < i) = true := decide_eq_true (by omega)
      go_enter Try.func22, Try.ntmps22
      go_wp2
      go_ret
      exact ⟨rfl, (Below.refl _ _).alloc (Nat.le_refl _) _⟩
theorem call10 : ∀ args w, (callFunc 10 args).run Try.prog w = .ok (.enter 10 args) w := by intro args w; go_simp
theorem call12 : ∀ args w, (callFunc 12 args).run Try.prog w = .ok (.enter 12 args) w := by intro args w; go_simp
theorem call14 : ∀ args w, (callFunc 14 args).run Try.prog w = .ok (.enter 14 args) w := by intro args w; go_simp
theorem call16 : ∀ args w, (callFunc 16 args).run Try.prog w = .ok (.enter 16 args) w := by intro args w; go_simp
theorem call18 : ∀ args w, (callFunc 18 args).run Try.prog w = .ok (.enter 18 args) w := by intro args w; go_simp
theorem call20 : ∀ args w, (callFunc 20 args).run Try.prog w = .ok (.enter 20 args) w := by intro args w; go_simp
theorem call22 : ∀ args w, (callFunc 22 args).run Try.prog w = .ok (.enter 22 args) w := by intro args w; go_simp
theorem call24 : ∀ args w, (callFunc 24 args).run Try.prog w = .ok (.enter 24 args) w := by intro args w; go_simp
theorem call26 : ∀ args w, (callFunc 26 args).run Try.prog w = .ok (.enter 26 args) w := by intro args w; go_simp
theorem call44 : ∀ args w, (callFunc 44 args).run Try.prog w = .ok (.enter 44 args) w := by intro args w; go_simp
end Go.Proofs.Ytpcnhknkgiingaa
end
section
/- The document's own Compare and Len. -/
namespace Go.Proofs.Ytpcnhknkgiingaa
open Go.RowKit

theorem high_step (a k : Nat) : ((a / 2 ^ (64 * k) : Nat) : Int) = wd a k + 18446744073709551616 * ((a / 2 ^ (64 * (k + 1)) : Nat) : Int) := by
  unfold wd
  rw [pow_step, ← Nat.div_div_eq_div_mul]
  omega
theorem high_none (a : Nat) (ha : a < big) : a / 2 ^ (64 * 6) = 0 := by
  rw [← big_eq]; exact Nat.div_eq_of_lt ha
theorem lt_of_high {a b k : Nat} (h : a / 2 ^ (64 * k) < b / 2 ^ (64 * k)) : a < b := by
  rcases Nat.lt_or_ge a b with h' | h'
  · exact h'
  · have := Nat.div_le_div_right (c := 2 ^ (64 * k)) h'
    omega
set_option maxHeartbeats 1000000 in
set_option maxRecDepth 100000 in
theorem compare_ref (a b : Nat) (ha : a < big) (hb : b < big) (w : World) :
    Calls Try.prog 14 #[N a, N b] w fun e w' => e = .returned (.int .i64 (cmpv a b)) ∧ Below w.heap.size w w' := by
  have HA : Hid (a < big ∧ b < big) := ⟨ha, hb⟩
  clear ha hb
  go_enter Try.func14, Try.ntmps14
  go_wp2
  go_loopw [5] (fun i wr => ∃ k : Nat, k ≤ 6 ∧ i = .int .i64 ((k : Int) - 1) ∧ a / 2 ^ (64 * k) = b / 2 ^ (64 * k) ∧ Row wr w.heap.size 6 (wd a) ∧ Row wr (w.heap.size + 1) 6 (wd b) ∧ Below w.heap.size w wr) (fun i _ => (RowKit.intOf i + 1).toNat)
  case atStart =>
    refine ⟨6, by omega, rfl, ?_, (Row.new w _ 24 rfl (six_lt rfl)).alloc (by simp) _, Row.new _ _ 24 (by simp) (six_lt rfl), ((Below.refl _ _).alloc (Nat.le_refl _) _).alloc (by simp) _⟩
    rw [high_none a HA.out.1, high_none b HA.out.2]
  case round =>
    obtain ⟨k, hk, rfl, hz, hA, hB, hw⟩ := hrel
    have HZ : Hid _ := hz
    clear hz
    by_cases h0 : 1 ≤ k
    · obtain ⟨i, rfl⟩ : ∃ i, k = i + 1 := ⟨k - 1, by omega⟩
      rw [show (((i + 1 : Nat) : Int) - 1) = (i : Int) by omega]
      have hA1 := (hA i (by omega)).1
      have hB1 := (hB i (by omega)).1
      have HR : Hid (_ ∧ _ ∧ _) := ⟨hA, hB, hw⟩
      clear hA hB hw
      by_cases hx : wd a i < wd b i
      · have d1 : decide (wd a i < wd b i) = true := decide_eq_true hx
        have hfin : Hid (cmpv a b = -1) := by
          have h1 := high_step a i
          have h2 := high_step b i
          rw [HZ.out] at h1
          have h3 : a < b := lt_of_high (k := i) (by omega)
          show cmpv a b = -1
          unfold cmpv
          rw [if_neg (by omega), if_pos h3]
        clear hx
        go_wp2
        go_region
        go_wp2
        go_ret
        refine ⟨?_, HR.out.2.2.drew⟩
        rw [hfin.out]
        rfl
      · have d1 : decide (wd a i < wd b i) = false := decide_eq_false hx
        by_cases hy : wd b i < wd a i
        · have d2 : decide (wd b i < wd a i) = true := decide_eq_true hy
          have hfin : Hid (cmpv a b = 1) := by
            have h1 := high_step a i
            have h2 := high_step b i
            rw [HZ.out] at h1
            have h3 : b < a := lt_of_high (k := i) (by omega)
            show cmpv a b = 1
            unfold cmpv
            rw [if_neg (by omega), if_neg (by omega)]
          clear hx hy
          go_wp2
          go_region
          go_wp2
          go_region
          go_wp2
          go_ret
          refine ⟨?_, HR.out.2.2.drew.drew⟩
          rw [hfin.out]
          rfl
        · have d2 : decide (wd b i < wd a i) = false := decide_eq_false hy
          have HE : Hid (wd a i = wd b i) := (by omega : wd a i = wd b i)
          clear hx hy
          go_wp2
          go_region
          go_wp2
          go_region
          go_wp2
          go_roundw
          case rel =>
            obtain ⟨hA, hB, hw⟩ := HR.out
            refine ⟨i, by omega, by go_num, ?_, hA.drew.drew, hB.drew.drew, hw.drew.drew⟩
            have h1 := high_step a i
            have h2 := high_step b i
            rw [HZ.out] at h1
            have h3 := HE.out
            omega
          case measure => simp [RowKit.intOf] <;> omega
    · have hk0 : k = 0 := by omega
      subst hk0
      rw [show (((0 : Nat) : Int) - 1) = -1 from rfl]
      have hfin : Hid (cmpv a b = 0) := by
        have h1 := HZ.out
        simp only [Nat.mul_zero, Nat.pow_zero, Nat.div_one] at h1
        show cmpv a b = 0
        unfold cmpv
        rw [if_pos h1]
      clear hA hB HZ
      go_wp2
      go_ret
      refine ⟨?_, hw⟩
      rw [hfin.out]
      rfl
theorem top_bit (a i : Nat) (h : a < 2 ^ (i + 1)) : (bitv a i = 1 ∧ bl a = i + 1) ∨ (bitv a i = 0 ∧ a < 2 ^ i) := by
  unfold bitv
  have h1 : a / 2 ^ i < 2 := by
    rw [Nat.div_lt_iff_lt_mul (Nat.two_pow_pos _), Nat.mul_comm, ← Nat.pow_succ]
    exact h
  rcases Nat.lt_or_ge a (2 ^ i) with h2 | h2
  · right
    rw [Nat.div_eq_of_lt h2]
    exact ⟨rfl, h2⟩
  · left
    have h3 := Nat.div_pos h2 (Nat.two_pow_pos i)
    exact ⟨by omega, bl_unique a i h2 h⟩
set_option maxHeartbeats 1000000 in
set_option maxRecDepth 100000 in
theorem len_ref (a : Nat) (ha : a < big) (w : World) :
    Calls Try.prog 24 #[N a] w fun e w' => e = .returned (.int .i64 (bl a)) ∧ Below w.heap.size w w' := by
  have CB : Hid _ := fun i hi w => bit_ref_in a i hi w
  have HA : Hid (a < 2 ^ 384) := by
    obtain ⟨n, hn, e⟩ := big_pow
    show a < 2 ^ 384
    rw [e, show 64 * n = 384 by omega] at ha
    exact ha
  clear ha
  go_enter Try.func24, Try.ntmps24
  go_wp2
  go_loopw [3] (fun i wr => ∃ k : Nat, k ≤ 384 ∧ i = .int .i64 ((k : Int) - 1) ∧ a < 2 ^ k ∧ Rws wr [(w.heap.size, a)] ∧ Below w.heap.size w wr) (fun i _ => (RowKit.intOf i + 1).toNat)
  case atStart =>
    exact ⟨384, by omega, rfl, HA.out, (Rws.nil w).alloc a rfl, (Below.refl _ _).alloc (Nat.le_refl _) _⟩
  case round =>
    obtain ⟨k, hk, rfl, hz, hR, hw⟩ := hrel
    have HZ : Hid _ := hz
    clear hz HA
    by_cases h0 : 1 ≤ k
    · obtain ⟨i, rfl⟩ : ∃ i, k = i + 1 := ⟨k - 1, by omega⟩
      rw [show (((i + 1 : Nat) : Int) - 1) = (i : Int) by omega]
      obtain ⟨pa, a0, a1, a2, a3, a4, a5⟩ := hR.at (g := w.heap.size) (v := a) (by simp)
      have HR : Hid (_ ∧ _) := ⟨hR, hw⟩
      clear hR hw
      go_wp2_with fail
      refine (CB.out i (by omega) _).mono ?_
      rintro e wx ⟨rfl, hb⟩
      rcases top_bit a i HZ.out with ⟨h1, h2⟩ | ⟨h1, h2⟩
      · rw [h1]
        have H2 : Hid (bl a = i + 1) := h2
        clear h1 h2
        go_wp2
        go_ret
        refine ⟨?_, HR.out.2.trans (hb.mono HR.out.2.size)⟩
        rw [H2.out]
        refine congrArg Ending.returned (congrArg (Value.int IntKind.i64) ?_)
        omega
      · rw [h1]
        have H2 : Hid (a < 2 ^ i) := h2
        clear h1 h2
        go_wp2
        go_roundw
        case rel => exact ⟨i, by omega, by go_num, H2.out, HR.out.1.below hb, HR.out.2.trans (hb.mono HR.out.2.size)⟩
        case measure => simp [RowKit.intOf] <;> omega
    · have hk0 : k = 0 := by omega
      subst hk0
      rw [show (((0 : Nat) : Int) - 1) = -1 from rfl]
      have hfin : Hid (bl a = 0) := by
        have h1 := HZ.out
        have : a = 0 := by simpa using h1
        show bl a = 0
        rw [this]; rfl
      clear HZ hR
      go_wp2
      go_ret
      refine ⟨?_, hw⟩
      rw [hfin.out]
      rfl
end Go.Proofs.Ytpcnhknkgiingaa
end
section
/- The document's own Add and Sub. -/
namespace Go.Proofs.Ytpcnhknkgiingaa
open Go.RowKit

/-- A sum by halves of the carry. -/
theorem add_two (x y c : Int) (hx0 : 0 ≤ x) (hx1 : x < 18446744073709551616) (hy0 : 0 ≤ y) (hy1 : y < 18446744073709551616) (hc0 : 0 ≤ c) (hc1 : c ≤ 1) :
    ∃ s t : Int, IntKind.u64.wrap (x + y) = s ∧ IntKind.u64.wrap (s + c) = t ∧ t = addLo x y c ∧
      ((decide (s < x) = true ∧ decide (t < s) = false ∧ addHi x y c = 1) ∨ (decide (s < x) = false ∧ decide (t < s) = true ∧ addHi x y c = 1) ∨ (decide (s < x) = false ∧ decide (t < s) = false ∧ addHi x y c = 0)) := by
  refine ⟨_, _, rfl, rfl, ?_, ?_⟩
  · rw [IntKind.wrap_u64, IntKind.wrap_u64]; unfold addLo; omega
  · rw [IntKind.wrap_u64, IntKind.wrap_u64]
    unfold addHi
    simp only [decide_eq_true_eq, decide_eq_false_iff_not]
    omega
set_option maxHeartbeats 1000000 in
set_option maxRecDepth 100000 in
theorem add_ref (a b : Nat) (ha : a < big) (hb : b < big) (w : World) :
    Calls Try.prog 10 #[N a, N b] w fun e w' => e = .returned (.tuple #[N ((a + b) % big), .bool (decide (big ≤ a + b))]) ∧ Below w.heap.size w w' := by
  have hend := cry_end a b ha hb
  have He : Hid ((cry a b 6 == 1) = decide (big ≤ a + b)) := by
    show _ = _
    rw [← hend]
    have := cry_bd a b 6
    by_cases h : cry a b 6 = 0
    · rw [h]; rfl
    · rw [show cry a b 6 = 1 by omega]; rfl
  clear hend ha hb
  go_enter Try.func10, Try.ntmps10
  go_wp2
  go_loopw [7, 8] (fun c i wr => ∃ k : Nat, k ≤ 6 ∧ i = .int .i64 k ∧ c = .int .u64 (cry a b k) ∧ Row wr w.heap.size 6 (wd a) ∧ Row wr (w.heap.size + 1) 6 (wd b) ∧ Row wr (w.heap.size + 1 + 1) 6 (fun _ => 0) ∧ Row wr (w.heap.size + 1 + 1 + 1) 6 (part (a + b) k) ∧ Below w.heap.size w wr) (fun _ i _ => 6 - (intOf i).toNat)
  case atStart =>
    refine ⟨0, by omega, rfl, by simp [cry], ?_, ?_, ?_, ?_, ?_⟩
    · exact (((Row.new w _ 24 rfl (six_lt rfl)).alloc (by simp <;> omega) _).alloc (by simp <;> omega) _).alloc (by simp <;> omega) _
    · exact ((Row.new _ _ 24 (by simp <;> omega) (six_lt rfl)).alloc (by simp <;> omega) _).alloc (by simp <;> omega) _
    · exact (Row.new _ _ 24 (by simp <;> omega) (six_lt (f := fun _ => 0) rfl)).alloc (by simp <;> omega) _
    · exact Row.new _ _ 24 (by simp <;> omega) (six_lt (f := part (a + b) 0) rfl)
    · exact ((((Below.refl _ _).alloc (Nat.le_refl _) _).alloc (by simp <;> omega) _).alloc (by simp <;> omega) _).alloc (by simp <;> omega) _
  case round =>
    obtain ⟨k, hk, rfl, rfl, hA, hB, hZ, hS, hw⟩ := hrel
    by_cases hlt : k < 6
    · obtain ⟨hc0, hc1⟩ := cry_bd a b k
      obtain ⟨ha0, ha1⟩ := wd_bd a k
      obtain ⟨hb0, hb1⟩ := wd_bd b k
      obtain ⟨s, t, hs, ht, htt, hcs⟩ := add_two (wd a k) (wd b k) (cry a b k) ha0 ha1 hb0 hb1 hc0 hc1
      rw [add_word] at htt
      rw [add_cry] at hcs
      have HT : Hid (t = wd (a + b) k) := htt
      have hA1 := (hA k hlt).1
      have hB1 := (hB k hlt).1
      obtain ⟨hS1, hS2⟩ := hS k hlt
      have R1 : Hid (_ ∧ _ ∧ _ ∧ _ ∧ _) := ⟨hA, hB, hZ, hS, hw⟩
      clear hA hB hZ hS hw htt hc0 hc1 ha0 ha1 hb0 hb1
      rcases hcs with ⟨d1, d2, d3⟩ | ⟨d1, d2, d3⟩ | ⟨d1, d2, d3⟩
      all_goals
        have H3 : Hid _ := d3
        clear d3
        go_wp2
        go_region
        go_wp2
        go_roundw
        case rel =>
          obtain ⟨hA, hB, hZ, hS, hw⟩ := R1.out
          exact ⟨k + 1, by omega, by go_num, by rw [H3.out], (hA.set_other _ (by simp <;> omega)), (hB.set_other _ (by simp <;> omega)), (hZ.set_other _ (by simp <;> omega)), ((hS.set _).congr (fun j _ => part_step HT.out j)), (hw.drew.setCell (by simp <;> omega) _)⟩
        case measure => simp [intOf]; omega
    · have hk6 : k = 6 := by omega
      subst hk6
      obtain ⟨s0, s1, s2, s3, s4, s5⟩ := (hS.congr (f' := wd ((a + b) % big)) (fun j hj => by rw [part_lt hj, wd_mod _ _ hj])).reads
      obtain ⟨z0, z1, z2, z3, z4, z5⟩ := hZ.writes
      obtain ⟨y0, y1, y2, y3, y4, y5⟩ := hZ.reads
      clear hA hB hZ hS
      go_wp2
      rw [He.out]
      exact bodyPost_ret (v := .tuple #[N ((a + b) % big), .bool (decide (big ≤ a + b))]) (by simp [results, Try.results10, go_sem, *]) rfl ⟨rfl, (((((hw.setCell (by simp <;> omega) _).setCell (by simp <;> omega) _).setCell (by simp <;> omega) _).setCell (by simp <;> omega) _).setCell (by simp <;> omega) _).setCell (by simp <;> omega) _⟩
end Go.Proofs.Ytpcnhknkgiingaa
end
section
/- The document's own Sub. -/
namespace Go.Proofs.Ytpcnhknkgiingaa
open Go.RowKit

theorem sub_two (x y c : Int) (hx0 : 0 ≤ x) (hx1 : x < 18446744073709551616) (hy0 : 0 ≤ y) (hy1 : y < 18446744073709551616) (hc0 : 0 ≤ c) (hc1 : c ≤ 1) :
    ∃ s t : Int, IntKind.u64.wrap (x - y) = s ∧ IntKind.u64.wrap (s - c) = t ∧ t = subLo x y c ∧
      ((decide (x < y) = true ∧ decide (s < c) = false ∧ bor x (y + c) = 1) ∨ (decide (x < y) = false ∧ decide (s < c) = true ∧ bor x (y + c) = 1) ∨ (decide (x < y) = false ∧ decide (s < c) = false ∧ bor x (y + c) = 0)) := by
  refine ⟨_, _, rfl, rfl, ?_, ?_⟩
  · rw [IntKind.wrap_u64, IntKind.wrap_u64]; unfold subLo; omega
  · rw [IntKind.wrap_u64]
    unfold bor
    simp only [decide_eq_true_eq, decide_eq_false_iff_not]
    split <;> omega
set_option maxHeartbeats 1000000 in
set_option maxRecDepth 100000 in
theorem sub_ref (a b : Nat) (ha : a < big) (hb : b < big) (w : World) :
    Calls Try.prog 12 #[N a, N b] w fun e w' => e = .returned (.tuple #[N ((a + big - b) % big), .bool (decide (a < b))]) ∧ Below w.heap.size w w' := by
  have hend := brw_end a b ha hb
  have HB : Hid (b < big) := hb
  have He : Hid ((brw a b 6 == 1) = decide (a < b)) := by
    show _ = _
    rw [← hend]
    have := brw_bd a b 6
    by_cases h : brw a b 6 = 0
    · rw [h]; rfl
    · rw [show brw a b 6 = 1 by omega]; rfl
  clear hend ha hb
  go_enter Try.func12, Try.ntmps12
  go_wp2
  go_loopw [7, 8] (fun c i wr => ∃ k : Nat, k ≤ 6 ∧ i = .int .i64 k ∧ c = .int .u64 (brw a b k) ∧ Row wr w.heap.size 6 (wd a) ∧ Row wr (w.heap.size + 1) 6 (wd b) ∧ Row wr (w.heap.size + 1 + 1) 6 (fun _ => 0) ∧ Row wr (w.heap.size + 1 + 1 + 1) 6 (part (a + big - b) k) ∧ Below w.heap.size w wr) (fun _ i _ => 6 - (intOf i).toNat)
  case atStart =>
    refine ⟨0, by omega, rfl, by simp [brw, Nat.mod_one], ?_, ?_, ?_, ?_, ?_⟩
    · exact (((Row.new w _ 24 rfl (six_lt rfl)).alloc (by simp <;> omega) _).alloc (by simp <;> omega) _).alloc (by simp <;> omega) _
    · exact ((Row.new _ _ 24 (by simp <;> omega) (six_lt rfl)).alloc (by simp <;> omega) _).alloc (by simp <;> omega) _
    · exact (Row.new _ _ 24 (by simp <;> omega) (six_lt (f := fun _ => 0) rfl)).alloc (by simp <;> omega) _
    · exact Row.new _ _ 24 (by simp <;> omega) (six_lt (f := part (a + big - b) 0) rfl)
    · exact ((((Below.refl _ _).alloc (Nat.le_refl _) _).alloc (by simp <;> omega) _).alloc (by simp <;> omega) _).alloc (by simp <;> omega) _
  case round =>
    obtain ⟨k, hk, rfl, rfl, hA, hB, hZ, hS, hw⟩ := hrel
    by_cases hlt : k < 6
    · obtain ⟨hc0, hc1⟩ := brw_bd a b k
      obtain ⟨ha0, ha1⟩ := wd_bd a k
      obtain ⟨hb0, hb1⟩ := wd_bd b k
      obtain ⟨s, t, hs, ht, htt, hcs⟩ := sub_two (wd a k) (wd b k) (brw a b k) ha0 ha1 hb0 hb1 hc0 hc1
      rw [sub_word a b k hlt HB.out] at htt
      rw [sub_cry] at hcs
      have HT : Hid (t = wd (a + big - b) k) := htt
      have hA1 := (hA k hlt).1
      have hB1 := (hB k hlt).1
      obtain ⟨hS1, hS2⟩ := hS k hlt
      have R1 : Hid (_ ∧ _ ∧ _ ∧ _ ∧ _) := ⟨hA, hB, hZ, hS, hw⟩
      clear hA hB hZ hS hw htt hc0 hc1 ha0 ha1 hb0 hb1
      rcases hcs with ⟨d1, d2, d3⟩ | ⟨d1, d2, d3⟩ | ⟨d1, d2, d3⟩
      all_goals
        have H3 : Hid _ := d3
        clear d3
        go_wp2
        go_region
        go_wp2
        go_region
        go_wp2
        go_roundw
        case rel =>
          obtain ⟨hA, hB, hZ, hS, hw⟩ := R1.out
          exact ⟨k + 1, by omega, by go_num, by rw [H3.out], (hA.set_other _ (by simp <;> omega)), (hB.set_other _ (by simp <;> omega)), (hZ.set_other _ (by simp <;> omega)), ((hS.set _).congr (fun j _ => part_step HT.out j)), (hw.drew.drew.setCell (by simp <;> omega) _)⟩
        case measure => simp [intOf]; omega
    · have hk6 : k = 6 := by omega
      subst hk6
      obtain ⟨s0, s1, s2, s3, s4, s5⟩ := (hS.congr (f' := wd ((a + big - b) % big)) (fun j hj => by rw [part_lt hj, wd_mod _ _ hj])).reads
      obtain ⟨z0, z1, z2, z3, z4, z5⟩ := hZ.writes
      obtain ⟨y0, y1, y2, y3, y4, y5⟩ := hZ.reads
      clear hA hB hZ hS
      go_wp2
      rw [He.out]
      exact bodyPost_ret (v := .tuple #[N ((a + big - b) % big), .bool (decide (a < b))]) (by simp [results, Try.results12, go_sem, *]) rfl ⟨rfl, (((((hw.setCell (by simp <;> omega) _).setCell (by simp <;> omega) _).setCell (by simp <;> omega) _).setCell (by simp <;> omega) _).setCell (by simp <;> omega) _).setCell (by simp <;> omega) _⟩
end Go.Proofs.Ytpcnhknkgiingaa
end
section
/- The document's own Shift. -/
namespace Go.Proofs.Ytpcnhknkgiingaa
open Go.RowKit

theorem bitv_tb (a i : Nat) : bitv a i = if a.testBit i = true then 1 else 0 := by
  unfold bitv
  rw [Nat.testBit_eq_decide_div_mod_eq]
  simp only [decide_eq_true_eq]
  split <;> omega
/-- The bits of a shifted number. -/
theorem shv_bit (a : Nat) (n : Int) (ha : a < big) (h : ¬ (384 ≤ n ∨ n ≤ -384)) (k : Nat) (hk : k < 384) : bitz a ((k : Int) - n) = bitv (shv a n) k := by
  unfold shv bitz
  rw [if_neg h]
  by_cases hn : n < 0
  · rw [if_pos hn]
    obtain ⟨m, rfl⟩ : ∃ m : Nat, n = -(m : Int) := ⟨(-n).toNat, by omega⟩
    rw [show (- -(m : Int)).toNat = m by omega]
    rw [bitv_tb (a / 2 ^ m), ← Nat.shiftRight_eq_div_pow, Nat.testBit_shiftRight]
    by_cases h2 : k + m < 384
    · rw [if_pos (by omega), bitv_tb, show ((k : Int) - -(m : Int)).toNat = m + k by omega]
    · rw [if_neg (by omega), Nat.testBit_lt_two_pow (Nat.lt_of_lt_of_le ha (big_le _ (by omega)))]
      rfl
  · rw [if_neg hn]
    obtain ⟨m, rfl⟩ : ∃ m : Nat, n = (m : Int) := ⟨n.toNat, by omega⟩
    obtain ⟨b, hb, e⟩ := big_pow
    rw [Int.toNat_natCast, bitv_tb (a * 2 ^ m % big), e, Nat.testBit_mod_two_pow, ← Nat.shiftLeft_eq, Nat.testBit_shiftLeft]
    by_cases h2 : m ≤ k
    · rw [if_pos (by omega), bitv_tb, show ((k : Int) - (m : Int)).toNat = k - m by omega]
      simp [show k < 64 * b by omega, h2]
    · rw [if_neg (by omega)]
      simp [h2]
theorem low_step (x k : Nat) : x % 2 ^ (k + 1) = x % 2 ^ k + (x / 2 ^ k % 2) * 2 ^ k := by
  rw [Nat.pow_succ, Nat.mod_mul, Nat.mul_comm (2 ^ k)]
theorem set_bit (V k j : Nat) (hV : V < 2 ^ k) : upd (wd V) (k / 64) (bits .or .u64 (wd V (k / 64)) (IntKind.u64.wrap (2 ^ (k % 64)))) j = wd (V + 2 ^ k) j := by
  have h1 := part_word V 1 k hV
  rw [show ((1 : Nat) : Int) * 2 ^ (k % 64) = 2 ^ (k % 64) by rw [show ((1 : Nat) : Int) = 1 from rfl, Int.one_mul], Nat.one_mul] at h1
  unfold upd
  by_cases h : j = k / 64
  · rw [if_pos h, h, h1]
  · rw [if_neg h]
    have h2 := part_other V 1 k 1 j hV (by decide) (by omega) h
    rw [Nat.one_mul] at h2
    exact h2.symm
set_option maxHeartbeats 1000000 in
set_option maxRecDepth 100000 in
theorem shift_ref_in (a : Nat) (n : Int) (ha : a < big) (h : ¬ (384 ≤ n ∨ n ≤ -384)) (w : World) :
    Calls Try.prog 20 #[N a, .int .i64 n] w fun e w' => e = .returned (N (shv a n)) ∧ Below w.heap.size w w' := by
  have d1 : decide (384 ≤ n) = false := decide_eq_false (by omega)
  have d2 : decide (n ≤ -384) = false := decide_eq_false (by omega)
  have CB : Hid _ := fun (k : Nat) (hk : k < 384) w => by
    have hh := bit_ref a ((k : Int) - n) w
    rw [shv_bit a n ha h k hk] at hh
    exact hh
  have HX : Hid (shv a n < big) := by
    show shv a n < big
    unfold shv
    split
    · exact big_pos
    · split
      · exact Nat.lt_of_le_of_lt (Nat.div_le_self _ _) ha
      · exact Nat.mod_lt _ big_pos
  have HN : Hid (-384 < n ∧ n < 384) := ⟨by omega, by omega⟩
  generalize shv a n = x at CB HX ⊢
  clear ha h
  go_enter Try.func20, Try.ntmps20
  go_wp2
  go_loopw [6] (fun i wr => ∃ k : Nat, k ≤ 384 ∧ i = .int .i64 k ∧ w.heap.size + 1 + 1 < wr.heap.size ∧ Rws wr [(w.heap.size, a)] ∧ Row wr (w.heap.size + 1) 6 (fun _ => 0) ∧ Row wr (w.heap.size + 1 + 1) 6 (wd (x % 2 ^ k)) ∧ Below w.heap.size w wr) (fun i _ => 384 - (intOf i).toNat)
  case atStart =>
    refine ⟨0, by omega, rfl, by simp, ?_, ?_, ?_, ?_⟩
    · exact (((Rws.nil w).alloc a rfl).below ((Below.refl _ _).alloc (Nat.le_refl _) _)).below ((Below.refl _ _).alloc (Nat.le_refl _) _)
    · exact (Row.new _ _ 24 (by simp) (six_lt (f := fun _ => 0) rfl)).alloc (by simp) _
    · exact (Row.new _ _ 24 (by simp) (six_lt (f := fun _ => 0) rfl)).congr (fun j _ => by rw [Nat.pow_zero, Nat.mod_one, wd_zero])
    · exact (((Below.refl _ _).alloc (Nat.le_refl _) _).alloc (by simp) _).alloc (by simp; omega) _
  case round =>
    obtain ⟨k, hk, rfl, hg, hR, hZ, hS, hw⟩ := hrel
    by_cases hlt : k < 384
    · obtain ⟨pa, a0, a1, a2, a3, a4, a5⟩ := hR.at (g := w.heap.size) (v := a) (by simp)
      have ew : IntKind.i64.wrap ((k : Int) - n) = (k : Int) - n := by have := HN.out; rw [IntKind.wrap_i64]; omega
      have HM : Hid (_ ∧ _ ∧ _ ∧ _ ∧ _) := ⟨hg, hR, hZ, hS, hw⟩
      clear hg hR hZ hS hw
      go_wp2_with fail
      refine (CB.out k hlt _).mono ?_
      rintro e wx ⟨rfl, hb⟩
      clear a0 a1 a2 a3 a4 a5 pa
      obtain ⟨hg, hR, hZ, hS, hw⟩ := HM.out
      have hR2 := hR.below hb
      have hZ2 := Row.below hb hZ (by omega)
      have hS2 := Row.below hb hS hg
      have hw2 := hw.trans (hb.mono hw.size)
      have hg2 := Nat.lt_of_lt_of_le hg hb.size
      clear hg hR hZ hS hw HM hb
      rcases Nat.mod_two_eq_zero_or_one (x / 2 ^ k) with hq | hq
      · have hb0 : bitv x k = 0 := by unfold bitv; rw [hq]; rfl
        have HQ : Hid (x % 2 ^ (k + 1) = x % 2 ^ k) := by show _ = _; rw [low_step, hq, Nat.zero_mul, Nat.add_zero]
        rw [hb0]
        have HM : Hid (_ ∧ _ ∧ _ ∧ _ ∧ _) := ⟨hg2, hR2, hZ2, hS2, hw2⟩
        clear hq hb0 hg2 hR2 hZ2 hS2 hw2
        go_wp2
        go_roundw
        case rel =>
          obtain ⟨hg, hR, hZ, hS, hw⟩ := HM.out
          exact ⟨k + 1, by omega, by go_num, hg, hR, hZ, hS.congr (fun j _ => by rw [HQ.out]), hw⟩
        case measure => simp [intOf] <;> omega
      · have hb0 : bitv x k = 1 := by unfold bitv; rw [hq]; rfl
        have HQ : Hid (x % 2 ^ (k + 1) = x % 2 ^ k + 2 ^ k) := by show _ = _; rw [low_step, hq, Nat.one_mul]
        rw [hb0]
        obtain ⟨hS3, hS4⟩ := hS2 (k / 64) (by omega)
        have HM : Hid (_ ∧ _ ∧ _ ∧ _ ∧ _) := ⟨hg2, hR2, hZ2, hS2, hw2⟩
        clear hq hb0 hg2 hR2 hZ2 hS2 hw2
        go_wp2
        go_region
        go_wp2
        go_roundw
        case rel =>
          obtain ⟨hg, hR, hZ, hS, hw⟩ := HM.out
          refine ⟨k + 1, by omega, by go_num, by simpa using hg, fun g v hm => ?_, (hZ.set_other _ (by simp <;> omega)).drew, ((hS.set _).congr (fun j _ => ?_)).drew, (hw.setCell (by simp <;> omega) _).drew⟩
          · obtain ⟨h1, h2⟩ := hR g v hm
            simp only [List.mem_singleton, Prod.mk.injEq] at hm
            exact ⟨by simpa using h1, (h2.set_other _ (by simp <;> omega)).drew⟩
          · rw [HQ.out]
            exact set_bit _ k j (Nat.mod_lt _ (Nat.two_pow_pos _))
        case measure => simp [intOf] <;> omega
    · have hk6 : k = 384 := by omega
      subst hk6
      rw [show ((384 : Nat) : Int) = 384 from rfl]
      have hx : x % 2 ^ 384 = x := Nat.mod_eq_of_lt (by
        have := HX.out
        obtain ⟨m, hm, e⟩ := big_pow
        rw [e, show 64 * m = 384 by omega] at this
        exact this)
      rw [hx] at hS
      obtain ⟨s0, s1, s2, s3, s4, s5⟩ := hS.reads
      obtain ⟨z0, z1, z2, z3, z4, z5⟩ := hZ.writes
      obtain ⟨y0, y1, y2, y3, y4, y5⟩ := hZ.reads
      have HW : Hid _ := hw
      clear hZ hS hw hR hx
      go_wp2
      refine bodyPost_ret (v := N x) ?_ rfl ⟨rfl, ?_⟩
      · simp [results, Try.results20, go_sem, *]
      · exact below6 HW.out (by omega) _ _ _ _ _ _
set_option maxHeartbeats 1000000 in
set_option maxRecDepth 100000 in
theorem shift_ref_none (a : Nat) (n : Int) (h : 384 ≤ n ∨ n ≤ -384) (w : World) :
    Calls Try.prog 20 #[N a, .int .i64 n] w fun e w' => e = .returned (N 0) ∧ Below w.heap.size w w' := by
  by_cases h1 : 384 ≤ n
  · have hd : decide (384 ≤ n) = true := decide_eq_true h1
    clear h
    go_enter Try.func20, Try.ntmps20
    go_wp2
    refine bodyPost_ret (v := N 0) ?_ rfl ⟨rfl, ?_⟩
    · simp [results, Try.results20, go_sem, wd_zero]
    · exact (((Below.refl _ _).alloc (Nat.le_refl _) _).alloc (by simp) _).alloc (by simp; omega) _
  · have h2 : n ≤ -384 := by omega
    have hd : decide (384 ≤ n) = false := decide_eq_false h1
    have hd2 : decide (n ≤ -384) = true := decide_eq_true h2
    clear h h1
    go_enter Try.func20, Try.ntmps20
    go_wp2
    refine bodyPost_ret (v := N 0) ?_ rfl ⟨rfl, ?_⟩
    · simp [results, Try.results20, go_sem, wd_zero]
    · exact (((Below.refl _ _).alloc (Nat.le_refl _) _).alloc (by simp) _).alloc (by simp; omega) _
theorem shift_ref (a : Nat) (n : Int) (ha : a < big) (w : World) :
    Calls Try.prog 20 #[N a, .int .i64 n] w fun e w' => e = .returned (N (shv a n)) ∧ Below w.heap.size w w' := by
  by_cases h : 384 ≤ n ∨ n ≤ -384
  · have := shift_ref_none a n h w
    unfold shv
    rw [if_pos h]
    exact this
  · exact shift_ref_in a n ha h w
end Go.Proofs.Ytpcnhknkgiingaa
end
section
/- Long division, bit by bit: the numbers. -/
namespace Go.Proofs.Ytpcnhknkgiingaa
open Go.RowKit

/-- What is left, and what went in, when the bits from k on have been taken. -/
def dvr (a b k : Nat) : Nat := a / 2 ^ k % b
def dvq (a b k : Nat) : Nat := a / 2 ^ k / b * 2 ^ k
theorem dv_step (a b i : Nat) (hb : 0 < b) : (b ≤ 2 * dvr a b (i + 1) + a / 2 ^ i % 2 ∧ dvr a b i = 2 * dvr a b (i + 1) + a / 2 ^ i % 2 - b ∧ dvq a b i = dvq a b (i + 1) + 2 ^ i) ∨
    (2 * dvr a b (i + 1) + a / 2 ^ i % 2 < b ∧ dvr a b i = 2 * dvr a b (i + 1) + a / 2 ^ i % 2 ∧ dvq a b i = dvq a b (i + 1)) := by
  have e1 : a / 2 ^ i = 2 * (a / 2 ^ (i + 1)) + a / 2 ^ i % 2 := by
    rw [Nat.pow_succ, ← Nat.div_div_eq_div_mul]; omega
  have e2 := Nat.div_add_mod (a / 2 ^ (i + 1)) b
  have e3 := Nat.mod_lt (a / 2 ^ (i + 1)) hb
  have e4 : a / 2 ^ i % 2 < 2 := Nat.mod_lt _ (by decide)
  unfold dvr dvq
  generalize a / 2 ^ (i + 1) = A at e1 e2 e3 ⊢
  generalize ha : a / 2 ^ i = A2 at e1 e4 ⊢
  generalize hq : A / b = q at e2 ⊢
  generalize hr : A % b = r at e2 e3 ⊢
  generalize A2 % 2 = e at e1 e4 ⊢
  have e5 : A2 = 2 * r + e + b * (2 * q) := by
    rw [show b * (2 * q) = 2 * (b * q) by rw [Nat.mul_left_comm]]; omega
  have e6 : q * 2 ^ (i + 1) = 2 * q * 2 ^ i := by rw [Nat.pow_succ, ← Nat.mul_assoc, Nat.mul_comm (q * 2 ^ i), ← Nat.mul_assoc]
  rcases Nat.lt_or_ge (2 * r + e) b with h | h
  · right
    rw [e5, Nat.add_mul_mod_self_left, Nat.mod_eq_of_lt h, Nat.add_mul_div_left _ _ hb, Nat.div_eq_of_lt h, Nat.zero_add, e6]
    exact ⟨h, rfl, rfl⟩
  · left
    have e7 : A2 = (2 * r + e - b) + b * (2 * q + 1) := by rw [e5, Nat.mul_add]; omega
    have e8 : 2 * r + e - b < b := by omega
    rw [e7, Nat.add_mul_mod_self_left, Nat.mod_eq_of_lt e8, Nat.add_mul_div_left _ _ hb, Nat.div_eq_of_lt e8, Nat.zero_add, e6, Nat.add_mul, Nat.one_mul]
    exact ⟨h, rfl, rfl⟩
theorem dvr_lt (a b k : Nat) (hb : 0 < b) : dvr a b k < b := Nat.mod_lt _ hb
theorem dv_start (a b m : Nat) (ha : a < 2 ^ m) : dvr a b m = 0 ∧ dvq a b m = 0 := by
  unfold dvr dvq
  rw [Nat.div_eq_of_lt ha, Nat.zero_mod, Nat.zero_div, Nat.zero_mul]
  exact ⟨rfl, rfl⟩
theorem dv_end (a b : Nat) : dvr a b 0 = a % b ∧ dvq a b 0 = a / b := by
  unfold dvr dvq
  simp
theorem dvq_or (a b i : Nat) : dvq a b (i + 1) + 2 ^ i = 2 ^ i ||| dvq a b (i + 1) := by
  unfold dvq
  have h := Nat.shiftLeft_add_eq_or_of_lt (b := 2 ^ i) (i := i + 1) (Nat.pow_lt_pow_right (by decide) (Nat.lt_succ_self i)) (a / 2 ^ (i + 1) / b)
  rw [Nat.shiftLeft_eq] at h
  rw [h, Nat.or_comm]
theorem or_other (V p j : Nat) (hj : j ≠ p / 64) : wd (2 ^ p ||| V) j = wd V j := by
  rw [wd_shr, wd_shr]
  congr 1
  apply Nat.eq_of_testBit_eq
  intro i
  simp only [Nat.testBit_or, Nat.testBit_mod_two_pow, Nat.testBit_shiftRight, Nat.testBit_two_pow]
  by_cases hi : i < 64
  · have : ¬ p = 64 * j + i := by omega
    simp [this]
  · simp [hi]
theorem or_word (V p : Nat) : bits .or .u64 (wd V (p / 64)) (IntKind.u64.wrap (2 ^ (p % 64))) = wd (2 ^ p ||| V) (p / 64) := by
  have h1 := part_bits V 1 p
  have h2 := wrap_shl 1 (p % 64)
  rw [show ((1 : Nat) : Int) * 2 ^ (p % 64) = 2 ^ (p % 64) by rw [show ((1 : Nat) : Int) = 1 from rfl, Int.one_mul]] at h2
  rw [h2, wd_shr, wd_shr, show 2 ^ p = 1 <<< p by rw [Nat.shiftLeft_eq, Nat.one_mul], ← h1]
  exact bits_or_u64_nat _ _ (Nat.mod_lt _ (by decide)) (Nat.mod_lt _ (by decide))
theorem set_or (V p j : Nat) : upd (wd V) (p / 64) (bits .or .u64 (wd V (p / 64)) (IntKind.u64.wrap (2 ^ (p % 64)))) j = wd (2 ^ p ||| V) j := by
  unfold upd
  by_cases h : j = p / 64
  · rw [if_pos h, h, or_word]
  · rw [if_neg h, or_other V p j h]
/-- The lowest bit laid into an even number. -/
theorem low_bit (r e : Nat) (he : e < 2) (j : Nat) : upd (wd ((r + r) % big)) 0 (bits .or .u64 (wd ((r + r) % big) 0) (e : Int)) j = wd ((r + r) % big + e) j := by
  have hev : (r + r) % big = ((r + r) % big / 2) * 2 ^ 1 := by
    have : (r + r) % big % 2 = 0 := by
      obtain ⟨n, hn, eb⟩ := big_pow
      rw [eb, show 64 * n = 64 * n - 1 + 1 by omega, Nat.pow_succ, Nat.mod_mul_left_mod]
      omega
    omega
  generalize (r + r) % big / 2 = d at hev
  rw [hev]
  have hor : d * 2 ^ 1 + e = d <<< 1 ||| e := by
    rw [← Nat.shiftLeft_eq, Nat.shiftLeft_add_eq_or_of_lt (by omega)]
  rw [hor, ← Nat.shiftLeft_eq]
  unfold upd
  by_cases h : j = 0
  · subst h
    rw [if_pos rfl]
    rw [wd_shr, wd_shr]
    have e1 : (d <<< 1 ||| e) >>> (64 * 0) % 2 ^ 64 = (d <<< 1 >>> (64 * 0) % 2 ^ 64) ||| e := by
      apply Nat.eq_of_testBit_eq
      intro i
      simp only [Nat.testBit_or, Nat.testBit_mod_two_pow, Nat.testBit_shiftRight]
      by_cases hi : i < 64
      · simp [hi]
      · have : e.testBit i = false := Nat.testBit_lt_two_pow (Nat.lt_of_lt_of_le he (by
          calc 2 = 2 ^ 1 := rfl
            _ ≤ 2 ^ i := Nat.pow_le_pow_right (by decide) (by omega)))
        simp [hi, this]
    rw [e1]
    exact bits_or_u64_nat _ _ (Nat.mod_lt _ (by decide)) (by omega)
  · rw [if_neg h, wd_shr, wd_shr]
    congr 1
    apply Nat.eq_of_testBit_eq
    intro i
    simp only [Nat.testBit_or, Nat.testBit_mod_two_pow, Nat.testBit_shiftRight]
    have : e.testBit (64 * j + i) = false := Nat.testBit_lt_two_pow (Nat.lt_of_lt_of_le he (by
      calc 2 = 2 ^ 1 := rfl
        _ ≤ 2 ^ (64 * j + i) := Nat.pow_le_pow_right (by decide) (by omega)))
    simp [this]
/-- The top bit. -/
theorem top_one (r : Nat) (hr : r < big) : (wd r 5 / 9223372036854775808 == 1) = decide (big ≤ 2 * r) := by
  obtain ⟨n, hn, eb⟩ := big_pow
  obtain ⟨m, hm⟩ : ∃ m : Nat, m = 5 := ⟨5, rfl⟩
  rw [eb] at hr ⊢
  rw [← hm]
  have e0 : (18446744073709551616 : Nat) = 2 ^ 64 := by decide
  have e2 : 2 ^ (64 * n) = 2 ^ (64 * m) * 18446744073709551616 := by
    rw [e0, ← Nat.pow_add, show 64 * m + 64 = 64 * n by omega]
  rw [e2] at hr ⊢
  have e1 : r / 2 ^ (64 * m) < 18446744073709551616 := Nat.div_lt_of_lt_mul hr
  unfold wd
  rw [Nat.mod_eq_of_lt e1]
  have h1 := Nat.div_add_mod r (2 ^ (64 * m))
  have h2 := Nat.mod_lt r (Nat.two_pow_pos (64 * m))
  clear e0 e2 eb hn hr
  generalize hA : r / 2 ^ (64 * m) = A at h1 e1 ⊢
  generalize r % 2 ^ (64 * m) = B at h1 h2
  generalize 2 ^ (64 * m) = M at h1 h2 ⊢
  have hi : ((A : Nat) : Int) / 9223372036854775808 = ((A / 9223372036854775808 : Nat) : Int) := by omega
  rw [hi]
  obtain ⟨H, hH⟩ : ∃ H : Nat, H = 9223372036854775808 := ⟨_, rfl⟩
  have hH2 : 18446744073709551616 = 2 * H := by omega
  rw [hH2, ← hH, Nat.mul_left_comm]
  by_cases c : H ≤ A
  · have hd : A / H = 1 := by rw [hH]; omega
    have hm : M * H ≤ M * A := Nat.mul_le_mul_left _ c
    rw [hd, decide_eq_true (by omega)]
    rfl
  · have hd : A / H = 0 := Nat.div_eq_of_lt (by omega)
    have hm : M * (A + 1) ≤ M * H := Nat.mul_le_mul_left _ (by omega)
    rw [Nat.mul_add, Nat.mul_one] at hm
    rw [hd, decide_eq_false (by omega)]
    rfl
end Go.Proofs.Ytpcnhknkgiingaa
end
