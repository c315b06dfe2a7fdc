/- D0, D1, D2, D3, A30, D4, D5, B2, D6, D7, D8, D9 in one text -/
import Derived.Test.YtkfannhbnbgloaaDoorA19
import Derived.Test.YtkfannhbnbgloaaDoorA31
import Derived.Test.YtkfannhbnbgloaaDoorA8
import Derived.Test.YtkfannhbnbgloaaDoorC0
import Derived.BigRegion
import Derived.Test.YtkfannhbnbgloaaDoorA2
import Derived.Test.YtkfannhbnbgloaaDoorA6
import Derived.Laws.Bits64b
import Derived.Test.YtkfannhbnbgloaaDoorA11
import Derived.Test.YtkfannhbnbgloaaDoorA5
/- The document's own Of and Bit, and words.Bit at any place. -/
namespace Go.Proofs.YtkfannhbnbgloaaDoor
open Go.RowKit

set_option maxHeartbeats 400000 in
set_option maxRecDepth 100000 in
theorem bit_ref_in (a i : Nat) (hi : i < 384) (w : World) :
    Calls Tryd.prog 44 #[N a, .int .i64 i] w fun e w' => e = .returned (.int .i64 (bitv a i)) ∧ Below w.heap.size w w' := by
  have d0 : decide ((i : Int) < 0) = false := decide_eq_false (by omega)
  have d1 : decide ((383 : Int) < i) = false := decide_eq_false (by omega)
  have hA : Row (w.alloc (.cells #[.int .u64 (wd a 0), .int .u64 (wd a 1), .int .u64 (wd a 2), .int .u64 (wd a 3), .int .u64 (wd a 4), .int .u64 (wd a 5)] 24)) w.heap.size 6 (wd a) := Row.new w _ 24 rfl (six_lt rfl)
  have hA1 := (hA (i / 64) (by omega)).1
  clear hA
  go_enter Tryd.func44, Tryd.ntmps44
  go_wp2
  rw [bitv_word, show wrap64 (bitv a i) = bitv a i by have := bitv_bd a i; unfold wrap64; omega]
  go_ret
  exact ⟨rfl, (Below.refl _ _).alloc (Nat.le_refl _) _⟩
/-- Bit i of a number, at any place. -/
def bitz (a : Nat) (i : Int) : Int := if 0 ≤ i ∧ i < 384 then bitv a i.toNat else 0
set_option maxHeartbeats 400000 in
set_option maxRecDepth 100000 in
theorem bit_any (a : Nat) (i : Int) (w : World) :
    Calls Tryd.prog 52 #[N a, .int .i64 i] w fun e w' => e = .returned (.int .i64 (bitz a i)) ∧ Below w.heap.size w w' := by
  unfold bitz
  by_cases h : 0 ≤ i ∧ i < 384
  · obtain ⟨n, rfl⟩ := Int.eq_ofNat_of_zero_le h.1
    rw [if_pos h]
    exact bit_in a n (by omega) w
  · rw [if_neg h]
    by_cases h0 : i < 0
    · have d0 : decide (i < 0) = true := decide_eq_true h0
      go_enter Tryd.func52, Tryd.ntmps52
      go_wp2
      go_ret
      exact ⟨rfl, (Below.refl _ _).alloc (Nat.le_refl _) _⟩
    · have d0 : decide (i < 0) = false := decide_eq_false h0
      have d1 : decide ((384 : Int) ≤ i) = true := decide_eq_true (by omega)
      go_enter Tryd.func52, Tryd.ntmps52
      go_wp2
      go_ret
      exact ⟨rfl, (Below.refl _ _).alloc (Nat.le_refl _) _⟩
set_option maxHeartbeats 400000 in
set_option maxRecDepth 100000 in
theorem bit_ref (a : Nat) (i : Int) (w : World) :
    Calls Tryd.prog 44 #[N a, .int .i64 i] w fun e w' => e = .returned (.int .i64 (bitz a i)) ∧ Below w.heap.size w w' := by
  unfold bitz
  by_cases h : 0 ≤ i ∧ i < 384
  · obtain ⟨n, rfl⟩ := Int.eq_ofNat_of_zero_le h.1
    rw [if_pos h]
    exact bit_ref_in a n (by omega) w
  · rw [if_neg h]
    by_cases h0 : i < 0
    · have d0 : decide (i < 0) = true := decide_eq_true h0
      go_enter Tryd.func44, Tryd.ntmps44
      go_wp2
      go_ret
      exact ⟨rfl, (Below.refl _ _).alloc (Nat.le_refl _) _⟩
    · have d0 : decide (i < 0) = false := decide_eq_false h0
      have d1 : decide ((383 : Int) < i) = true := decide_eq_true (by omega)
      go_enter Tryd.func44, Tryd.ntmps44
      go_wp2
      go_ret
      exact ⟨rfl, (Below.refl _ _).alloc (Nat.le_refl _) _⟩
theorem call46 : ∀ args w, (callFunc 46 args).run Tryd.prog w = .ok (.enter 46 args) w := by intro args w; go_simp
theorem call47 : ∀ args w, (callFunc 47 args).run Tryd.prog w = .ok (.enter 47 args) w := by intro args w; go_simp
theorem call38 : ∀ args w, (callFunc 38 args).run Tryd.prog w = .ok (.enter 38 args) w := by intro args w; go_simp
theorem call48 : ∀ args w, (callFunc 48 args).run Tryd.prog w = .ok (.enter 48 args) w := by intro args w; go_simp
theorem call42 : ∀ args w, (callFunc 42 args).run Tryd.prog w = .ok (.enter 42 args) w := by intro args w; go_simp
theorem call44 : ∀ args w, (callFunc 44 args).run Tryd.prog w = .ok (.enter 44 args) w := by intro args w; go_simp
theorem call37 : ∀ args w, (callFunc 37 args).run Tryd.prog w = .ok (.enter 37 args) w := by intro args w; go_simp
theorem call65 : ∀ args w, (callFunc 65 args).run Tryd.prog w = .ok (.enter 65 args) w := by intro args w; go_simp
end Go.Proofs.YtkfannhbnbgloaaDoor
/- The document's own Compare and Len. -/
namespace Go.Proofs.YtkfannhbnbgloaaDoor
open Go.RowKit

theorem high_step (a k : Nat) : ((a / 2 ^ (64 * k) : Nat) : Int) = wd a k + 18446744073709551616 * ((a / 2 ^ (64 * (k + 1)) : Nat) : Int) := by
  unfold wd
  rw [pow_step, ← Nat.div_div_eq_div_mul]
  omega
theorem high_none (a : Nat) (ha : a < big) : a / 2 ^ (64 * 6) = 0 := by
  rw [← big_eq]; exact Nat.div_eq_of_lt ha
theorem lt_of_high {a b k : Nat} (h : a / 2 ^ (64 * k) < b / 2 ^ (64 * k)) : a < b := by
  rcases Nat.lt_or_ge a b with h' | h'
  · exact h'
  · have := Nat.div_le_div_right (c := 2 ^ (64 * k)) h'
    omega
set_option maxHeartbeats 1000000 in
set_option maxRecDepth 100000 in
theorem compare_ref (a b : Nat) (ha : a < big) (hb : b < big) (w : World) :
    Calls Tryd.prog 38 #[N a, N b] w fun e w' => e = .returned (.int .i64 (cmpv a b)) ∧ Below w.heap.size w w' := by
  have HA : Hid (a < big ∧ b < big) := ⟨ha, hb⟩
  clear ha hb
  go_enter Tryd.func38, Tryd.ntmps38
  go_wp2
  go_loopw [5] (fun i wr => ∃ k : Nat, k ≤ 6 ∧ i = .int .i64 ((k : Int) - 1) ∧ a / 2 ^ (64 * k) = b / 2 ^ (64 * k) ∧ Row wr w.heap.size 6 (wd a) ∧ Row wr (w.heap.size + 1) 6 (wd b) ∧ Below w.heap.size w wr) (fun i _ => (RowKit.intOf i + 1).toNat)
  case atStart =>
    refine ⟨6, by omega, rfl, ?_, (Row.new w _ 24 rfl (six_lt rfl)).alloc (by simp) _, Row.new _ _ 24 (by simp) (six_lt rfl), ((Below.refl _ _).alloc (Nat.le_refl _) _).alloc (by simp) _⟩
    rw [high_none a HA.out.1, high_none b HA.out.2]
  case round =>
    obtain ⟨k, hk, rfl, hz, hA, hB, hw⟩ := hrel
    have HZ : Hid _ := hz
    clear hz
    by_cases h0 : 1 ≤ k
    · obtain ⟨i, rfl⟩ : ∃ i, k = i + 1 := ⟨k - 1, by omega⟩
      rw [show (((i + 1 : Nat) : Int) - 1) = (i : Int) by omega]
      have hA1 := (hA i (by omega)).1
      have hB1 := (hB i (by omega)).1
      have HR : Hid (_ ∧ _ ∧ _) := ⟨hA, hB, hw⟩
      clear hA hB hw
      by_cases hx : wd a i < wd b i
      · have d1 : decide (wd a i < wd b i) = true := decide_eq_true hx
        have hfin : Hid (cmpv a b = -1) := by
          have h1 := high_step a i
          have h2 := high_step b i
          rw [HZ.out] at h1
          have h3 : a < b := lt_of_high (k := i) (by omega)
          show cmpv a b = -1
          unfold cmpv
          rw [if_neg (by omega), if_pos h3]
        clear hx
        go_wp2
        go_region
        go_wp2
        go_ret
        refine ⟨?_, HR.out.2.2.drew⟩
        rw [hfin.out]
        rfl
      · have d1 : decide (wd a i < wd b i) = false := decide_eq_false hx
        by_cases hy : wd b i < wd a i
        · have d2 : decide (wd b i < wd a i) = true := decide_eq_true hy
          have hfin : Hid (cmpv a b = 1) := by
            have h1 := high_step a i
            have h2 := high_step b i
            rw [HZ.out] at h1
            have h3 : b < a := lt_of_high (k := i) (by omega)
            show cmpv a b = 1
            unfold cmpv
            rw [if_neg (by omega), if_neg (by omega)]
          clear hx hy
          go_wp2
          go_region
          go_wp2
          go_region
          go_wp2
          go_ret
          refine ⟨?_, HR.out.2.2.drew.drew⟩
          rw [hfin.out]
          rfl
        · have d2 : decide (wd b i < wd a i) = false := decide_eq_false hy
          have HE : Hid (wd a i = wd b i) := (by omega : wd a i = wd b i)
          clear hx hy
          go_wp2
          go_region
          go_wp2
          go_region
          go_wp2
          go_roundw
          case rel =>
            obtain ⟨hA, hB, hw⟩ := HR.out
            refine ⟨i, by omega, by go_num, ?_, hA.drew.drew, hB.drew.drew, hw.drew.drew⟩
            have h1 := high_step a i
            have h2 := high_step b i
            rw [HZ.out] at h1
            have h3 := HE.out
            omega
          case measure => simp [RowKit.intOf] <;> omega
    · have hk0 : k = 0 := by omega
      subst hk0
      rw [show (((0 : Nat) : Int) - 1) = -1 from rfl]
      have hfin : Hid (cmpv a b = 0) := by
        have h1 := HZ.out
        simp only [Nat.mul_zero, Nat.pow_zero, Nat.div_one] at h1
        show cmpv a b = 0
        unfold cmpv
        rw [if_pos h1]
      clear hA hB HZ
      go_wp2
      go_ret
      refine ⟨?_, hw⟩
      rw [hfin.out]
      rfl
theorem top_bit (a i : Nat) (h : a < 2 ^ (i + 1)) : (bitv a i = 1 ∧ bl a = i + 1) ∨ (bitv a i = 0 ∧ a < 2 ^ i) := by
  unfold bitv
  have h1 : a / 2 ^ i < 2 := by
    rw [Nat.div_lt_iff_lt_mul (Nat.two_pow_pos _), Nat.mul_comm, ← Nat.pow_succ]
    exact h
  rcases Nat.lt_or_ge a (2 ^ i) with h2 | h2
  · right
    rw [Nat.div_eq_of_lt h2]
    exact ⟨rfl, h2⟩
  · left
    have h3 := Nat.div_pos h2 (Nat.two_pow_pos i)
    exact ⟨by omega, bl_unique a i h2 h⟩
set_option maxHeartbeats 1000000 in
set_option maxRecDepth 100000 in
theorem len_ref (a : Nat) (ha : a < big) (w : World) :
    Calls Tryd.prog 37 #[N a] w fun e w' => e = .returned (.int .i64 (bl a)) ∧ Below w.heap.size w w' := by
  have CB : Hid _ := fun i hi w => bit_ref_in a i hi w
  have HA : Hid (a < 2 ^ 384) := by
    obtain ⟨n, hn, e⟩ := big_pow
    show a < 2 ^ 384
    rw [e, show 64 * n = 384 by omega] at ha
    exact ha
  clear ha
  go_enter Tryd.func37, Tryd.ntmps37
  go_wp2
  go_loopw [3] (fun i wr => ∃ k : Nat, k ≤ 384 ∧ i = .int .i64 ((k : Int) - 1) ∧ a < 2 ^ k ∧ Rws wr [(w.heap.size, a)] ∧ Below w.heap.size w wr) (fun i _ => (RowKit.intOf i + 1).toNat)
  case atStart =>
    exact ⟨384, by omega, rfl, HA.out, (Rws.nil w).alloc a rfl, (Below.refl _ _).alloc (Nat.le_refl _) _⟩
  case round =>
    obtain ⟨k, hk, rfl, hz, hR, hw⟩ := hrel
    have HZ : Hid _ := hz
    clear hz HA
    by_cases h0 : 1 ≤ k
    · obtain ⟨i, rfl⟩ : ∃ i, k = i + 1 := ⟨k - 1, by omega⟩
      rw [show (((i + 1 : Nat) : Int) - 1) = (i : Int) by omega]
      obtain ⟨pa, a0, a1, a2, a3, a4, a5⟩ := hR.at (g := w.heap.size) (v := a) (by simp)
      have HR : Hid (_ ∧ _) := ⟨hR, hw⟩
      clear hR hw
      go_wp2_with fail
      refine (CB.out i (by omega) _).mono ?_
      rintro e wx ⟨rfl, hb⟩
      rcases top_bit a i HZ.out with ⟨h1, h2⟩ | ⟨h1, h2⟩
      · rw [h1]
        have H2 : Hid (bl a = i + 1) := h2
        clear h1 h2
        go_wp2
        go_ret
        refine ⟨?_, HR.out.2.trans (hb.mono HR.out.2.size)⟩
        rw [H2.out]
        refine congrArg Ending.returned (congrArg (Value.int IntKind.i64) ?_)
        omega
      · rw [h1]
        have H2 : Hid (a < 2 ^ i) := h2
        clear h1 h2
        go_wp2
        go_roundw
        case rel => exact ⟨i, by omega, by go_num, H2.out, HR.out.1.below hb, HR.out.2.trans (hb.mono HR.out.2.size)⟩
        case measure => simp [RowKit.intOf] <;> omega
    · have hk0 : k = 0 := by omega
      subst hk0
      rw [show (((0 : Nat) : Int) - 1) = -1 from rfl]
      have hfin : Hid (bl a = 0) := by
        have h1 := HZ.out
        have : a = 0 := by simpa using h1
        show bl a = 0
        rw [this]; rfl
      clear HZ hR
      go_wp2
      go_ret
      refine ⟨?_, hw⟩
      rw [hfin.out]
      rfl
end Go.Proofs.YtkfannhbnbgloaaDoor
/- The document's own Add and Sub. -/
namespace Go.Proofs.YtkfannhbnbgloaaDoor
open Go.RowKit

/-- A sum by halves of the carry. -/
theorem add_two (x y c : Int) (hx0 : 0 ≤ x) (hx1 : x < 18446744073709551616) (hy0 : 0 ≤ y) (hy1 : y < 18446744073709551616) (hc0 : 0 ≤ c) (hc1 : c ≤ 1) :
    ∃ s t : Int, IntKind.u64.wrap (x + y) = s ∧ IntKind.u64.wrap (s + c) = t ∧ t = addLo x y c ∧
      ((decide (s < x) = true ∧ decide (t < s) = false ∧ addHi x y c = 1) ∨ (decide (s < x) = false ∧ decide (t < s) = true ∧ addHi x y c = 1) ∨ (decide (s < x) = false ∧ decide (t < s) = false ∧ addHi x y c = 0)) := by
  refine ⟨_, _, rfl, rfl, ?_, ?_⟩
  · rw [IntKind.wrap_u64, IntKind.wrap_u64]; unfold addLo; omega
  · rw [IntKind.wrap_u64, IntKind.wrap_u64]
    unfold addHi
    simp only [decide_eq_true_eq, decide_eq_false_iff_not]
    omega
set_option maxHeartbeats 1000000 in
set_option maxRecDepth 100000 in
theorem add_ref (a b : Nat) (ha : a < big) (hb : b < big) (w : World) :
    Calls Tryd.prog 46 #[N a, N b] w fun e w' => e = .returned (.tuple #[N ((a + b) % big), .bool (decide (big ≤ a + b))]) ∧ Below w.heap.size w w' := by
  have hend := cry_end a b ha hb
  have He : Hid ((cry a b 6 == 1) = decide (big ≤ a + b)) := by
    show _ = _
    rw [← hend]
    have := cry_bd a b 6
    by_cases h : cry a b 6 = 0
    · rw [h]; rfl
    · rw [show cry a b 6 = 1 by omega]; rfl
  clear hend ha hb
  go_enter Tryd.func46, Tryd.ntmps46
  go_wp2
  go_loopw [7, 8] (fun c i wr => ∃ k : Nat, k ≤ 6 ∧ i = .int .i64 k ∧ c = .int .u64 (cry a b k) ∧ Row wr w.heap.size 6 (wd a) ∧ Row wr (w.heap.size + 1) 6 (wd b) ∧ Row wr (w.heap.size + 1 + 1) 6 (fun _ => 0) ∧ Row wr (w.heap.size + 1 + 1 + 1) 6 (part (a + b) k) ∧ Below w.heap.size w wr) (fun _ i _ => 6 - (intOf i).toNat)
  case atStart =>
    refine ⟨0, by omega, rfl, by simp [cry], ?_, ?_, ?_, ?_, ?_⟩
    · exact (((Row.new w _ 24 rfl (six_lt rfl)).alloc (by simp <;> omega) _).alloc (by simp <;> omega) _).alloc (by simp <;> omega) _
    · exact ((Row.new _ _ 24 (by simp <;> omega) (six_lt rfl)).alloc (by simp <;> omega) _).alloc (by simp <;> omega) _
    · exact (Row.new _ _ 24 (by simp <;> omega) (six_lt (f := fun _ => 0) rfl)).alloc (by simp <;> omega) _
    · exact Row.new _ _ 24 (by simp <;> omega) (six_lt (f := part (a + b) 0) rfl)
    · exact ((((Below.refl _ _).alloc (Nat.le_refl _) _).alloc (by simp <;> omega) _).alloc (by simp <;> omega) _).alloc (by simp <;> omega) _
  case round =>
    obtain ⟨k, hk, rfl, rfl, hA, hB, hZ, hS, hw⟩ := hrel
    by_cases hlt : k < 6
    · obtain ⟨hc0, hc1⟩ := cry_bd a b k
      obtain ⟨ha0, ha1⟩ := wd_bd a k
      obtain ⟨hb0, hb1⟩ := wd_bd b k
      obtain ⟨s, t, hs, ht, htt, hcs⟩ := add_two (wd a k) (wd b k) (cry a b k) ha0 ha1 hb0 hb1 hc0 hc1
      rw [add_word] at htt
      rw [add_cry] at hcs
      have HT : Hid (t = wd (a + b) k) := htt
      have hA1 := (hA k hlt).1
      have hB1 := (hB k hlt).1
      obtain ⟨hS1, hS2⟩ := hS k hlt
      have R1 : Hid (_ ∧ _ ∧ _ ∧ _ ∧ _) := ⟨hA, hB, hZ, hS, hw⟩
      clear hA hB hZ hS hw htt hc0 hc1 ha0 ha1 hb0 hb1
      rcases hcs with ⟨d1, d2, d3⟩ | ⟨d1, d2, d3⟩ | ⟨d1, d2, d3⟩
      all_goals
        have H3 : Hid _ := d3
        clear d3
        go_wp2
        go_region
        go_wp2
        go_roundw
        case rel =>
          obtain ⟨hA, hB, hZ, hS, hw⟩ := R1.out
          exact ⟨k + 1, by omega, by go_num, by rw [H3.out], (hA.set_other _ (by simp <;> omega)), (hB.set_other _ (by simp <;> omega)), (hZ.set_other _ (by simp <;> omega)), ((hS.set _).congr (fun j _ => part_step HT.out j)), (hw.drew.setCell (by simp <;> omega) _)⟩
        case measure => simp [intOf]; omega
    · have hk6 : k = 6 := by omega
      subst hk6
      obtain ⟨s0, s1, s2, s3, s4, s5⟩ := (hS.congr (f' := wd ((a + b) % big)) (fun j hj => by rw [part_lt hj, wd_mod _ _ hj])).reads
      obtain ⟨z0, z1, z2, z3, z4, z5⟩ := hZ.writes
      obtain ⟨y0, y1, y2, y3, y4, y5⟩ := hZ.reads
      clear hA hB hZ hS
      go_wp2
      rw [He.out]
      exact bodyPost_ret (v := .tuple #[N ((a + b) % big), .bool (decide (big ≤ a + b))]) (by simp [results, Tryd.results46, go_sem, *]) rfl ⟨rfl, (((((hw.setCell (by simp <;> omega) _).setCell (by simp <;> omega) _).setCell (by simp <;> omega) _).setCell (by simp <;> omega) _).setCell (by simp <;> omega) _).setCell (by simp <;> omega) _⟩
end Go.Proofs.YtkfannhbnbgloaaDoor
/- The document's own Sub. -/
namespace Go.Proofs.YtkfannhbnbgloaaDoor
open Go.RowKit

theorem sub_two (x y c : Int) (hx0 : 0 ≤ x) (hx1 : x < 18446744073709551616) (hy0 : 0 ≤ y) (hy1 : y < 18446744073709551616) (hc0 : 0 ≤ c) (hc1 : c ≤ 1) :
    ∃ s t : Int, IntKind.u64.wrap (x - y) = s ∧ IntKind.u64.wrap (s - c) = t ∧ t = subLo x y c ∧
      ((decide (x < y) = true ∧ decide (s < c) = false ∧ bor x (y + c) = 1) ∨ (decide (x < y) = false ∧ decide (s < c) = true ∧ bor x (y + c) = 1) ∨ (decide (x < y) = false ∧ decide (s < c) = false ∧ bor x (y + c) = 0)) := by
  refine ⟨_, _, rfl, rfl, ?_, ?_⟩
  · rw [IntKind.wrap_u64, IntKind.wrap_u64]; unfold subLo; omega
  · rw [IntKind.wrap_u64]
    unfold bor
    simp only [decide_eq_true_eq, decide_eq_false_iff_not]
    split <;> omega
set_option maxHeartbeats 1000000 in
set_option maxRecDepth 100000 in
theorem sub_ref (a b : Nat) (ha : a < big) (hb : b < big) (w : World) :
    Calls Tryd.prog 47 #[N a, N b] w fun e w' => e = .returned (.tuple #[N ((a + big - b) % big), .bool (decide (a < b))]) ∧ Below w.heap.size w w' := by
  have hend := brw_end a b ha hb
  have HB : Hid (b < big) := hb
  have He : Hid ((brw a b 6 == 1) = decide (a < b)) := by
    show _ = _
    rw [← hend]
    have := brw_bd a b 6
    by_cases h : brw a b 6 = 0
    · rw [h]; rfl
    · rw [show brw a b 6 = 1 by omega]; rfl
  clear hend ha hb
  go_enter Tryd.func47, Tryd.ntmps47
  go_wp2
  go_loopw [7, 8] (fun c i wr => ∃ k : Nat, k ≤ 6 ∧ i = .int .i64 k ∧ c = .int .u64 (brw a b k) ∧ Row wr w.heap.size 6 (wd a) ∧ Row wr (w.heap.size + 1) 6 (wd b) ∧ Row wr (w.heap.size + 1 + 1) 6 (fun _ => 0) ∧ Row wr (w.heap.size + 1 + 1 + 1) 6 (part (a + big - b) k) ∧ Below w.heap.size w wr) (fun _ i _ => 6 - (intOf i).toNat)
  case atStart =>
    refine ⟨0, by omega, rfl, by simp [brw, Nat.mod_one], ?_, ?_, ?_, ?_, ?_⟩
    · exact (((Row.new w _ 24 rfl (six_lt rfl)).alloc (by simp <;> omega) _).alloc (by simp <;> omega) _).alloc (by simp <;> omega) _
    · exact ((Row.new _ _ 24 (by simp <;> omega) (six_lt rfl)).alloc (by simp <;> omega) _).alloc (by simp <;> omega) _
    · exact (Row.new _ _ 24 (by simp <;> omega) (six_lt (f := fun _ => 0) rfl)).alloc (by simp <;> omega) _
    · exact Row.new _ _ 24 (by simp <;> omega) (six_lt (f := part (a + big - b) 0) rfl)
    · exact ((((Below.refl _ _).alloc (Nat.le_refl _) _).alloc (by simp <;> omega) _).alloc (by simp <;> omega) _).alloc (by simp <;> omega) _
  case round =>
    obtain ⟨k, hk, rfl, rfl, hA, hB, hZ, hS, hw⟩ := hrel
    by_cases hlt : k < 6
    · obtain ⟨hc0, hc1⟩ := brw_bd a b k
      obtain ⟨ha0, ha1⟩ := wd_bd a k
      obtain ⟨hb0, hb1⟩ := wd_bd b k
      obtain ⟨s, t, hs, ht, htt, hcs⟩ := sub_two (wd a k) (wd b k) (brw a b k) ha0 ha1 hb0 hb1 hc0 hc1
      rw [sub_word a b k hlt HB.out] at htt
      rw [sub_cry] at hcs
      have HT : Hid (t = wd (a + big - b) k) := htt
      have hA1 := (hA k hlt).1
      have hB1 := (hB k hlt).1
      obtain ⟨hS1, hS2⟩ := hS k hlt
      have R1 : Hid (_ ∧ _ ∧ _ ∧ _ ∧ _) := ⟨hA, hB, hZ, hS, hw⟩
      clear hA hB hZ hS hw htt hc0 hc1 ha0 ha1 hb0 hb1
      rcases hcs with ⟨d1, d2, d3⟩ | ⟨d1, d2, d3⟩ | ⟨d1, d2, d3⟩
      all_goals
        have H3 : Hid _ := d3
        clear d3
        go_wp2
        go_region
        go_wp2
        go_region
        go_wp2
        go_roundw
        case rel =>
          obtain ⟨hA, hB, hZ, hS, hw⟩ := R1.out
          exact ⟨k + 1, by omega, by go_num, by rw [H3.out], (hA.set_other _ (by simp <;> omega)), (hB.set_other _ (by simp <;> omega)), (hZ.set_other _ (by simp <;> omega)), ((hS.set _).congr (fun j _ => part_step HT.out j)), (hw.drew.drew.setCell (by simp <;> omega) _)⟩
        case measure => simp [intOf]; omega
    · have hk6 : k = 6 := by omega
      subst hk6
      obtain ⟨s0, s1, s2, s3, s4, s5⟩ := (hS.congr (f' := wd ((a + big - b) % big)) (fun j hj => by rw [part_lt hj, wd_mod _ _ hj])).reads
      obtain ⟨z0, z1, z2, z3, z4, z5⟩ := hZ.writes
      obtain ⟨y0, y1, y2, y3, y4, y5⟩ := hZ.reads
      clear hA hB hZ hS
      go_wp2
      rw [He.out]
      exact bodyPost_ret (v := .tuple #[N ((a + big - b) % big), .bool (decide (a < b))]) (by simp [results, Tryd.results47, go_sem, *]) rfl ⟨rfl, (((((hw.setCell (by simp <;> omega) _).setCell (by simp <;> omega) _).setCell (by simp <;> omega) _).setCell (by simp <;> omega) _).setCell (by simp <;> omega) _).setCell (by simp <;> omega) _⟩
end Go.Proofs.YtkfannhbnbgloaaDoor
/- Plain arithmetic of bytes. -/
namespace Go.Proofs.YtkfannhbnbgloaaDoor
open Go.RowKit

/-- Byte k of a number, the lowest first. -/
def bt (a k : Nat) : Nat := a / 2 ^ (8 * k) % 256
theorem bt_lt (a k : Nat) : bt a k < 256 := Nat.mod_lt _ (by decide)
theorem bt_bits (a k : Nat) : ((a >>> (64 * (k / 8)) % 2 ^ 64) >>> (8 * (k % 8))) % 2 ^ 8 = a >>> (8 * k) % 2 ^ 8 := by
  apply Nat.eq_of_testBit_eq
  intro i
  simp only [Nat.testBit_mod_two_pow, Nat.testBit_shiftRight]
  by_cases hi : i < 8
  · have e1 : 8 * (k % 8) + i < 64 := by omega
    have e2 : 64 * (k / 8) + (8 * (k % 8) + i) = 8 * k + i := by omega
    simp [hi, e1, e2]
  · simp [hi]
theorem bt_word (a k : Nat) : IntKind.u8.wrap (wd a (k / 8) / 2 ^ (8 * (k % 8))) = (bt a k : Int) := by
  rw [wd_shr, div_shr, IntKind.wrap_u8]
  unfold bt
  have e := bt_bits a k
  rw [Nat.shiftRight_eq_div_pow (m := a) (n := 8 * k)] at e
  have e2 : (2 : Nat) ^ 8 = 256 := by decide
  rw [e2] at e
  rw [← e]
  omega

/-- Bits laid above a number, within one word. -/
theorem part_other (V d p s j : Nat) (hV : V < 2 ^ p) (hd : d < 2 ^ s) (hp : p % 64 + s ≤ 64) (hj : j ≠ p / 64) : wd (V + d * 2 ^ p) j = wd V j := by
  rw [wd_shr, wd_shr, ← Nat.shiftLeft_eq, Nat.add_comm, Nat.shiftLeft_add_eq_or_of_lt hV]
  congr 1
  apply Nat.eq_of_testBit_eq
  intro i
  simp only [Nat.testBit_or, Nat.testBit_mod_two_pow, Nat.testBit_shiftLeft, Nat.testBit_shiftRight]
  by_cases hi : i < 64
  · by_cases hk : p ≤ 64 * j + i
    · have : d.testBit (64 * j + i - p) = false := Nat.testBit_lt_two_pow (Nat.lt_of_lt_of_le hd (Nat.pow_le_pow_right (by decide) (by omega)))
      simp [this]
    · simp [hk]
  · simp [hi]
theorem part_bits (V d p : Nat) : (V >>> (64 * (p / 64)) % 2 ^ 64) ||| (d <<< (p % 64) % 2 ^ 64) = (d <<< p ||| V) >>> (64 * (p / 64)) % 2 ^ 64 := by
  apply Nat.eq_of_testBit_eq
  intro i
  simp only [Nat.testBit_or, Nat.testBit_mod_two_pow, Nat.testBit_shiftLeft, Nat.testBit_shiftRight]
  by_cases hi : i < 64
  · by_cases hk : p % 64 ≤ i
    · have e1 : p ≤ 64 * (p / 64) + i := by omega
      have e2 : 64 * (p / 64) + i - p = i - p % 64 := by omega
      simp [hi, hk, e1, e2, Bool.or_comm]
    · have e1 : ¬ p ≤ 64 * (p / 64) + i := by omega
      simp [hi, hk, e1]
  · simp [hi]
theorem part_word (V d p : Nat) (hV : V < 2 ^ p) : bits .or .u64 (wd V (p / 64)) (IntKind.u64.wrap ((d : Int) * 2 ^ (p % 64))) = wd (V + d * 2 ^ p) (p / 64) := by
  rw [wrap_shl, wd_shr, wd_shr, ← Nat.shiftLeft_eq, Nat.add_comm, Nat.shiftLeft_add_eq_or_of_lt hV, ← part_bits]
  exact bits_or_u64_nat _ _ (Nat.mod_lt _ (by decide)) (Nat.mod_lt _ (by decide))

/-- The number of the lowest k of n bytes, the highest byte first. -/
def rdv (f : Nat → Int) (n : Nat) : Nat → Nat
  | 0 => 0
  | k + 1 => rdv f n k + (f (n - 1 - k)).toNat * 2 ^ (8 * k)
theorem rdv_lt (f : Nat → Int) (n : Nat) (hf : ∀ j, j < n → 0 ≤ f j ∧ f j < 256) : ∀ k, k ≤ n → rdv f n k < 2 ^ (8 * k)
  | 0, _ => by simp [rdv]
  | k + 1, hk => by
    have h1 := rdv_lt f n hf k (by omega)
    have h2 := hf (n - 1 - k) (by omega)
    have h3 : (f (n - 1 - k)).toNat * 2 ^ (8 * k) ≤ 255 * 2 ^ (8 * k) := Nat.mul_le_mul_right _ (by omega)
    have e : 2 ^ (8 * (k + 1)) = 256 * 2 ^ (8 * k) := by rw [Nat.mul_add, Nat.pow_add, Nat.mul_comm]
    unfold rdv
    rw [e]
    omega
theorem rdv_step (f : Nat → Int) (n k j : Nat) (hf : ∀ j, j < n → 0 ≤ f j ∧ f j < 256) (hk : k < n) :
    upd (wd (rdv f n k)) (k / 8) (bits .or .u64 (wd (rdv f n k) (k / 8)) (IntKind.u64.wrap (f (n - 1 - k) * 2 ^ (8 * (k % 8))))) j = wd (rdv f n (k + 1)) j := by
  have hd := hf (n - 1 - k) (by omega)
  have e : f (n - 1 - k) = ((f (n - 1 - k)).toNat : Int) := by omega
  have hV := rdv_lt f n hf k (by omega)
  have e1 : 8 * k / 64 = k / 8 := by omega
  have e2 : 8 * k % 64 = 8 * (k % 8) := by omega
  unfold upd
  by_cases h : j = k / 8
  · have h5 := part_word (rdv f n k) (f (n - 1 - k)).toNat (8 * k) hV
    rw [e1, e2, ← e] at h5
    rw [if_pos h, h, h5]
    rfl
  · rw [if_neg h]
    exact (part_other _ _ (8 * k) 8 j hV (by omega) (by omega) (by omega)).symm
theorem rdv_bt (a : Nat) : ∀ k, k ≤ 48 → rdv (fun p => (bt a (47 - p) : Int)) 48 k = a % 2 ^ (8 * k)
  | 0, _ => by simp [rdv, Nat.mod_one]
  | k + 1, hk => by
    have h1 := rdv_bt a k (by omega)
    unfold rdv
    rw [h1, show 47 - (48 - 1 - k) = k by omega]
    have e : 2 ^ (8 * (k + 1)) = 2 ^ (8 * k) * 256 := by rw [Nat.mul_add, Nat.pow_add]
    rw [e, Nat.mod_mul]
    unfold bt
    rw [Int.toNat_natCast, Nat.mul_comm (2 ^ (8 * k))]
end Go.Proofs.YtkfannhbnbgloaaDoor
/- The document's own Shift. -/
namespace Go.Proofs.YtkfannhbnbgloaaDoor
open Go.RowKit

theorem bitv_tb (a i : Nat) : bitv a i = if a.testBit i = true then 1 else 0 := by
  unfold bitv
  rw [Nat.testBit_eq_decide_div_mod_eq]
  simp only [decide_eq_true_eq]
  split <;> omega
/-- The bits of a shifted number. -/
theorem shv_bit (a : Nat) (n : Int) (ha : a < big) (h : ¬ (384 ≤ n ∨ n ≤ -384)) (k : Nat) (hk : k < 384) : bitz a ((k : Int) - n) = bitv (shv a n) k := by
  unfold shv bitz
  rw [if_neg h]
  by_cases hn : n < 0
  · rw [if_pos hn]
    obtain ⟨m, rfl⟩ : ∃ m : Nat, n = -(m : Int) := ⟨(-n).toNat, by omega⟩
    rw [show (- -(m : Int)).toNat = m by omega]
    rw [bitv_tb (a / 2 ^ m), ← Nat.shiftRight_eq_div_pow, Nat.testBit_shiftRight]
    by_cases h2 : k + m < 384
    · rw [if_pos (by omega), bitv_tb, show ((k : Int) - -(m : Int)).toNat = m + k by omega]
    · rw [if_neg (by omega), Nat.testBit_lt_two_pow (Nat.lt_of_lt_of_le ha (big_le _ (by omega)))]
      rfl
  · rw [if_neg hn]
    obtain ⟨m, rfl⟩ : ∃ m : Nat, n = (m : Int) := ⟨n.toNat, by omega⟩
    obtain ⟨b, hb, e⟩ := big_pow
    rw [Int.toNat_natCast, bitv_tb (a * 2 ^ m % big), e, Nat.testBit_mod_two_pow, ← Nat.shiftLeft_eq, Nat.testBit_shiftLeft]
    by_cases h2 : m ≤ k
    · rw [if_pos (by omega), bitv_tb, show ((k : Int) - (m : Int)).toNat = k - m by omega]
      simp [show k < 64 * b by omega, h2]
    · rw [if_neg (by omega)]
      simp [h2]
theorem low_step (x k : Nat) : x % 2 ^ (k + 1) = x % 2 ^ k + (x / 2 ^ k % 2) * 2 ^ k := by
  rw [Nat.pow_succ, Nat.mod_mul, Nat.mul_comm (2 ^ k)]
theorem set_bit (V k j : Nat) (hV : V < 2 ^ k) : upd (wd V) (k / 64) (bits .or .u64 (wd V (k / 64)) (IntKind.u64.wrap (2 ^ (k % 64)))) j = wd (V + 2 ^ k) j := by
  have h1 := part_word V 1 k hV
  rw [show ((1 : Nat) : Int) * 2 ^ (k % 64) = 2 ^ (k % 64) by rw [show ((1 : Nat) : Int) = 1 from rfl, Int.one_mul], Nat.one_mul] at h1
  unfold upd
  by_cases h : j = k / 64
  · rw [if_pos h, h, h1]
  · rw [if_neg h]
    have h2 := part_other V 1 k 1 j hV (by decide) (by omega) h
    rw [Nat.one_mul] at h2
    exact h2.symm
end Go.Proofs.YtkfannhbnbgloaaDoor
/- Long division, bit by bit: the numbers. -/
namespace Go.Proofs.YtkfannhbnbgloaaDoor
open Go.RowKit

/-- What is left, and what went in, when the bits from k on have been taken. -/
def dvr (a b k : Nat) : Nat := a / 2 ^ k % b
def dvq (a b k : Nat) : Nat := a / 2 ^ k / b * 2 ^ k
theorem dv_step (a b i : Nat) (hb : 0 < b) : (b ≤ 2 * dvr a b (i + 1) + a / 2 ^ i % 2 ∧ dvr a b i = 2 * dvr a b (i + 1) + a / 2 ^ i % 2 - b ∧ dvq a b i = dvq a b (i + 1) + 2 ^ i) ∨
    (2 * dvr a b (i + 1) + a / 2 ^ i % 2 < b ∧ dvr a b i = 2 * dvr a b (i + 1) + a / 2 ^ i % 2 ∧ dvq a b i = dvq a b (i + 1)) := by
  have e1 : a / 2 ^ i = 2 * (a / 2 ^ (i + 1)) + a / 2 ^ i % 2 := by
    rw [Nat.pow_succ, ← Nat.div_div_eq_div_mul]; omega
  have e2 := Nat.div_add_mod (a / 2 ^ (i + 1)) b
  have e3 := Nat.mod_lt (a / 2 ^ (i + 1)) hb
  have e4 : a / 2 ^ i % 2 < 2 := Nat.mod_lt _ (by decide)
  unfold dvr dvq
  generalize a / 2 ^ (i + 1) = A at e1 e2 e3 ⊢
  generalize ha : a / 2 ^ i = A2 at e1 e4 ⊢
  generalize hq : A / b = q at e2 ⊢
  generalize hr : A % b = r at e2 e3 ⊢
  generalize A2 % 2 = e at e1 e4 ⊢
  have e5 : A2 = 2 * r + e + b * (2 * q) := by
    rw [show b * (2 * q) = 2 * (b * q) by rw [Nat.mul_left_comm]]; omega
  have e6 : q * 2 ^ (i + 1) = 2 * q * 2 ^ i := by rw [Nat.pow_succ, ← Nat.mul_assoc, Nat.mul_comm (q * 2 ^ i), ← Nat.mul_assoc]
  rcases Nat.lt_or_ge (2 * r + e) b with h | h
  · right
    rw [e5, Nat.add_mul_mod_self_left, Nat.mod_eq_of_lt h, Nat.add_mul_div_left _ _ hb, Nat.div_eq_of_lt h, Nat.zero_add, e6]
    exact ⟨h, rfl, rfl⟩
  · left
    have e7 : A2 = (2 * r + e - b) + b * (2 * q + 1) := by rw [e5, Nat.mul_add]; omega
    have e8 : 2 * r + e - b < b := by omega
    rw [e7, Nat.add_mul_mod_self_left, Nat.mod_eq_of_lt e8, Nat.add_mul_div_left _ _ hb, Nat.div_eq_of_lt e8, Nat.zero_add, e6, Nat.add_mul, Nat.one_mul]
    exact ⟨h, rfl, rfl⟩
theorem dvr_lt (a b k : Nat) (hb : 0 < b) : dvr a b k < b := Nat.mod_lt _ hb
theorem dv_start (a b m : Nat) (ha : a < 2 ^ m) : dvr a b m = 0 ∧ dvq a b m = 0 := by
  unfold dvr dvq
  rw [Nat.div_eq_of_lt ha, Nat.zero_mod, Nat.zero_div, Nat.zero_mul]
  exact ⟨rfl, rfl⟩
theorem dv_end (a b : Nat) : dvr a b 0 = a % b ∧ dvq a b 0 = a / b := by
  unfold dvr dvq
  simp
theorem dvq_or (a b i : Nat) : dvq a b (i + 1) + 2 ^ i = 2 ^ i ||| dvq a b (i + 1) := by
  unfold dvq
  have h := Nat.shiftLeft_add_eq_or_of_lt (b := 2 ^ i) (i := i + 1) (Nat.pow_lt_pow_right (by decide) (Nat.lt_succ_self i)) (a / 2 ^ (i + 1) / b)
  rw [Nat.shiftLeft_eq] at h
  rw [h, Nat.or_comm]
theorem or_other (V p j : Nat) (hj : j ≠ p / 64) : wd (2 ^ p ||| V) j = wd V j := by
  rw [wd_shr, wd_shr]
  congr 1
  apply Nat.eq_of_testBit_eq
  intro i
  simp only [Nat.testBit_or, Nat.testBit_mod_two_pow, Nat.testBit_shiftRight, Nat.testBit_two_pow]
  by_cases hi : i < 64
  · have : ¬ p = 64 * j + i := by omega
    simp [this]
  · simp [hi]
theorem or_word (V p : Nat) : bits .or .u64 (wd V (p / 64)) (IntKind.u64.wrap (2 ^ (p % 64))) = wd (2 ^ p ||| V) (p / 64) := by
  have h1 := part_bits V 1 p
  have h2 := wrap_shl 1 (p % 64)
  rw [show ((1 : Nat) : Int) * 2 ^ (p % 64) = 2 ^ (p % 64) by rw [show ((1 : Nat) : Int) = 1 from rfl, Int.one_mul]] at h2
  rw [h2, wd_shr, wd_shr, show 2 ^ p = 1 <<< p by rw [Nat.shiftLeft_eq, Nat.one_mul], ← h1]
  exact bits_or_u64_nat _ _ (Nat.mod_lt _ (by decide)) (Nat.mod_lt _ (by decide))
theorem set_or (V p j : Nat) : upd (wd V) (p / 64) (bits .or .u64 (wd V (p / 64)) (IntKind.u64.wrap (2 ^ (p % 64)))) j = wd (2 ^ p ||| V) j := by
  unfold upd
  by_cases h : j = p / 64
  · rw [if_pos h, h, or_word]
  · rw [if_neg h, or_other V p j h]
/-- The lowest bit laid into an even number. -/
theorem low_bit (r e : Nat) (he : e < 2) (j : Nat) : upd (wd ((r + r) % big)) 0 (bits .or .u64 (wd ((r + r) % big) 0) (e : Int)) j = wd ((r + r) % big + e) j := by
  have hev : (r + r) % big = ((r + r) % big / 2) * 2 ^ 1 := by
    have : (r + r) % big % 2 = 0 := by
      obtain ⟨n, hn, eb⟩ := big_pow
      rw [eb, show 64 * n = 64 * n - 1 + 1 by omega, Nat.pow_succ, Nat.mod_mul_left_mod]
      omega
    omega
  generalize (r + r) % big / 2 = d at hev
  rw [hev]
  have hor : d * 2 ^ 1 + e = d <<< 1 ||| e := by
    rw [← Nat.shiftLeft_eq, Nat.shiftLeft_add_eq_or_of_lt (by omega)]
  rw [hor, ← Nat.shiftLeft_eq]
  unfold upd
  by_cases h : j = 0
  · subst h
    rw [if_pos rfl]
    rw [wd_shr, wd_shr]
    have e1 : (d <<< 1 ||| e) >>> (64 * 0) % 2 ^ 64 = (d <<< 1 >>> (64 * 0) % 2 ^ 64) ||| e := by
      apply Nat.eq_of_testBit_eq
      intro i
      simp only [Nat.testBit_or, Nat.testBit_mod_two_pow, Nat.testBit_shiftRight]
      by_cases hi : i < 64
      · simp [hi]
      · have : e.testBit i = false := Nat.testBit_lt_two_pow (Nat.lt_of_lt_of_le he (by
          calc 2 = 2 ^ 1 := rfl
            _ ≤ 2 ^ i := Nat.pow_le_pow_right (by decide) (by omega)))
        simp [hi, this]
    rw [e1]
    exact bits_or_u64_nat _ _ (Nat.mod_lt _ (by decide)) (by omega)
  · rw [if_neg h, wd_shr, wd_shr]
    congr 1
    apply Nat.eq_of_testBit_eq
    intro i
    simp only [Nat.testBit_or, Nat.testBit_mod_two_pow, Nat.testBit_shiftRight]
    have : e.testBit (64 * j + i) = false := Nat.testBit_lt_two_pow (Nat.lt_of_lt_of_le he (by
      calc 2 = 2 ^ 1 := rfl
        _ ≤ 2 ^ (64 * j + i) := Nat.pow_le_pow_right (by decide) (by omega)))
    simp [this]
/-- The top bit. -/
theorem top_one (r : Nat) (hr : r < big) : (wd r 5 / 9223372036854775808 == 1) = decide (big ≤ 2 * r) := by
  obtain ⟨n, hn, eb⟩ := big_pow
  obtain ⟨m, hm⟩ : ∃ m : Nat, m = 5 := ⟨5, rfl⟩
  rw [eb] at hr ⊢
  rw [← hm]
  have e0 : (18446744073709551616 : Nat) = 2 ^ 64 := by decide
  have e2 : 2 ^ (64 * n) = 2 ^ (64 * m) * 18446744073709551616 := by
    rw [e0, ← Nat.pow_add, show 64 * m + 64 = 64 * n by omega]
  rw [e2] at hr ⊢
  have e1 : r / 2 ^ (64 * m) < 18446744073709551616 := Nat.div_lt_of_lt_mul hr
  unfold wd
  rw [Nat.mod_eq_of_lt e1]
  have h1 := Nat.div_add_mod r (2 ^ (64 * m))
  have h2 := Nat.mod_lt r (Nat.two_pow_pos (64 * m))
  clear e0 e2 eb hn hr
  generalize hA : r / 2 ^ (64 * m) = A at h1 e1 ⊢
  generalize r % 2 ^ (64 * m) = B at h1 h2
  generalize 2 ^ (64 * m) = M at h1 h2 ⊢
  have hi : ((A : Nat) : Int) / 9223372036854775808 = ((A / 9223372036854775808 : Nat) : Int) := by omega
  rw [hi]
  obtain ⟨H, hH⟩ : ∃ H : Nat, H = 9223372036854775808 := ⟨_, rfl⟩
  have hH2 : 18446744073709551616 = 2 * H := by omega
  rw [hH2, ← hH, Nat.mul_left_comm]
  by_cases c : H ≤ A
  · have hd : A / H = 1 := by rw [hH]; omega
    have hm : M * H ≤ M * A := Nat.mul_le_mul_left _ c
    rw [hd, decide_eq_true (by omega)]
    rfl
  · have hd : A / H = 0 := Nat.div_eq_of_lt (by omega)
    have hm : M * (A + 1) ≤ M * H := Nat.mul_le_mul_left _ (by omega)
    rw [Nat.mul_add, Nat.mul_one] at hm
    rw [hd, decide_eq_false (by omega)]
    rfl
end Go.Proofs.YtkfannhbnbgloaaDoor
/- A region that draws its order, and whose last operation waits for all others: that one is taken last, as the walk takes it. -/
namespace Go.Proofs.YtkfannhbnbgloaaDoor
open Go.RowKit

section
variable {P : Program} {ops : Array Oper} {ks : List Kind} {a₀ : Act} {w₀ : World} {Q : Exit → Act → World → Prop}

theorem none_ready {l : Array Bool} (hl : ∀ i, i < ops.size → l.getD i false = true) : Region.ready .any ops l = [] := by
  refine List.eq_nil_iff_forall_not_mem.2 fun i hi => ?_
  obtain ⟨h1, o, ho, _⟩ := mem_ready.1 hi
  have h2 := hl i (Array.getElem?_eq_some_iff.1 ho).1
  rcases Nat.lt_or_ge i l.size with h' | h'
  · simp [h'] at h1 h2
    rw [h1] at h2
    cases h2
  · simp [Array.getElem?_eq_none h'] at h2
theorem any_done {l : Array Bool} {a : Act} {w : World} (hr : Region.ready .any ops l = []) (h : Q .normal a w) : ∀ fuel, wpAny P .any ops Q fuel l a w
  | 0 => ⟨hr, h⟩
  | _ + 1 => ⟨fun _ => h, by rw [hr]; simp⟩

set_option maxHeartbeats 1000000 in
theorem any_last {n p : Nat} {op : Oper} (hO : Orderly ops ks n) (hn : n = a₀.tmps.size) (hL : LaidOk ks ks) {S : World → Prop} (hS : ∀ w, Below w₀.heap.size w₀ w → S w)
    (hp : ops[p]? = some op) (hlen : p + 1 = ops.size) (hdst : op.dst = none) (hkp : ks[p]? = some .gone) (hwt : ∀ j, j < p → waits op j = true)
    (hops : AllOk P ops S (fun γ => fill γ 0 ops.toList ks a₀) (ops.toList.take p) ks)
    (hlast : ∀ γ w l, Mem ks w₀ l γ w → (∀ i, i < p → l.getD i false = true) → ∀ K' : Act → World → Prop, (∀ a w, Q .normal a w → K' a w) →
      if Region.wanted op (yielded ops (fill γ 0 ops.toList ks a₀).tmps) = true then Oper.wp P op (fill γ 0 ops.toList ks a₀) w K' Q else K' ((fill γ 0 ops.toList ks a₀).put op.dst undef) w) :
    ∀ (fuel : Nat) (l : Array Bool) (γ : Nat → Nat) (a : Act) (w : World), l.size = ops.size → l.toList.count false ≤ fuel → l.getD p true = false → Agree ops ks a₀ l γ a → Mem ks w₀ l γ w → wpAny P .any ops Q fuel l a w := by
  intro fuel
  induction fuel with
  | zero =>
    intro l γ a w hsz hc hpu hA hM
    have h1 := count_set hpu
    omega
  | succ fuel ih =>
    intro l γ a w hsz hc hpu hA hM
    refine ⟨fun hr => ?_, fun i hi => ?_⟩
    · exfalso
      have hall := all_listed hO hsz hr p (by omega)
      rw [(getD_same hpu).1] at hall
      cases hall
    · obtain ⟨hun, o, ho, hedge⟩ := mem_ready.1 hi
      have hilt : i < ops.size := (Array.getElem?_eq_some_iff.1 ho).1
      by_cases hip : i = p
      · subst hip
        rw [hp] at ho
        injection ho with ho
        subst ho
        have hoth : ∀ j, j < i → l.getD j false = true := fun j hj => waits_spec (hwt j hj) hedge
        have hwh : a = fill γ 0 ops.toList ks a₀ := by
          have ht : a.tmps = (fill γ 0 ops.toList ks a₀).tmps := Array.ext_getElem? fun d =>
            hA.slots d (fun j oj hj hd => by
              have hjl := (Array.getElem?_eq_some_iff.1 hj).1
              rcases Nat.lt_or_ge j i with h' | h'
              · exact hoth j h'
              · have : j = i := by omega
                subst this
                rw [hp] at hj
                injection hj with hj
                subst hj
                rw [hdst] at hd
                cases hd)
          have hd : a.defers = (fill γ 0 ops.toList ks a₀).defers := by rw [hA.defers, fill_defers]
          cases a
          cases hf : fill γ 0 ops.toList ks a₀
          rw [hf] at ht hd
          simp only at ht hd
          rw [ht, hd]
        refine wpOp_step hp (fun K' hK => ?_)
        rw [hwh]
        refine hlast γ w l hM hoth K' (fun a' w' hq => hK a' w' (any_done (none_ready (fun j hj => ?_)) hq fuel))
        rcases Nat.lt_or_ge j i with h' | h'
        · exact getD_true (hoth j h')
        · have : j = i := by omega
          subst this
          exact (getD_same hun).2
      · obtain ⟨k, hk⟩ := kind_at hO ho
        have hok := hops.at (by rw [List.getElem?_take, if_pos (by omega)]; simpa using ho) hk
        obtain ⟨he, hw⟩ := hA.sees hO ho hedge
        have hc' := count_set hun
        have hpu' : (l.setIfInBounds i true).getD p true = false := by rw [getD_set_ne true hip]; exact hpu
        have next : ∀ (γ' : Nat → Nat) (w' : World), (∀ j, j ≠ i → γ' j = γ j) → Mem ks w₀ (l.setIfInBounds i true) γ' w' → wpAny P .any ops Q fuel (l.setIfInBounds i true) (a.put o.dst (k.val γ' i)) w' := fun γ' w' hγ hM' =>
          ih _ γ' _ w' (by simp [hsz]) (by omega) hpu' (hA.step hO hn ho hk hγ) hM'
        refine wpOp_step ho (fun K' hK => ?_)
        rw [hw]
        cases k with
        | quiet v =>
          obtain ⟨h1, h2⟩ := hok γ
          rw [if_pos h1]
          unfold Oper.wp
          rw [he, h2 w (hS w hM.below)]
          exact hK _ _ (next γ w (fun _ _ => rfl) (hM.still (Below.refl _ _) hk (fun _ _ h => by cases h) (fun _ _ _ h => by cases h)))
        | gone =>
          rw [if_neg (by rw [hok γ]; decide)]
          exact hK _ _ (next γ w (fun _ _ => rfl) (hM.still (Below.refl _ _) hk (fun _ _ h => by cases h) (fun _ _ _ h => by cases h)))
        | call v =>
          obtain ⟨h1, h2⟩ := hok γ
          rw [if_pos h1]
          obtain ⟨f, args, h3, h4⟩ := h2 w (hS w hM.below)
          unfold Oper.wp
          rw [he, h3]
          refine Calls.mono h4 ?_
          rintro e w' ⟨rfl, hb⟩
          exact hK _ _ (next γ w' (fun _ _ => rfl) (hM.still hb hk (fun _ _ h => by cases h) (fun _ _ _ h => by cases h)))
        | made zs t =>
          obtain ⟨h1, h2⟩ := hok γ
          rw [if_pos h1]
          unfold Oper.wp
          rw [he, h2 w]
          have := next _ _ (fun j hj => if_neg hj) (hM.make hk hun)
          simp only [Kind.val, if_pos] at this
          exact hK _ _ this
        | laid j zs cs =>
          obtain ⟨h1, h2, h3, h4⟩ := hok γ
          rw [if_pos h1]
          have hli : l.getD j false = true := waits_spec (hO.laid ho hk) hedge
          obtain ⟨hr, hM'⟩ := hM.lay hO hL ho hk h3 hun hli
          unfold Oper.wp
          rw [he, h4 w hr]
          exact hK _ _ (next γ _ (fun _ _ => rfl) hM')
/-- The law, the last operation left to the walk. -/
theorem region_last {id : Nat} {a : Act} {w : World} (hm : P.follows .mixedOrders = true) (ks : List Kind) (S : World → Prop) (F : (Nat → Nat) → Act) {p : Nat} (op : Oper)
    (hF : ∀ γ, fill γ 0 ops.toList ks a = F γ) (hor : orderly ops ks a.tmps.size = true) (hL : LaidOk ks ks) (hS : ∀ w', Below w.heap.size w w' → S w')
    (hp : ops[p]? = some op) (hlen : p + 1 = ops.size) (hdst : op.dst = none) (hkp : ks[p]? = some .gone) (hwt : ((List.range p).all fun j => waits op j) = true)
    (hops : AllOk P ops S F (ops.toList.take p) ks)
    (hlast : ∀ γ w' l, Mem ks w l γ w' → (∀ i, i < p → l.getD i false = true) → ∀ K' : Act → World → Prop, Hid (∀ a w, Q .normal a w → K' a w) →
      if Region.wanted op (yielded ops (F γ).tmps) = true then Oper.wp P op (F γ) w' K' Q else K' ((F γ).put op.dst undef) w') : (Code.region id ops true).wp P Q a w := by
  obtain rfl : (fun γ => fill γ 0 ops.toList ks a) = F := funext hF
  have none_listed : ∀ i, (Array.replicate ops.size false).getD i false = false := fun i => by
    rcases Nat.lt_or_ge i ops.size with h | h <;> simp [h]
  refine wp_region_any hm (any_last (Orderly.of hor) rfl hL hS hp hlen hdst hkp (fun j hj => List.all_eq_true.1 hwt j (List.mem_range.2 hj)) hops (fun γ w' l h1 h2 K' hK => hlast γ w' l h1 h2 K' hK) ops.size _ (fun _ => 0) a w.drew (by simp) (by simp) (by simp [show p < ops.size by omega]) ⟨rfl, rfl, fun d hd => ?_⟩ ?_)
  · have hno : ∀ o' ∈ ops.toList, o'.dst ≠ some d := fun o' ho' hd' => by
      obtain ⟨j, hj, ej⟩ := List.getElem_of_mem ho'
      have := hd j o' (by rw [← Array.getElem?_toList, List.getElem?_eq_getElem hj, ej]) hd'
      rw [none_listed] at this
      cases this
    rw [fill_other _ d 0 _ _ _ hno]
  · refine ⟨(Below.refl _ _).drew, ?_, ?_, ?_, ?_, ?_⟩
    · intro i zs t _ h; rw [none_listed] at h; cases h
    · intro i zs t _ h; rw [none_listed] at h; cases h
    · intro s i zs cs _ h; rw [none_listed] at h; cases h
    · intro s i zs cs _ h; rw [none_listed] at h; cases h
    · intro i j zs t zs' t' _ _ h; rw [none_listed] at h; cases h
end
end Go.Proofs.YtkfannhbnbgloaaDoor
/- The document's own Divide, walked. -/
namespace Go.Proofs.YtkfannhbnbgloaaDoor
open Go.RowKit

theorem Row.six {w : World} {g : Nat} {f : Nat → Int} (h : Row w g 6 f) (v : Nat) : Row ((((((w.setCell ⟨g, 0, none⟩ (.int .u64 (wd v 0))).setCell ⟨g, 1, none⟩ (.int .u64 (wd v 1))).setCell ⟨g, 2, none⟩ (.int .u64 (wd v 2))).setCell ⟨g, 3, none⟩ (.int .u64 (wd v 3))).setCell ⟨g, 4, none⟩ (.int .u64 (wd v 4))).setCell ⟨g, 5, none⟩ (.int .u64 (wd v 5))) g 6 (wd v) := by
  refine ((((((h.set (k := 0) (wd v 0)).set (k := 1) (wd v 1)).set (k := 2) (wd v 2)).set (k := 3) (wd v 3)).set (k := 4) (wd v 4)).set (k := 5) (wd v 5)).congr (fun j hj => ?_)
  match j, hj with
  | 0, _ => rfl
  | 1, _ => rfl
  | 2, _ => rfl
  | 3, _ => rfl
  | 4, _ => rfl
  | 5, _ => rfl
theorem Row.past6v {w : World} {g g' n : Nat} {f : Nat → Int} (h : Row w g n f) (v : Nat) (hg : g' ≠ g) : Row ((((((w.setCell ⟨g', 0, none⟩ (.int .u64 (wd v 0))).setCell ⟨g', 1, none⟩ (.int .u64 (wd v 1))).setCell ⟨g', 2, none⟩ (.int .u64 (wd v 2))).setCell ⟨g', 3, none⟩ (.int .u64 (wd v 3))).setCell ⟨g', 4, none⟩ (.int .u64 (wd v 4))).setCell ⟨g', 5, none⟩ (.int .u64 (wd v 5))) g n f :=
  (((((h.set_other _ hg).set_other _ hg).set_other _ hg).set_other _ hg).set_other _ hg).set_other _ hg
/-- The memory of the document's Divide: a, b, two results, q, r. -/
structure DS (w wr : World) (a b q r : Nat) : Prop where
  sz : w.heap.size + 1 + 1 + 1 + 1 + 1 < wr.heap.size
  ra : Row wr w.heap.size 6 (wd a)
  rb : Row wr (w.heap.size + 1) 6 (wd b)
  z2 : Row wr (w.heap.size + 1 + 1) 6 (fun _ => 0)
  z3 : Row wr (w.heap.size + 1 + 1 + 1) 6 (fun _ => 0)
  rq : Row wr (w.heap.size + 1 + 1 + 1 + 1) 6 (wd q)
  rr : Row wr (w.heap.size + 1 + 1 + 1 + 1 + 1) 6 (wd r)
  bl : Below w.heap.size w wr
theorem DS.below {w wr w1 : World} {a b q r : Nat} (h : DS w wr a b q r) (hb : Below wr.heap.size wr w1) : DS w w1 a b q r :=
  have s := h.sz
  ⟨Nat.lt_of_lt_of_le h.sz hb.size, Row.below hb h.ra (by omega), Row.below hb h.rb (by omega), Row.below hb h.z2 (by omega), Row.below hb h.z3 (by omega), Row.below hb h.rq (by omega), Row.below hb h.rr (by omega), h.bl.trans (hb.mono h.bl.size)⟩
theorem DS.drew {w wr : World} {a b q r : Nat} (h : DS w wr a b q r) : DS w wr.drew a b q r := ⟨h.sz, h.ra.drew, h.rb.drew, h.z2.drew, h.z3.drew, h.rq.drew, h.rr.drew, h.bl.drew⟩
theorem DS.rws {w wr : World} {a b q r : Nat} (h : DS w wr a b q r) : Rws wr [(w.heap.size + 1 + 1 + 1 + 1 + 1, r), (w.heap.size, a)] := by
  intro g v hm
  have s := h.sz
  simp only [List.mem_cons, Prod.mk.injEq, List.not_mem_nil, or_false] at hm
  rcases hm with ⟨rfl, rfl⟩ | ⟨rfl, rfl⟩
  · exact ⟨s, h.rr⟩
  · exact ⟨by omega, h.ra⟩
theorem DS.six {w wr : World} {a b q r : Nat} (h : DS w wr a b q r) (v : Nat) : DS w ((((((wr.setCell ⟨(w.heap.size + 1 + 1 + 1 + 1 + 1), 0, none⟩ (.int .u64 (wd v 0))).setCell ⟨(w.heap.size + 1 + 1 + 1 + 1 + 1), 1, none⟩ (.int .u64 (wd v 1))).setCell ⟨(w.heap.size + 1 + 1 + 1 + 1 + 1), 2, none⟩ (.int .u64 (wd v 2))).setCell ⟨(w.heap.size + 1 + 1 + 1 + 1 + 1), 3, none⟩ (.int .u64 (wd v 3))).setCell ⟨(w.heap.size + 1 + 1 + 1 + 1 + 1), 4, none⟩ (.int .u64 (wd v 4))).setCell ⟨(w.heap.size + 1 + 1 + 1 + 1 + 1), 5, none⟩ (.int .u64 (wd v 5))) a b q v :=
  ⟨by simpa using h.sz, h.ra.past6v v (by omega), h.rb.past6v v (by omega), h.z2.past6v v (by omega), h.z3.past6v v (by omega), h.rq.past6v v (by omega), h.rr.six v, below6 h.bl (by omega) _ _ _ _ _ _⟩
theorem DS.low {w wr : World} {a b q r : Nat} (h : DS w wr a b q r) {x : Int} {v : Nat} (hv : ∀ j, upd (wd r) 0 x j = wd v j) : DS w (wr.setCell ⟨w.heap.size + 1 + 1 + 1 + 1 + 1, 0, none⟩ (.int .u64 x)) a b q v :=
  ⟨by simpa using h.sz, h.ra.set_other _ (by simp <;> omega), h.rb.set_other _ (by simp <;> omega), h.z2.set_other _ (by simp <;> omega), h.z3.set_other _ (by simp <;> omega), h.rq.set_other _ (by simp <;> omega), (h.rr.set _).congr (fun j _ => hv j), h.bl.setCell (by simp <;> omega) _⟩
theorem DS.bit {w wr : World} {a b q r : Nat} (h : DS w wr a b q r) {x : Int} {k v : Nat} (hv : ∀ j, upd (wd q) k x j = wd v j) : DS w (wr.setCell ⟨w.heap.size + 1 + 1 + 1 + 1, k, none⟩ (.int .u64 x)) a b v r :=
  ⟨by simpa using h.sz, h.ra.set_other _ (by simp <;> omega), h.rb.set_other _ (by simp <;> omega), h.z2.set_other _ (by simp <;> omega), h.z3.set_other _ (by simp <;> omega), (h.rq.set _).congr (fun j _ => hv j), h.rr.set_other _ (by simp <;> omega), h.bl.setCell (by simp <;> omega) _⟩
set_option maxHeartbeats 2000000 in
set_option maxRecDepth 100000 in
theorem divide_ref_none (a : Nat) (w : World) :
    Calls Tryd.prog 42 #[N a, N 0] w fun e w' => e = .returned (.tuple #[N 0, N 0, .int .i64 2]) ∧ Below w.heap.size w w' := by
  have he := fun w => run_eqZ 0 big_pos w
  simp only [decide_true] at he
  go_enter Tryd.func42, Tryd.ntmps42
  go_wp2
  go_region
  go_wp2
  refine bodyPost_ret (v := .tuple #[N 0, N 0, .int .i64 2]) ?_ rfl ⟨rfl, ?_⟩
  · simp [results, Tryd.results42, go_sem, wd_zero]
  · exact ((((((Below.refl _ _).alloc (Nat.le_refl _) _).alloc (by simp) _).alloc (by simp; omega) _).alloc (by simp; omega) _).alloc (by simp; omega) _).alloc (by simp; omega) _ |>.drew
set_option maxHeartbeats 4000000 in
set_option maxRecDepth 100000 in
theorem divide_ref_some (a b : Nat) (ha : a < big) (hb : b < big) (hb0 : b ≠ 0) (w : World) :
    Calls Tryd.prog 42 #[N a, N b] w fun e w' => e = .returned (.tuple #[N (a / b), N (a % b), .int .i64 0]) ∧ Below w.heap.size w w' := by
  have he := fun w => run_eqZ b hb w
  rw [decide_eq_false hb0] at he
  have CB : Hid _ := fun (i : Nat) (hi : i < 384) w => bit_ref_in a i hi w
  have HA : Hid (a < 2 ^ 384) := by
    obtain ⟨n, hn, e⟩ := big_pow
    show a < 2 ^ 384
    rw [e, show 64 * n = 384 by omega] at ha
    exact ha
  have HB : Hid (b < big ∧ 0 < b) := ⟨hb, by omega⟩
  clear ha hb hb0
  go_enter Tryd.func42, Tryd.ntmps42
  go_wp2
  clear he
  go_loopw [9] (fun i wr => ∃ k : Nat, k ≤ 384 ∧ i = .int .i64 ((k : Int) - 1) ∧ DS w wr a b (dvq a b k) (dvr a b k)) (fun i _ => (RowKit.intOf i + 1).toNat)
  case atStart =>
    obtain ⟨e1, e2⟩ := dv_start a b 384 HA.out
    refine ⟨384, by omega, rfl, ?_⟩
    rw [e1, e2]
    refine ⟨by simp, ?_, ?_, ?_, ?_, ?_, ?_, ?_⟩
    · exact ((((((Row.new w _ 24 rfl (six_lt rfl)).alloc (by simp) _).alloc (by first | (simp; done) | (simp; omega)) _).alloc (by first | (simp; done) | (simp; omega)) _).alloc (by first | (simp; done) | (simp; omega)) _).alloc (by first | (simp; done) | (simp; omega)) _)
    · exact (((((Row.new _ _ 24 (by simp) (six_lt rfl)).alloc (by simp) _).alloc (by first | (simp; done) | (simp; omega)) _).alloc (by first | (simp; done) | (simp; omega)) _).alloc (by first | (simp; done) | (simp; omega)) _)
    · exact ((((Row.new _ _ 24 (by simp) (six_lt (f := fun _ => 0) rfl)).alloc (by simp) _).alloc (by first | (simp; done) | (simp; omega)) _).alloc (by first | (simp; done) | (simp; omega)) _)
    · exact (((Row.new _ _ 24 (by simp) (six_lt (f := fun _ => 0) rfl)).alloc (by simp) _).alloc (by first | (simp; done) | (simp; omega)) _)
    · exact (((Row.new _ _ 24 (by simp) (six_lt (f := fun _ => 0) rfl)).congr (fun j _ => (wd_zero j).symm)).alloc (by simp) _)
    · exact (Row.new _ _ 24 (by simp) (six_lt (f := fun _ => 0) rfl)).congr (fun j _ => (wd_zero j).symm)
    · exact ((((((Below.refl _ _).alloc (Nat.le_refl _) _).alloc (by simp) _).alloc (by first | (simp; done) | (simp; omega)) _).alloc (by first | (simp; done) | (simp; omega)) _).alloc (by first | (simp; done) | (simp; omega)) _).alloc (by first | (simp; done) | (simp; omega)) _
  case round =>
    obtain ⟨k, hk, rfl, hD⟩ := hrel
    by_cases h0 : 1 ≤ k
    · obtain ⟨i, rfl⟩ : ∃ i, k = i + 1 := ⟨k - 1, by omega⟩
      rw [show (((i + 1 : Nat) : Int) - 1) = (i : Int) by omega]
      have st := dv_step a b i HB.out.2
      have hor := dvq_or a b i
      have hrb := dvr_lt a b (i + 1) HB.out.2
      have cb := fun w => CB.out i (by omega) w
      have hev : ∃ e : Nat, e < 2 ∧ bitv a i = (e : Int) ∧ a / 2 ^ i % 2 = e := ⟨a / 2 ^ i % 2, Nat.mod_lt _ (by decide), rfl, rfl⟩
      obtain ⟨e, he2, heb, hea⟩ := hev
      rw [hea] at st
      rw [heb] at cb
      have CBi : Hid _ := cb
      have ec : IntKind.u64.wrap (e : Int) = (e : Int) := by rw [IntKind.wrap_u64]; omega
      generalize dvq a b (i + 1) = q at hD st hor
      generalize dvr a b (i + 1) = r at hD st hrb
      have hrg : r < big := Nat.lt_trans hrb HB.out.1
      have ca := fun w => add_ref r r hrg hrg w
      have ht := top_one r hrg
      have hlb := fun j => low_bit r e he2 j
      obtain ⟨H, hH⟩ : ∃ H : Nat, big = 2 * H := by
        obtain ⟨n, hn, eb⟩ := big_pow
        exact ⟨2 ^ (64 * n - 1), by rw [eb, show 64 * n = 64 * n - 1 + 1 by omega, Nat.pow_succ, Nat.mul_comm]; rfl⟩
      have hbb := HB.out.1
      generalize hRR : (r + r) % big = R at ca hlb
      have CA : Hid _ := ca
      have HST : Hid (_ ∧ _ ∧ _) := ⟨st, hor, hrb⟩
      have HE : Hid (e < 2 ∧ i < 384) := ⟨he2, by omega⟩
      obtain ⟨a0, a1, a2, a3, a4, a5⟩ := hD.rr.reads
      have HD0 : Hid _ := hD
      have HLB : Hid _ := hlb
      clear cb heb hea st hor hD CB HA h0 hlb ca
      by_cases c : big ≤ 2 * r
      · rw [decide_eq_true c] at ht
        have hR : R = 2 * r - big := by rw [← hRR, ← Nat.two_mul, Nat.mod_eq_sub_mod c, Nat.mod_eq_of_lt (by omega)]
        have hbt : b ≤ 2 * r + e := by omega
        obtain ⟨hN1, hN2⟩ : dvr a b i = 2 * r + e - b ∧ dvq a b i = 2 ^ i ||| q := by
          rcases HST.out.1 with ⟨_, s2, s3⟩ | ⟨s1, _, _⟩
          · exact ⟨s2, by rw [s3, HST.out.2.1]⟩
          · omega
        have cs := fun w => sub_ref (R + e) b (by omega) HB.out.1 w
        rw [show (R + e + big - b) % big = 2 * r + e - b by rw [Nat.mod_eq_of_lt (by omega)]; omega] at cs
        generalize 2 * r + e - b = rn at cs hN1
        have CS : Hid _ := cs
        have HN : Hid (_ ∧ _) := ⟨hN2, hN1⟩
        clear cs hN1 hN2 hR hbt hRR c hrb hrg hH hbb he2
        go_wp2_with fail
        refine (CA.out _).mono ?_
        rintro e1 w1 ⟨rfl, hb1⟩
        have hD1 := HD0.out.below hb1
        clear HD0 hb1 ht a0 a1 a2 a3 a4 a5
        obtain ⟨a0, a1, a2, a3, a4, a5⟩ := hD1.rr.reads
        obtain ⟨f0, f1, f2, f3, f4, f5⟩ := hD1.rr.writes
        have HD1 : Hid _ := hD1
        clear hD1
        go_wp2_with fail
        have hD2 := HD1.out.six R
        clear HD1 a0 a1 a2 a3 a4 a5 f0 f1 f2 f3 f4 f5
        generalize ((((((w1.setCell ⟨w.heap.size + 1 + 1 + 1 + 1 + 1, 0, none⟩ (.int .u64 (wd R 0))).setCell ⟨w.heap.size + 1 + 1 + 1 + 1 + 1, 1, none⟩ (.int .u64 (wd R 1))).setCell ⟨w.heap.size + 1 + 1 + 1 + 1 + 1, 2, none⟩ (.int .u64 (wd R 2))).setCell ⟨w.heap.size + 1 + 1 + 1 + 1 + 1, 3, none⟩ (.int .u64 (wd R 3))).setCell ⟨w.heap.size + 1 + 1 + 1 + 1 + 1, 4, none⟩ (.int .u64 (wd R 4))).setCell ⟨w.heap.size + 1 + 1 + 1 + 1 + 1, 5, none⟩ (.int .u64 (wd R 5))) = w2 at hD2 ⊢
        have HR2 : Hid _ := hD2.rws
        have HD2 : Hid _ := hD2
        clear hD2
        refine region_last (p := 8) (by kernel_rfl) [.quiet (.pointer (some ⟨w.heap.size + 1 + 1 + 1 + 1 + 1, 0, none⟩)), .quiet (.int .u64 (wd R 0)), .quiet (N a), .quiet (.int .i64 i), .call (.int .i64 (e : Int)), .quiet (.int .u64 (e : Int)), .quiet (.int .u64 (bits .or .u64 (wd R 0) (e : Int))), .quiet (.pointer (some ⟨w.heap.size + 1 + 1 + 1 + 1 + 1, 0, none⟩)), .gone] (fun w' => Rws w' [(w.heap.size + 1 + 1 + 1 + 1 + 1, R), (w.heap.size, a)]) ?F1 _ (fun γ => ?hF) (by kernel_rfl) ?hL ?hS rfl rfl rfl rfl (by kernel_rfl) ?ho ?hl
        case hF =>
          simp only [fill, Kind.val, Act.put, List.setIfInBounds_toArray, List.set_cons_zero, List.set_cons_succ]
          exact rfl
        case hL => exact trivial
        case hS => exact fun w' hb => Rws.below HR2.out hb
        case ho =>
          refine AllOk.cons ?_ ?_
          · (refine fun γ => ⟨rfl, fun w' h => ?_⟩; clear h; go_simp)
          refine AllOk.cons ?_ ?_
          · (refine fun γ => ⟨rfl, fun w' h => ?_⟩; obtain ⟨h0, c0, c1, c2, c3, c4, c5⟩ := Rws.at h (g := (w.heap.size + 1 + 1 + 1 + 1 + 1)) (v := R) (by simp); clear h; go_simp)
          refine AllOk.cons ?_ ?_
          · exact fun γ => ⟨rfl, fun w' h => exec_load6 h (by simp) rfl rfl⟩
          refine AllOk.cons ?_ ?_
          · exact fun γ => ⟨rfl, fun w' _ => rfl⟩
          refine AllOk.cons ?_ ?_
          · exact fun γ => ⟨rfl, fun w' h => ⟨44, #[N a, .int .i64 i], exec_call rfl call44 rfl (by simp only [List.map_toArray, List.map_cons, List.map_nil]; rfl), CBi.out w'⟩⟩
          refine AllOk.cons ?_ ?_
          · (refine fun γ => ⟨rfl, fun w' h => ?_⟩; clear h; go_simp)
          refine AllOk.cons ?_ ?_
          · (refine fun γ => ⟨rfl, fun w' h => ?_⟩; clear h; go_simp)
          refine AllOk.cons ?_ ?_
          · (refine fun γ => ⟨rfl, fun w' h => ?_⟩; clear h; go_simp)
          exact trivial
        case hl =>
          intro γ w3 l hM hl K hK
          have hD3 := HD2.out.below hM.below
          have b0 := (hD3.rr 0 (by omega)).1
          have f0 := (hD3.rr 0 (by omega)).2
          have HD3 : Hid _ := hD3
          clear hD3 hM hl l HD2 HR2
          rw [if_pos (by rfl)]
          go_simp
          refine hK.out _ _ ?_
          clear hK b0 f0
          have hD4 := HD3.out.low HLB.out
          clear HD3
          generalize w3.setCell ⟨w.heap.size + 1 + 1 + 1 + 1 + 1, 0, none⟩ (.int .u64 (bits .or .u64 (wd R 0) (e : Int))) = w4 at hD4 ⊢
          clear γ
          obtain ⟨a0, a1, a2, a3, a4, a5⟩ := hD4.rr.reads
          obtain ⟨b0, b1, b2, b3, b4, b5⟩ := hD4.rb.reads
          have HD4 : Hid _ := hD4
          clear hD4
          go_wp2_with fail
          refine (CS.out _).mono ?_
          rintro e3 w5 ⟨rfl, hb5⟩
          have hD5 := HD4.out.below hb5
          clear HD4 hb5 a0 a1 a2 a3 a4 a5 b0 b1 b2 b3 b4 b5
          obtain ⟨a0, a1, a2, a3, a4, a5⟩ := hD5.rr.reads
          obtain ⟨f0, f1, f2, f3, f4, f5⟩ := hD5.rr.writes
          have HD5 : Hid _ := hD5
          clear hD5
          go_wp2_with fail
          have hD6 := HD5.out.six rn
          clear HD5 a0 a1 a2 a3 a4 a5 f0 f1 f2 f3 f4 f5
          generalize ((((((w5.setCell ⟨w.heap.size + 1 + 1 + 1 + 1 + 1, 0, none⟩ (.int .u64 (wd rn 0))).setCell ⟨w.heap.size + 1 + 1 + 1 + 1 + 1, 1, none⟩ (.int .u64 (wd rn 1))).setCell ⟨w.heap.size + 1 + 1 + 1 + 1 + 1, 2, none⟩ (.int .u64 (wd rn 2))).setCell ⟨w.heap.size + 1 + 1 + 1 + 1 + 1, 3, none⟩ (.int .u64 (wd rn 3))).setCell ⟨w.heap.size + 1 + 1 + 1 + 1 + 1, 4, none⟩ (.int .u64 (wd rn 4))).setCell ⟨w.heap.size + 1 + 1 + 1 + 1 + 1, 5, none⟩ (.int .u64 (wd rn 5))) = w6 at hD6 ⊢
          obtain ⟨q1, q2⟩ := hD6.rq (i / 64) (by have := HE.out.2; omega)
          have HD6 : Hid _ := hD6
          clear hD6
          have hi := HE.out.2
          go_region
          go_wp2
          go_roundw
          case rel =>
            refine ⟨i, by omega, by go_num, ?_⟩
            rw [HN.out.1, HN.out.2]
            exact (HD6.out.bit (fun j => set_or q i j)).drew
          case measure => simp [RowKit.intOf] <;> omega
      · rw [decide_eq_false c] at ht
        by_cases hbt : b ≤ 2 * r + e
        · have hR : R = 2 * r := by rw [← hRR, ← Nat.two_mul, Nat.mod_eq_of_lt (by omega)]
          obtain ⟨hN1, hN2⟩ : dvr a b i = 2 * r + e - b ∧ dvq a b i = 2 ^ i ||| q := by
            rcases HST.out.1 with ⟨_, s2, s3⟩ | ⟨s1, _, _⟩
            · exact ⟨s2, by rw [s3, HST.out.2.1]⟩
            · omega
          have cs := fun w => sub_ref (R + e) b (by omega) HB.out.1 w
          rw [show (R + e + big - b) % big = 2 * r + e - b by rw [Nat.mod_eq_sub_mod (by omega), Nat.mod_eq_of_lt (by omega)]; omega] at cs
          generalize 2 * r + e - b = rn at cs hN1
          have cc := fun w => compare_ref (R + e) b (by omega) HB.out.1 w
          have hcv : decide ((0 : Int) ≤ cmpv (R + e) b) = true := decide_eq_true (by unfold cmpv; split; omega; rw [if_neg (by omega)]; omega)
          generalize cmpv (R + e) b = cv at cc hcv
          have CS : Hid _ := cs
          have CC : Hid _ := cc
          have HN : Hid (_ ∧ _) := ⟨hN2, hN1⟩
          clear cs cc hN1 hN2 hR hbt hRR c hrb hrg hH hbb he2
          go_wp2_with fail
          refine (CA.out _).mono ?_
          rintro e1 w1 ⟨rfl, hb1⟩
          have hD1 := HD0.out.below hb1
          clear HD0 hb1 ht a0 a1 a2 a3 a4 a5
          obtain ⟨a0, a1, a2, a3, a4, a5⟩ := hD1.rr.reads
          obtain ⟨f0, f1, f2, f3, f4, f5⟩ := hD1.rr.writes
          have HD1 : Hid _ := hD1
          clear hD1
          go_wp2_with fail
          have hD2 := HD1.out.six R
          clear HD1 a0 a1 a2 a3 a4 a5 f0 f1 f2 f3 f4 f5
          generalize ((((((w1.setCell ⟨w.heap.size + 1 + 1 + 1 + 1 + 1, 0, none⟩ (.int .u64 (wd R 0))).setCell ⟨w.heap.size + 1 + 1 + 1 + 1 + 1, 1, none⟩ (.int .u64 (wd R 1))).setCell ⟨w.heap.size + 1 + 1 + 1 + 1 + 1, 2, none⟩ (.int .u64 (wd R 2))).setCell ⟨w.heap.size + 1 + 1 + 1 + 1 + 1, 3, none⟩ (.int .u64 (wd R 3))).setCell ⟨w.heap.size + 1 + 1 + 1 + 1 + 1, 4, none⟩ (.int .u64 (wd R 4))).setCell ⟨w.heap.size + 1 + 1 + 1 + 1 + 1, 5, none⟩ (.int .u64 (wd R 5))) = w2 at hD2 ⊢
          have HR2 : Hid _ := hD2.rws
          have HD2 : Hid _ := hD2
          clear hD2
          refine region_last (p := 8) (by kernel_rfl) [.quiet (.pointer (some ⟨w.heap.size + 1 + 1 + 1 + 1 + 1, 0, none⟩)), .quiet (.int .u64 (wd R 0)), .quiet (N a), .quiet (.int .i64 i), .call (.int .i64 (e : Int)), .quiet (.int .u64 (e : Int)), .quiet (.int .u64 (bits .or .u64 (wd R 0) (e : Int))), .quiet (.pointer (some ⟨w.heap.size + 1 + 1 + 1 + 1 + 1, 0, none⟩)), .gone] (fun w' => Rws w' [(w.heap.size + 1 + 1 + 1 + 1 + 1, R), (w.heap.size, a)]) ?F2 _ (fun γ => ?hF) (by kernel_rfl) ?hL ?hS rfl rfl rfl rfl (by kernel_rfl) ?ho ?hl
          case hF =>
            simp only [fill, Kind.val, Act.put, List.setIfInBounds_toArray, List.set_cons_zero, List.set_cons_succ]
            exact rfl
          case hL => exact trivial
          case hS => exact fun w' hb => Rws.below HR2.out hb
          case ho =>
            refine AllOk.cons ?_ ?_
            · (refine fun γ => ⟨rfl, fun w' h => ?_⟩; clear h; go_simp)
            refine AllOk.cons ?_ ?_
            · (refine fun γ => ⟨rfl, fun w' h => ?_⟩; obtain ⟨h0, c0, c1, c2, c3, c4, c5⟩ := Rws.at h (g := (w.heap.size + 1 + 1 + 1 + 1 + 1)) (v := R) (by simp); clear h; go_simp)
            refine AllOk.cons ?_ ?_
            · exact fun γ => ⟨rfl, fun w' h => exec_load6 h (by simp) rfl rfl⟩
            refine AllOk.cons ?_ ?_
            · exact fun γ => ⟨rfl, fun w' _ => rfl⟩
            refine AllOk.cons ?_ ?_
            · exact fun γ => ⟨rfl, fun w' h => ⟨44, #[N a, .int .i64 i], exec_call rfl call44 rfl (by simp only [List.map_toArray, List.map_cons, List.map_nil]; rfl), CBi.out w'⟩⟩
            refine AllOk.cons ?_ ?_
            · (refine fun γ => ⟨rfl, fun w' h => ?_⟩; clear h; go_simp)
            refine AllOk.cons ?_ ?_
            · (refine fun γ => ⟨rfl, fun w' h => ?_⟩; clear h; go_simp)
            refine AllOk.cons ?_ ?_
            · (refine fun γ => ⟨rfl, fun w' h => ?_⟩; clear h; go_simp)
            exact trivial
          case hl =>
            intro γ w3 l hM hl K hK
            have hD3 := HD2.out.below hM.below
            have b0 := (hD3.rr 0 (by omega)).1
            have f0 := (hD3.rr 0 (by omega)).2
            have HD3 : Hid _ := hD3
            clear hD3 hM hl l HD2 HR2
            rw [if_pos (by rfl)]
            go_simp
            refine hK.out _ _ ?_
            clear hK b0 f0
            have hD4 := HD3.out.low HLB.out
            clear HD3
            generalize w3.setCell ⟨w.heap.size + 1 + 1 + 1 + 1 + 1, 0, none⟩ (.int .u64 (bits .or .u64 (wd R 0) (e : Int))) = w4 at hD4 ⊢
            clear γ
            obtain ⟨a0, a1, a2, a3, a4, a5⟩ := hD4.rr.reads
            obtain ⟨b0, b1, b2, b3, b4, b5⟩ := hD4.rb.reads
            have HD4 : Hid _ := hD4
            clear hD4
            go_wp2_with fail
            refine (CC.out _).mono ?_
            rintro e4 w4' ⟨rfl, hb4⟩
            have hD4' := HD4.out.below hb4
            clear HD4 hb4 a0 a1 a2 a3 a4 a5 b0 b1 b2 b3 b4 b5
            obtain ⟨a0, a1, a2, a3, a4, a5⟩ := hD4'.rr.reads
            obtain ⟨b0, b1, b2, b3, b4, b5⟩ := hD4'.rb.reads
            have HD4 : Hid _ := hD4'
            clear hD4'
            go_wp2_with fail
            refine (CS.out _).mono ?_
            rintro e3 w5 ⟨rfl, hb5⟩
            have hD5 := HD4.out.below hb5
            clear HD4 hb5 a0 a1 a2 a3 a4 a5 b0 b1 b2 b3 b4 b5
            obtain ⟨a0, a1, a2, a3, a4, a5⟩ := hD5.rr.reads
            obtain ⟨f0, f1, f2, f3, f4, f5⟩ := hD5.rr.writes
            have HD5 : Hid _ := hD5
            clear hD5
            go_wp2_with fail
            have hD6 := HD5.out.six rn
            clear HD5 a0 a1 a2 a3 a4 a5 f0 f1 f2 f3 f4 f5
            generalize ((((((w5.setCell ⟨w.heap.size + 1 + 1 + 1 + 1 + 1, 0, none⟩ (.int .u64 (wd rn 0))).setCell ⟨w.heap.size + 1 + 1 + 1 + 1 + 1, 1, none⟩ (.int .u64 (wd rn 1))).setCell ⟨w.heap.size + 1 + 1 + 1 + 1 + 1, 2, none⟩ (.int .u64 (wd rn 2))).setCell ⟨w.heap.size + 1 + 1 + 1 + 1 + 1, 3, none⟩ (.int .u64 (wd rn 3))).setCell ⟨w.heap.size + 1 + 1 + 1 + 1 + 1, 4, none⟩ (.int .u64 (wd rn 4))).setCell ⟨w.heap.size + 1 + 1 + 1 + 1 + 1, 5, none⟩ (.int .u64 (wd rn 5))) = w6 at hD6 ⊢
            obtain ⟨q1, q2⟩ := hD6.rq (i / 64) (by have := HE.out.2; omega)
            have HD6 : Hid _ := hD6
            clear hD6
            have hi := HE.out.2
            go_region
            go_wp2
            go_roundw
            case rel =>
              refine ⟨i, by omega, by go_num, ?_⟩
              rw [HN.out.1, HN.out.2]
              exact (HD6.out.bit (fun j => set_or q i j)).drew
            case measure => simp [RowKit.intOf] <;> omega
        · have hR : R = 2 * r := by rw [← hRR, ← Nat.two_mul, Nat.mod_eq_of_lt (by omega)]
          obtain ⟨hN1, hN2⟩ : dvr a b i = 2 * r + e ∧ dvq a b i = q := by
            rcases HST.out.1 with ⟨s1, _, _⟩ | ⟨_, s2, s3⟩
            · omega
            · exact ⟨s2, s3⟩
          rw [← hR] at hN1
          have cc := fun w => compare_ref (R + e) b (by omega) HB.out.1 w
          have hcv : decide ((0 : Int) ≤ cmpv (R + e) b) = false := decide_eq_false (by unfold cmpv; rw [if_neg (by omega), if_pos (by omega)]; omega)
          generalize cmpv (R + e) b = cv at cc hcv
          have CC : Hid _ := cc
          have HN : Hid (_ ∧ _) := ⟨hN2, hN1⟩
          clear cc hN1 hN2 hR hbt hRR c hrb hrg hH hbb he2
          go_wp2_with fail
          refine (CA.out _).mono ?_
          rintro e1 w1 ⟨rfl, hb1⟩
          have hD1 := HD0.out.below hb1
          clear HD0 hb1 ht a0 a1 a2 a3 a4 a5
          obtain ⟨a0, a1, a2, a3, a4, a5⟩ := hD1.rr.reads
          obtain ⟨f0, f1, f2, f3, f4, f5⟩ := hD1.rr.writes
          have HD1 : Hid _ := hD1
          clear hD1
          go_wp2_with fail
          have hD2 := HD1.out.six R
          clear HD1 a0 a1 a2 a3 a4 a5 f0 f1 f2 f3 f4 f5
          generalize ((((((w1.setCell ⟨w.heap.size + 1 + 1 + 1 + 1 + 1, 0, none⟩ (.int .u64 (wd R 0))).setCell ⟨w.heap.size + 1 + 1 + 1 + 1 + 1, 1, none⟩ (.int .u64 (wd R 1))).setCell ⟨w.heap.size + 1 + 1 + 1 + 1 + 1, 2, none⟩ (.int .u64 (wd R 2))).setCell ⟨w.heap.size + 1 + 1 + 1 + 1 + 1, 3, none⟩ (.int .u64 (wd R 3))).setCell ⟨w.heap.size + 1 + 1 + 1 + 1 + 1, 4, none⟩ (.int .u64 (wd R 4))).setCell ⟨w.heap.size + 1 + 1 + 1 + 1 + 1, 5, none⟩ (.int .u64 (wd R 5))) = w2 at hD2 ⊢
          have HR2 : Hid _ := hD2.rws
          have HD2 : Hid _ := hD2
          clear hD2
          refine region_last (p := 8) (by kernel_rfl) [.quiet (.pointer (some ⟨w.heap.size + 1 + 1 + 1 + 1 + 1, 0, none⟩)), .quiet (.int .u64 (wd R 0)), .quiet (N a), .quiet (.int .i64 i), .call (.int .i64 (e : Int)), .quiet (.int .u64 (e : Int)), .quiet (.int .u64 (bits .or .u64 (wd R 0) (e : Int))), .quiet (.pointer (some ⟨w.heap.size + 1 + 1 + 1 + 1 + 1, 0, none⟩)), .gone] (fun w' => Rws w' [(w.heap.size + 1 + 1 + 1 + 1 + 1, R), (w.heap.size, a)]) ?F3 _ (fun γ => ?hF) (by kernel_rfl) ?hL ?hS rfl rfl rfl rfl (by kernel_rfl) ?ho ?hl
          case hF =>
            simp only [fill, Kind.val, Act.put, List.setIfInBounds_toArray, List.set_cons_zero, List.set_cons_succ]
            exact rfl
          case hL => exact trivial
          case hS => exact fun w' hb => Rws.below HR2.out hb
          case ho =>
            refine AllOk.cons ?_ ?_
            · (refine fun γ => ⟨rfl, fun w' h => ?_⟩; clear h; go_simp)
            refine AllOk.cons ?_ ?_
            · (refine fun γ => ⟨rfl, fun w' h => ?_⟩; obtain ⟨h0, c0, c1, c2, c3, c4, c5⟩ := Rws.at h (g := (w.heap.size + 1 + 1 + 1 + 1 + 1)) (v := R) (by simp); clear h; go_simp)
            refine AllOk.cons ?_ ?_
            · exact fun γ => ⟨rfl, fun w' h => exec_load6 h (by simp) rfl rfl⟩
            refine AllOk.cons ?_ ?_
            · exact fun γ => ⟨rfl, fun w' _ => rfl⟩
            refine AllOk.cons ?_ ?_
            · exact fun γ => ⟨rfl, fun w' h => ⟨44, #[N a, .int .i64 i], exec_call rfl call44 rfl (by simp only [List.map_toArray, List.map_cons, List.map_nil]; rfl), CBi.out w'⟩⟩
            refine AllOk.cons ?_ ?_
            · (refine fun γ => ⟨rfl, fun w' h => ?_⟩; clear h; go_simp)
            refine AllOk.cons ?_ ?_
            · (refine fun γ => ⟨rfl, fun w' h => ?_⟩; clear h; go_simp)
            refine AllOk.cons ?_ ?_
            · (refine fun γ => ⟨rfl, fun w' h => ?_⟩; clear h; go_simp)
            exact trivial
          case hl =>
            intro γ w3 l hM hl K hK
            have hD3 := HD2.out.below hM.below
            have b0 := (hD3.rr 0 (by omega)).1
            have f0 := (hD3.rr 0 (by omega)).2
            have HD3 : Hid _ := hD3
            clear hD3 hM hl l HD2 HR2
            rw [if_pos (by rfl)]
            go_simp
            refine hK.out _ _ ?_
            clear hK b0 f0
            have hD4 := HD3.out.low HLB.out
            clear HD3
            generalize w3.setCell ⟨w.heap.size + 1 + 1 + 1 + 1 + 1, 0, none⟩ (.int .u64 (bits .or .u64 (wd R 0) (e : Int))) = w4 at hD4 ⊢
            clear γ
            obtain ⟨a0, a1, a2, a3, a4, a5⟩ := hD4.rr.reads
            obtain ⟨b0, b1, b2, b3, b4, b5⟩ := hD4.rb.reads
            have HD4 : Hid _ := hD4
            clear hD4
            go_wp2_with fail
            refine (CC.out _).mono ?_
            rintro e4 w4' ⟨rfl, hb4⟩
            have hD4' := HD4.out.below hb4
            clear HD4 hb4 a0 a1 a2 a3 a4 a5 b0 b1 b2 b3 b4 b5
            have HD4 : Hid _ := hD4'
            clear hD4'
            have hi := HE.out.2
            go_wp2
            go_roundw
            case rel =>
              refine ⟨i, by omega, by go_num, ?_⟩
              rw [HN.out.1, HN.out.2]
              exact HD4.out
            case measure => simp [RowKit.intOf] <;> omega
    · have hk0 : k = 0 := by omega
      subst hk0
      rw [show (((0 : Nat) : Int) - 1) = -1 from rfl]
      obtain ⟨e1, e2⟩ := dv_end a b
      rw [e1, e2] at hD
      obtain ⟨q0, q1, q2, q3, q4, q5⟩ := hD.rq.reads
      obtain ⟨r0, r1, r2, r3, r4, r5⟩ := hD.rr.reads
      obtain ⟨z0, z1, z2, z3, z4, z5⟩ := hD.z2.writes
      obtain ⟨y0, y1, y2, y3, y4, y5⟩ := hD.z2.reads
      obtain ⟨x0, x1, x2, x3, x4, x5⟩ := hD.z3.writes
      obtain ⟨v0, v1, v2, v3, v4, v5⟩ := hD.z3.reads
      have HW : Hid _ := hD.bl
      have HS : Hid _ := hD.sz
      clear hD e1 e2 hk h0 CB HA HB
      go_wp2
      go_region
      go_wp2
      refine bodyPost_ret (v := .tuple #[N (a / b), N (a % b), .int .i64 0]) ?_ rfl ⟨rfl, ?_⟩
      · simp [results, Tryd.results42, go_sem, *]
      · exact (below6 (below6 HW.out (by omega) _ _ _ _ _ _) (by omega) _ _ _ _ _ _).drew
theorem divide_ref (a b : Nat) (ha : a < big) (hb : b < big) (w : World) :
    Calls Tryd.prog 42 #[N a, N b] w fun e w' => e = .returned (.tuple #[N (if b = 0 then 0 else a / b), N (if b = 0 then 0 else a % b), .int .i64 (if b = 0 then 2 else 0)]) ∧ Below w.heap.size w w' := by
  by_cases h : b = 0
  · rw [if_pos h, if_pos h, if_pos h, h]; exact divide_ref_none a w
  · rw [if_neg h, if_neg h, if_neg h]; exact divide_ref_some a b ha hb h w
end Go.Proofs.YtkfannhbnbgloaaDoor
/- The plain arithmetic of the document's Mul: halves of words. -/
namespace Go.Proofs.YtkfannhbnbgloaaDoor
open Go.RowKit

/-- Half i of a number's words. -/
def hfd (v i : Nat) : Int := ((v / 2 ^ (32 * i) % 4294967296 : Nat) : Int)
def mulHh (x y p c : Int) : Int := (x * y + p + c) / 4294967296
def mulLh (x y p c : Int) : Int := (x * y + p + c) % 4294967296
theorem Hpow_step (k : Nat) : 2 ^ (32 * (k + 1)) = 2 ^ (32 * k) * 4294967296 := by
  rw [Nat.mul_add, Nat.pow_add]
theorem Hpow_pos' (k : Nat) : 0 < 2 ^ (32 * k) := Nat.two_pow_pos _
theorem big_half : big = 2 ^ (32 * 12) := by
  obtain ⟨n, hn, e⟩ := big_pow
  rw [e, show 64 * n = 32 * 12 by omega]
/-- Word i as a natural number. -/
def hn (v i : Nat) : Nat := v / 2 ^ (32 * i) % 4294967296
theorem Hwd_wn (v i : Nat) : hfd v i = (hn v i : Int) := rfl
theorem Hwn_lt (v i : Nat) : hn v i < 4294967296 := Nat.mod_lt _ (by decide)
theorem Hmod_step (v k : Nat) : v % 2 ^ (32 * (k + 1)) = v % 2 ^ (32 * k) + 2 ^ (32 * k) * hn v k := by
  rw [Hpow_step, Nat.mod_mul]; rfl

/-- The sum behind j rounds of row i: what was there, and word i of a times the lowest j words of b. -/
def smh (a b i j : Nat) : Nat := (a % 2 ^ (32 * i)) * b + hn a i * (b % 2 ^ (32 * j)) * 2 ^ (32 * i)
def pmh (V S t m : Nat) : Int := if m < t then hfd S m else hfd V m
def mch (a b i j : Nat) : Int := ((((a % 2 ^ (32 * i)) * b) % 2 ^ (32 * (i + j)) + hn a i * (b % 2 ^ (32 * j)) * 2 ^ (32 * i)) / 2 ^ (32 * (i + j)) : Nat)

theorem Hpow_add' (i j : Nat) : 2 ^ (32 * (i + j)) = 2 ^ (32 * i) * 2 ^ (32 * j) := by rw [Nat.mul_add, Nat.pow_add]
theorem Hsm_zero (a b i : Nat) : smh a b i 0 = (a % 2 ^ (32 * i)) * b := by unfold smh; simp [Nat.mod_one]
theorem Hsm_end (a b i : Nat) (hb : b < big) : smh a b i 12 = (a % 2 ^ (32 * (i + 1))) * b := by
  unfold smh
  rw [← big_half, Nat.mod_eq_of_lt hb, Hmod_step, Nat.add_mul]
  congr 1
  rw [Nat.mul_assoc, Nat.mul_comm b, ← Nat.mul_assoc, Nat.mul_comm (hn a i)]
theorem Hsm_step (a b i j : Nat) : smh a b i (j + 1) = smh a b i j + 2 ^ (32 * (i + j)) * (hn a i * hn b j) := by
  unfold smh
  rw [Hmod_step b j, Nat.mul_add, Nat.add_mul, ← Nat.add_assoc]
  congr 1
  rw [Hpow_add']
  simp only [Nat.mul_comm, Nat.mul_left_comm, Nat.mul_assoc]
theorem Hmc_nat (a b i j : Nat) : (((a % 2 ^ (32 * i)) * b) % 2 ^ (32 * (i + j)) + hn a i * (b % 2 ^ (32 * j)) * 2 ^ (32 * i)) / 2 ^ (32 * (i + j)) < 4294967296 := by
  have hq := Hpow_pos' (i + j)
  have h1 := Nat.mod_lt ((a % 2 ^ (32 * i)) * b) hq
  have h2 := Hwn_lt a i
  have h3 := Nat.mod_lt b (Hpow_pos' j)
  rw [Nat.div_lt_iff_lt_mul hq]
  have h4 : hn a i * (b % 2 ^ (32 * j)) * 2 ^ (32 * i) ≤ 4294967295 * 2 ^ (32 * j) * 2 ^ (32 * i) :=
    Nat.mul_le_mul_right _ (Nat.mul_le_mul (by omega) (by omega))
  have h5 : 4294967295 * 2 ^ (32 * j) * 2 ^ (32 * i) = 4294967295 * 2 ^ (32 * (i + j)) := by
    rw [Hpow_add', Nat.mul_assoc, Nat.mul_comm (2 ^ (32 * j))]
  generalize 2 ^ (32 * (i + j)) = Q at *
  omega
theorem Hmc_bd (a b i j : Nat) : 0 ≤ mch a b i j ∧ mch a b i j < 4294967296 :=
  ⟨Int.natCast_nonneg _, Int.ofNat_lt.2 (Hmc_nat a b i j)⟩
theorem Hmc_zero (a b i : Nat) : mch a b i 0 = 0 := by
  unfold mch
  rw [Nat.add_zero, Nat.mul_zero, Nat.pow_zero, Nat.mod_one, Nat.mul_zero, Nat.zero_mul, Nat.add_zero, Nat.div_eq_of_lt (Nat.mod_lt _ (Hpow_pos' i))]
  rfl

/-- One step's two words. -/
theorem Hmul_core (V s : Nat) (x y : Nat) (Q : Nat) (hQ : 0 < Q) :
    (V % (Q * 4294967296) + (s + Q * (x * y))) / (Q * 4294967296) = (x * y + V / Q % 4294967296 + (V % Q + s) / Q) / 4294967296 ∧
    (V + (s + Q * (x * y))) / Q % 4294967296 = (x * y + V / Q % 4294967296 + (V % Q + s) / Q) % 4294967296 := by
  constructor
  · rw [Nat.mod_mul, ← Nat.div_div_eq_div_mul]
    have e : V % Q + Q * (V / Q % 4294967296) + (s + Q * (x * y)) = (V % Q + s) + Q * (x * y + V / Q % 4294967296) := by rw [Nat.mul_add]; omega
    rw [e, Nat.add_mul_div_left _ _ hQ]
    congr 1
    omega
  · have e : V + (s + Q * (x * y)) = (V % Q + s) + Q * (x * y + V / Q) := by
      have := Nat.div_add_mod V Q
      rw [Nat.mul_add]; omega
    rw [e, Nat.add_mul_div_left _ _ hQ]
    omega
theorem Hmul_hi (a b i j : Nat) : mulHh (hfd a i) (hfd b j) (hfd ((a % 2 ^ (32 * i)) * b) (i + j)) (mch a b i j) = mch a b i (j + 1) := by
  unfold mulHh mch
  have e := (Hmul_core ((a % 2 ^ (32 * i)) * b) (hn a i * (b % 2 ^ (32 * j)) * 2 ^ (32 * i)) (hn a i) (hn b j) _ (Hpow_pos' (i + j))).1
  have e2 : hn a i * (b % 2 ^ (32 * (j + 1))) * 2 ^ (32 * i) = hn a i * (b % 2 ^ (32 * j)) * 2 ^ (32 * i) + 2 ^ (32 * (i + j)) * (hn a i * hn b j) := by
    have := Hsm_step a b i j
    unfold smh at this
    omega
  rw [← Nat.add_assoc i j 1, Hpow_step (i + j), e2, e, Hwd_wn, Hwd_wn, Hwd_wn]
  unfold hn
  rw [← Int.natCast_mul, ← Int.natCast_add, ← Int.natCast_add]
  rfl
theorem Hmul_lo (a b i j : Nat) : mulLh (hfd a i) (hfd b j) (hfd ((a % 2 ^ (32 * i)) * b) (i + j)) (mch a b i j) = hfd (smh a b i (j + 1)) (i + j) := by
  unfold mulLh mch
  have e := (Hmul_core ((a % 2 ^ (32 * i)) * b) (hn a i * (b % 2 ^ (32 * j)) * 2 ^ (32 * i)) (hn a i) (hn b j) _ (Hpow_pos' (i + j))).2
  rw [Hwd_wn (smh a b i (j + 1))]
  unfold hn at e ⊢
  have es : smh a b i (j + 1) = (a % 2 ^ (32 * i)) * b + (hn a i * (b % 2 ^ (32 * j)) * 2 ^ (32 * i) + 2 ^ (32 * (i + j)) * (hn a i * hn b j)) := by
    rw [Hsm_step]; unfold smh; omega
  rw [es]
  unfold hn
  rw [e, Hwd_wn, Hwd_wn, Hwd_wn]
  unfold hn
  rw [← Int.natCast_mul, ← Int.natCast_add, ← Int.natCast_add]
  rfl
/-- Words below place t don't see what is added from place t on. -/
theorem Hwd_low (S x t m : Nat) (h : m < t) : hfd (S + 2 ^ (32 * t) * x) m = hfd S m := by
  unfold hfd
  have e : 2 ^ (32 * t) = 2 ^ (32 * m) * (4294967296 * 2 ^ (32 * (t - m - 1))) := by
    have : 32 * t = 32 * m + (32 + 32 * (t - m - 1)) := by omega
    rw [this, Nat.pow_add, Nat.pow_add]
  rw [e, Nat.mul_assoc, Nat.add_mul_div_left _ _ (Hpow_pos' m), Nat.mul_assoc, Nat.add_mul_mod_self_left]
theorem Hpm_step (a b i j m : Nat) : upd (pmh ((a % 2 ^ (32 * i)) * b) (smh a b i j) (i + j)) (i + j) (hfd (smh a b i (j + 1)) (i + j)) m = pmh ((a % 2 ^ (32 * i)) * b) (smh a b i (j + 1)) (i + j + 1) m := by
  unfold upd pmh
  by_cases h1 : m = i + j
  · subst h1; rw [if_pos rfl, if_pos (by omega)]
  · rw [if_neg h1]
    by_cases h2 : m < i + j
    · rw [if_pos h2, if_pos (by omega), Hsm_step, Hwd_low _ _ _ _ h2]
    · rw [if_neg h2, if_neg (by omega)]
theorem Hwd_high (S t m : Nat) (hS : S < 2 ^ (32 * t)) (h : t ≤ m) : hfd S m = 0 := by
  unfold hfd
  have : S < 2 ^ (32 * m) := Nat.lt_of_lt_of_le hS (Nat.pow_le_pow_right (by omega) (by omega))
  rw [Nat.div_eq_of_lt this]; rfl
theorem Hlow_lt (a b i : Nat) (hb : b < big) : (a % 2 ^ (32 * i)) * b < 2 ^ (32 * (i + 12)) := by
  rw [Hpow_add', ← big_half]
  have h1 := Nat.mod_lt a (Hpow_pos' i)
  calc (a % 2 ^ (32 * i)) * b ≤ 2 ^ (32 * i) * b := Nat.mul_le_mul_right _ (by omega)
    _ < 2 ^ (32 * i) * big := Nat.mul_lt_mul_of_pos_left hb (Hpow_pos' i)
theorem Hsm_def (a b i j : Nat) : smh a b i j = (a % 2 ^ (32 * i)) * b + hn a i * (b % 2 ^ (32 * j)) * 2 ^ (32 * i) := rfl
theorem Hsm_lt (a b i : Nat) (hb : b < big) : smh a b i 12 < 2 ^ (32 * (i + 12 + 1)) := by
  rw [Hsm_end a b i hb]
  have h := Hlow_lt a b (i + 1) hb
  have e : i + 1 + 12 = i + 12 + 1 := by omega
  rw [e] at h
  exact h
theorem Hmc_end' (a b i n : Nat) (h1 : (a % 2 ^ (32 * i)) * b < 2 ^ (32 * (i + n))) (hlt : smh a b i n < 2 ^ (32 * (i + n + 1))) : mch a b i n = hfd (smh a b i n) (i + n) := by
  rw [Hpow_step] at hlt
  unfold mch hfd
  rw [Nat.mod_eq_of_lt h1, ← Hsm_def]
  generalize smh a b i n = S at hlt ⊢
  have hp := Hpow_pos' (i + n)
  generalize 2 ^ (32 * (i + n)) = Q at hlt hp ⊢
  rw [Nat.mod_eq_of_lt ((Nat.div_lt_iff_lt_mul hp).2 (by rw [Nat.mul_comm]; exact hlt))]
theorem Hmc_end (a b i : Nat) (hb : b < big) : mch a b i 12 = hfd (smh a b i 12) (i + 12) := Hmc_end' a b i 12 (Hlow_lt a b i hb) (Hsm_lt a b i hb)
theorem Hpm_end (a b i m : Nat) (hb : b < big) : upd (pmh ((a % 2 ^ (32 * i)) * b) (smh a b i 12) (i + 12)) (i + 12) (mch a b i 12) m = hfd ((a % 2 ^ (32 * (i + 1))) * b) m := by
  rw [Hmc_end a b i hb, ← Hsm_end a b i hb]
  unfold upd pmh
  by_cases h1 : m = i + 12
  · subst h1; rw [if_pos rfl]
  · rw [if_neg h1]
    by_cases h2 : m < i + 12
    · rw [if_pos h2]
    · rw [if_neg h2, Hwd_high _ (i + 12) _ (Hlow_lt a b i hb) (by omega)]
      rw [Hwd_high _ (i + 12 + 1) _ (Hsm_lt a b i hb) (by omega)]
theorem Hpm_start (a b i m : Nat) : pmh ((a % 2 ^ (32 * i)) * b) (smh a b i 0) (i + 0) m = hfd ((a % 2 ^ (32 * i)) * b) m := by
  unfold pmh; rw [Hsm_zero]; split <;> rfl

/-- Two halves are a word. -/
theorem half_low (v i : Nat) : bits .and .u64 (wd v i) 4294967295 = hfd v (2 * i) := by
  unfold hfd
  rw [wd_shr, show 32 * (2 * i) = 64 * i by omega, ← Nat.shiftRight_eq_div_pow]
  have h := bits_and_u64_nat (v >>> (64 * i) % 2 ^ 64) 4294967295 (Nat.mod_lt _ (by decide)) (by decide)
  rw [show ((4294967295 : Nat) : Int) = 4294967295 from rfl] at h
  rw [h, show (4294967295 : Nat) = 2 ^ 32 - 1 from rfl, Nat.and_two_pow_sub_one_eq_mod, show (4294967296 : Nat) = 2 ^ 32 from rfl, Nat.mod_mod_of_dvd _ (Nat.pow_dvd_pow 2 (by decide))]
theorem half_high (v i : Nat) : wd v i / 4294967296 = hfd v (2 * i + 1) := by
  unfold wd hfd
  rw [show 32 * (2 * i + 1) = 64 * i + 32 by omega, Nat.pow_add, ← Nat.div_div_eq_div_mul, show (2 : Nat) ^ 32 = 4294967296 from rfl]
  omega
theorem half_bd (v i : Nat) : 0 ≤ hfd v i ∧ hfd v i < 4294967296 := by unfold hfd; omega
theorem half_join (v i : Nat) : bits .or .u64 (hfd v (2 * i)) (IntKind.u64.wrap (hfd v (2 * i + 1) * 4294967296)) = wd v i := by
  have h1 := half_bd v (2 * i + 1)
  have e : IntKind.u64.wrap (hfd v (2 * i + 1) * 4294967296) = hfd v (2 * i + 1) * 4294967296 := by rw [IntKind.wrap_u64]; omega
  rw [e]
  unfold hfd
  have h2 : v / 2 ^ (32 * (2 * i)) % 4294967296 < 2 ^ 32 := Nat.mod_lt _ (by decide)
  have h3 : v / 2 ^ (32 * (2 * i + 1)) % 4294967296 < 2 ^ 32 := Nat.mod_lt _ (by decide)
  have e3 : wd v i = ((v / 2 ^ (32 * (2 * i + 1)) % 4294967296 * 4294967296 + v / 2 ^ (32 * (2 * i)) % 4294967296 : Nat) : Int) := by
    unfold wd
    rw [show 32 * (2 * i + 1) = 64 * i + 32 by omega, show 32 * (2 * i) = 64 * i by omega, Nat.pow_add, ← Nat.div_div_eq_div_mul, show (2 : Nat) ^ 32 = 4294967296 from rfl]
    omega
  generalize v / 2 ^ (32 * (2 * i + 1)) % 4294967296 = h at h3 e3 ⊢
  generalize v / 2 ^ (32 * (2 * i)) % 4294967296 = l at h2 e3 ⊢
  rw [e3, show ((h : Nat) : Int) * 4294967296 = ((h * 4294967296 : Nat) : Int) by omega, bits_or_u64_nat l (h * 4294967296) (by omega) (by omega)]
  have h5 := Nat.shiftLeft_add_eq_or_of_lt (b := l) (i := 32) h2 h
  rw [Nat.shiftLeft_eq, show (2 : Nat) ^ 32 = 4294967296 from rfl] at h5
  rw [Nat.or_comm, ← h5]
theorem half_join_hi (v i : Nat) : bits .or .u64 (hfd v (2 * i + 12)) (IntKind.u64.wrap (hfd v (2 * i + 13) * 4294967296)) = wd (v / big) i := by
  have h := half_join v (i + 6)
  rw [show 2 * (i + 6) = 2 * i + 12 by omega, show 2 * i + 12 + 1 = 2 * i + 13 by omega, wd_hi] at h
  exact h
end Go.Proofs.YtkfannhbnbgloaaDoor
/- The document's own halves of a number. -/
namespace Go.Proofs.YtkfannhbnbgloaaDoor
open Go.RowKit

abbrev H12 (v : Nat) : Value := .agg #[.int .u64 (hfd v 0), .int .u64 (hfd v 1), .int .u64 (hfd v 2), .int .u64 (hfd v 3), .int .u64 (hfd v 4), .int .u64 (hfd v 5), .int .u64 (hfd v 6), .int .u64 (hfd v 7), .int .u64 (hfd v 8), .int .u64 (hfd v 9), .int .u64 (hfd v 10), .int .u64 (hfd v 11)]
def parth (v k j : Nat) : Int := if j < 2 * k then hfd v j else 0
theorem parth_step (v k j : Nat) : upd (upd (parth v k) (2 * k) (hfd v (2 * k))) (2 * k + 1) (hfd v (2 * k + 1)) j = parth v (k + 1) j := by
  unfold upd parth
  by_cases h1 : j = 2 * k + 1
  · subst h1; rw [if_pos rfl, if_pos (by omega)]
  · rw [if_neg h1]
    by_cases h2 : j = 2 * k
    · subst h2; rw [if_pos rfl, if_pos (by omega)]
    · rw [if_neg h2]
      by_cases h3 : j < 2 * k
      · rw [if_pos h3, if_pos (by omega)]
      · rw [if_neg h3, if_neg (by omega)]
theorem twenty_four_zero {c : Array Value} (h : c = #[.int .u64 0, .int .u64 0, .int .u64 0, .int .u64 0, .int .u64 0, .int .u64 0, .int .u64 0, .int .u64 0, .int .u64 0, .int .u64 0, .int .u64 0, .int .u64 0, .int .u64 0, .int .u64 0, .int .u64 0, .int .u64 0, .int .u64 0, .int .u64 0, .int .u64 0, .int .u64 0, .int .u64 0, .int .u64 0, .int .u64 0, .int .u64 0]) : ∀ j, j < 24 → c[j]? = some (.int .u64 0) := by
  subst h
  intro j hj
  by_cases h : j < 12
  · match j, h with
    | 0, _ | 1, _ | 2, _ | 3, _ | 4, _ | 5, _ | 6, _ | 7, _ | 8, _ | 9, _ | 10, _ | 11, _ => rfl
  · obtain ⟨i, rfl⟩ : ∃ i, j = i + 12 := ⟨j - 12, by omega⟩
    have hi : i < 12 := by omega
    clear h hj
    match i, hi with
    | 0, _ | 1, _ | 2, _ | 3, _ | 4, _ | 5, _ | 6, _ | 7, _ | 8, _ | 9, _ | 10, _ | 11, _ => rfl
theorem Row.reads12 {w : World} {g : Nat} {f : Nat → Int} (h : Row w g 12 f) : w.cell? ⟨g, 0, none⟩ = some (.int .u64 (f 0)) ∧ w.cell? ⟨g, 1, none⟩ = some (.int .u64 (f 1)) ∧ w.cell? ⟨g, 2, none⟩ = some (.int .u64 (f 2)) ∧ w.cell? ⟨g, 3, none⟩ = some (.int .u64 (f 3)) ∧ w.cell? ⟨g, 4, none⟩ = some (.int .u64 (f 4)) ∧ w.cell? ⟨g, 5, none⟩ = some (.int .u64 (f 5)) ∧ w.cell? ⟨g, 6, none⟩ = some (.int .u64 (f 6)) ∧ w.cell? ⟨g, 7, none⟩ = some (.int .u64 (f 7)) ∧ w.cell? ⟨g, 8, none⟩ = some (.int .u64 (f 8)) ∧ w.cell? ⟨g, 9, none⟩ = some (.int .u64 (f 9)) ∧ w.cell? ⟨g, 10, none⟩ = some (.int .u64 (f 10)) ∧ w.cell? ⟨g, 11, none⟩ = some (.int .u64 (f 11)) :=
  ⟨(h 0 (by omega)).1, (h 1 (by omega)).1, (h 2 (by omega)).1, (h 3 (by omega)).1, (h 4 (by omega)).1, (h 5 (by omega)).1, (h 6 (by omega)).1, (h 7 (by omega)).1, (h 8 (by omega)).1, (h 9 (by omega)).1, (h 10 (by omega)).1, (h 11 (by omega)).1⟩
theorem Row.writes12 {w : World} {g : Nat} {f : Nat → Int} (h : Row w g 12 f) : w.frozen? ⟨g, 0, none⟩ = false ∧ w.frozen? ⟨g, 1, none⟩ = false ∧ w.frozen? ⟨g, 2, none⟩ = false ∧ w.frozen? ⟨g, 3, none⟩ = false ∧ w.frozen? ⟨g, 4, none⟩ = false ∧ w.frozen? ⟨g, 5, none⟩ = false ∧ w.frozen? ⟨g, 6, none⟩ = false ∧ w.frozen? ⟨g, 7, none⟩ = false ∧ w.frozen? ⟨g, 8, none⟩ = false ∧ w.frozen? ⟨g, 9, none⟩ = false ∧ w.frozen? ⟨g, 10, none⟩ = false ∧ w.frozen? ⟨g, 11, none⟩ = false :=
  ⟨(h 0 (by omega)).2, (h 1 (by omega)).2, (h 2 (by omega)).2, (h 3 (by omega)).2, (h 4 (by omega)).2, (h 5 (by omega)).2, (h 6 (by omega)).2, (h 7 (by omega)).2, (h 8 (by omega)).2, (h 9 (by omega)).2, (h 10 (by omega)).2, (h 11 (by omega)).2⟩
theorem below12 {B g : Nat} {w wr : World} (h : Below B w wr) (hg : B ≤ g) (v : Nat → Value) : Below B w ((((((((((((wr.setCell ⟨g, 0, none⟩ (v 0)).setCell ⟨g, 1, none⟩ (v 1)).setCell ⟨g, 2, none⟩ (v 2)).setCell ⟨g, 3, none⟩ (v 3)).setCell ⟨g, 4, none⟩ (v 4)).setCell ⟨g, 5, none⟩ (v 5)).setCell ⟨g, 6, none⟩ (v 6)).setCell ⟨g, 7, none⟩ (v 7)).setCell ⟨g, 8, none⟩ (v 8)).setCell ⟨g, 9, none⟩ (v 9)).setCell ⟨g, 10, none⟩ (v 10)).setCell ⟨g, 11, none⟩ (v 11)) :=
  ((((((((((((h.setCell (p := ⟨g, 0, none⟩) hg _).setCell (p := ⟨g, 1, none⟩) hg _).setCell (p := ⟨g, 2, none⟩) hg _).setCell (p := ⟨g, 3, none⟩) hg _).setCell (p := ⟨g, 4, none⟩) hg _).setCell (p := ⟨g, 5, none⟩) hg _).setCell (p := ⟨g, 6, none⟩) hg _).setCell (p := ⟨g, 7, none⟩) hg _).setCell (p := ⟨g, 8, none⟩) hg _).setCell (p := ⟨g, 9, none⟩) hg _).setCell (p := ⟨g, 10, none⟩) hg _).setCell (p := ⟨g, 11, none⟩) hg _)
set_option maxHeartbeats 2000000 in
set_option maxRecDepth 100000 in
theorem halves_any (a : Nat) (w : World) :
    Calls Tryd.prog 65 #[N a] w fun e w' => e = .returned (H12 a) ∧ Below w.heap.size w w' := by
  go_enter Tryd.func65, Tryd.ntmps65
  go_wp2
  go_loopw [4] (fun i wr => ∃ k : Nat, k ≤ 6 ∧ i = .int .i64 k ∧ Row wr w.heap.size 6 (wd a) ∧ Row wr (w.heap.size + 1) 12 (fun _ => 0) ∧ Row wr (w.heap.size + 1 + 1) 12 (parth a k) ∧ Below w.heap.size w wr) (fun i _ => 6 - (intOf i).toNat)
  case atStart =>
    refine ⟨0, by omega, rfl, ?_, ?_, ?_, ?_⟩
    · exact ((Row.new w _ 24 rfl (six_lt rfl)).alloc (by simp) _).alloc (by simp; omega) _
    · exact (Row.new _ _ 61 (by simp) (f := fun _ => 0) (twelve_zero rfl)).alloc (by simp) _
    · exact (Row.new _ _ 61 (by simp) (f := fun _ => 0) (twelve_zero rfl)).congr (fun j _ => by unfold parth; rw [if_neg (by omega)])
    · exact (((Below.refl _ _).alloc (Nat.le_refl _) _).alloc (by simp) _).alloc (by simp; omega) _
  case round =>
    obtain ⟨k, hk, rfl, hA, hZ, hS, hw⟩ := hrel
    by_cases hlt : k < 6
    · have hA1 := (hA k hlt).1
      obtain ⟨s1, s2⟩ := hS (2 * k) (by omega)
      obtain ⟨s3, s4⟩ := hS (2 * k + 1) (by omega)
      have hl := half_low a k
      have hh := half_high a k
      have e0 : IntKind.i64.wrap (2 * (k : Int)) = 2 * (k : Int) := by rw [IntKind.wrap_i64]; omega
      have e1 : IntKind.i64.wrap (2 * (k : Int) + 1) = 2 * (k : Int) + 1 := by rw [IntKind.wrap_i64]; omega
      have t0 : (2 * (k : Int)).toNat = 2 * k := by omega
      have t1 : (2 * (k : Int) + 1).toNat = 2 * k + 1 := by omega
      have b0 : (0 : Int) ≤ 2 * (k : Int) := by omega
      have b1 : 2 * (k : Int) < 12 := by omega
      have b2 : (0 : Int) ≤ 2 * (k : Int) + 1 := by omega
      have b3 : 2 * (k : Int) + 1 < 12 := by omega
      have HM : Hid (_ ∧ _ ∧ _ ∧ _) := ⟨hA, hZ, hS, hw⟩
      clear hA hZ hS hw
      go_wp2
      go_roundw
      case rel =>
        obtain ⟨hA, hZ, hS, hw⟩ := HM.out
        exact ⟨k + 1, by omega, by go_num, (hA.set_other _ (by simp <;> omega)).set_other _ (by simp <;> omega), (hZ.set_other _ (by simp <;> omega)).set_other _ (by simp <;> omega), ((hS.set _).set _).congr (fun j _ => parth_step a k j), (hw.setCell (by simp <;> omega) _).setCell (by simp <;> omega) _⟩
      case measure => simp [intOf] <;> omega
    · have hk6 : k = 6 := by omega
      subst hk6
      rw [show ((6 : Nat) : Int) = 6 from rfl]
      obtain ⟨s0, s1, s2, s3, s4, s5, s6, s7, s8, s9, s10, s11⟩ := (hS.congr (f' := hfd a) (fun j hj => by unfold parth; rw [if_pos (by omega)])).reads12
      obtain ⟨z0, z1, z2, z3, z4, z5, z6, z7, z8, z9, z10, z11⟩ := hZ.writes12
      obtain ⟨y0, y1, y2, y3, y4, y5, y6, y7, y8, y9, y10, y11⟩ := hZ.reads12
      have HW : Hid _ := hw
      clear hA hZ hS hw
      go_wp2
      refine bodyPost_ret (v := H12 a) ?_ rfl ⟨rfl, ?_⟩
      · simp [results, Tryd.results65, go_sem, *]
      · exact below12 HW.out (by omega) (fun j => .int .u64 (hfd a j))
end Go.Proofs.YtkfannhbnbgloaaDoor
/- The document's own Mul, walked. -/
namespace Go.Proofs.YtkfannhbnbgloaaDoor
open Go.RowKit

abbrev cells12 (v : Nat) : List Value := [.int .u64 (hfd v 0), .int .u64 (hfd v 1), .int .u64 (hfd v 2), .int .u64 (hfd v 3), .int .u64 (hfd v 4), .int .u64 (hfd v 5), .int .u64 (hfd v 6), .int .u64 (hfd v 7), .int .u64 (hfd v 8), .int .u64 (hfd v 9), .int .u64 (hfd v 10), .int .u64 (hfd v 11)]
abbrev zero12 : List Value := [.int .u64 0, .int .u64 0, .int .u64 0, .int .u64 0, .int .u64 0, .int .u64 0, .int .u64 0, .int .u64 0, .int .u64 0, .int .u64 0, .int .u64 0, .int .u64 0]
theorem Blk.row12 {w : World} {g v : Nat} (h : Blk w g (cells12 v)) : Row w g 12 (hfd v) := fun j hj => by
  match j, hj with
  | 0, _ => exact h 0 _ rfl
  | 1, _ => exact h 1 _ rfl
  | 2, _ => exact h 2 _ rfl
  | 3, _ => exact h 3 _ rfl
  | 4, _ => exact h 4 _ rfl
  | 5, _ => exact h 5 _ rfl
  | 6, _ => exact h 6 _ rfl
  | 7, _ => exact h 7 _ rfl
  | 8, _ => exact h 8 _ rfl
  | 9, _ => exact h 9 _ rfl
  | 10, _ => exact h 10 _ rfl
  | 11, _ => exact h 11 _ rfl
theorem exec_made12 {ρ : Operand → Value} {o : Oper} {w : World} (ho : o.op = .alloc 61) :
    (execOp ρ o).run Tryd.prog w = .ok (.value (.pointer (some ⟨w.heap.size, 0, none⟩))) (w.alloc (.cells zero12.toArray 61)) := by
  simp only [execOp, ho]
  go_simp
theorem exec_laid12 {ρ : Operand → Value} {o : Oper} {x y : Operand} {g v : Nat} {w : World} (h : Blk w g zero12) (ho : o.op = .store 61 x y) (hx : ρ x = .pointer (some ⟨g, 0, none⟩)) (hy : ρ y = H12 v) :
    (execOp ρ o).run Tryd.prog w = .ok .skip (w.setCells g 0 (cells12 v)) := by
  obtain ⟨c0, f0⟩ := h 0 _ rfl
  obtain ⟨c1, f1⟩ := h 1 _ rfl
  obtain ⟨c2, f2⟩ := h 2 _ rfl
  obtain ⟨c3, f3⟩ := h 3 _ rfl
  obtain ⟨c4, f4⟩ := h 4 _ rfl
  obtain ⟨c5, f5⟩ := h 5 _ rfl
  obtain ⟨c6, f6⟩ := h 6 _ rfl
  obtain ⟨c7, f7⟩ := h 7 _ rfl
  obtain ⟨c8, f8⟩ := h 8 _ rfl
  obtain ⟨c9, f9⟩ := h 9 _ rfl
  obtain ⟨c10, f10⟩ := h 10 _ rfl
  obtain ⟨c11, f11⟩ := h 11 _ rfl
  clear h
  simp only [execOp, ho, hx, hy]
  go_simp
  simp [World.setCells]
/-- The memory of the document's Mul: two results, the halves of a and of b, the product's halves. -/
structure MM (w wr : World) (gx gy gp a b : Nat) (p : Nat → Int) : Prop where
  rl : Row wr (w.heap.size + 1 + 1) 6 (fun _ => 0)
  rh : Row wr (w.heap.size + 1 + 1 + 1) 6 (fun _ => 0)
  rx : Row wr gx 12 (hfd a)
  ry : Row wr gy 12 (hfd b)
  rp : Row wr gp 24 p
  o1 : w.heap.size + 1 + 1 + 1 < gx ∧ gx < gp
  o2 : w.heap.size + 1 + 1 + 1 < gy ∧ gy < gp
  sz : gp < wr.heap.size
  bl : Below w.heap.size w wr
theorem MM.store {w wr : World} {gx gy gp a b : Nat} {p : Nat → Int} (h : MM w wr gx gy gp a b p) (k : Nat) (v : Int) : MM w (wr.setCell ⟨gp, k, none⟩ (.int .u64 v)) gx gy gp a b (upd p k v) :=
  have h1 := h.o1
  have h2 := h.o2
  ⟨h.rl.set_other _ (by simp <;> omega), h.rh.set_other _ (by simp <;> omega), h.rx.set_other _ (by simp <;> omega), h.ry.set_other _ (by simp <;> omega), h.rp.set _, h1, h2, by simpa using h.sz, h.bl.setCell (by simp <;> omega) _⟩
theorem MM.drew {w wr : World} {gx gy gp a b : Nat} {p : Nat → Int} (h : MM w wr gx gy gp a b p) : MM w wr.drew gx gy gp a b p :=
  ⟨h.rl.drew, h.rh.drew, h.rx.drew, h.ry.drew, h.rp.drew, h.o1, h.o2, h.sz, h.bl.drew⟩
theorem MM.congr {w wr : World} {gx gy gp a b : Nat} {p p' : Nat → Int} (h : MM w wr gx gy gp a b p) (e : ∀ j, j < 24 → p j = p' j) : MM w wr gx gy gp a b p' :=
  ⟨h.rl, h.rh, h.rx, h.ry, h.rp.congr e, h.o1, h.o2, h.sz, h.bl⟩
/-- One step's arithmetic, as the machine reckons it. -/
theorem mul_t (x y p c : Int) (x0 : 0 ≤ x) (x1 : x < 4294967296) (y0 : 0 ≤ y) (y1 : y < 4294967296) (p0 : 0 ≤ p) (p1 : p < 4294967296) (c0 : 0 ≤ c) (c1 : c < 4294967296) :
    ∃ X Y T : Int, IntKind.u64.wrap (x * y) = X ∧ IntKind.u64.wrap (X + p) = Y ∧ IntKind.u64.wrap (Y + c) = T ∧ bits .and .u64 T 4294967295 = mulLh x y p c ∧ T / 4294967296 = mulHh x y p c := by
  have h1 : 0 ≤ x * y := Int.mul_nonneg x0 y0
  have h2 : x * y ≤ 4294967295 * 4294967295 := Int.mul_le_mul (by omega) (by omega) y0 (by omega)
  refine ⟨x * y, x * y + p, x * y + p + c, ?_, ?_, ?_, ?_, rfl⟩
  · rw [IntKind.wrap_u64]; omega
  · rw [IntKind.wrap_u64]; omega
  · rw [IntKind.wrap_u64]; omega
  · unfold mulLh
    generalize hT : x * y + p + c = T
    have hT0 : 0 ≤ T := by omega
    have hT1 : T < 18446744073709551616 := by omega
    obtain ⟨n, rfl⟩ := Int.eq_ofNat_of_zero_le hT0
    have h := bits_and_u64_nat n 4294967295 (by omega) (by decide)
    rw [show ((4294967295 : Nat) : Int) = 4294967295 from rfl] at h
    rw [h, show (4294967295 : Nat) = 2 ^ 32 - 1 from rfl, Nat.and_two_pow_sub_one_eq_mod]
    omega

set_option maxHeartbeats 3200000 in
set_option maxRecDepth 100000 in
theorem mul_ref (a b : Nat) (ha : a < big) (hb : b < big) (w : World) :
    Calls Tryd.prog 48 #[N a, N b] w fun e w' => e = .returned (.tuple #[N (a * b % big), N (a * b / big)]) ∧ Below w.heap.size w w' := by
  have HA : Hid (a < big) := ha
  have HB : Hid (b < big) := hb
  have CX : Hid _ := fun w => halves_any a w
  have CY : Hid _ := fun w => halves_any b w
  clear ha hb
  go_enter Tryd.func48, Tryd.ntmps48
  go_wp2_with fail
  have hR0 : Rws ((((w.alloc (O6 a)).alloc (O6 b)).alloc Z6).alloc Z6) [(w.heap.size + 1, b), (w.heap.size, a)] := ((((Rws.nil w).alloc a rfl).alloc b (g := w.heap.size + 1) (by simp)).below ((Below.refl _ _).alloc (Nat.le_refl _) _)).below ((Below.refl _ _).alloc (Nat.le_refl _) _)
  have hZ1 : Row ((((w.alloc (O6 a)).alloc (O6 b)).alloc Z6).alloc Z6) (w.heap.size + 1 + 1) 6 (fun _ => 0) := (Row.new _ _ 24 (by simp) (six_lt (f := fun _ => 0) rfl)).alloc (by simp) _
  have hZ2 : Row ((((w.alloc (O6 a)).alloc (O6 b)).alloc Z6).alloc Z6) (w.heap.size + 1 + 1 + 1) 6 (fun _ => 0) := Row.new _ _ 24 (by simp) (six_lt (f := fun _ => 0) rfl)
  have hB0 : Below w.heap.size w ((((w.alloc (O6 a)).alloc (O6 b)).alloc Z6).alloc Z6) := ((((Below.refl _ _).alloc (Nat.le_refl _) _).alloc (by simp) _).alloc (by first | (simp; done) | (simp; omega)) _).alloc (by first | (simp; done) | (simp; omega)) _
  have hs0 : ((((w.alloc (O6 a)).alloc (O6 b)).alloc Z6).alloc Z6).heap.size = w.heap.size + 1 + 1 + 1 + 1 := by simp
  generalize (((w.alloc (O6 a)).alloc (O6 b)).alloc Z6).alloc Z6 = w0 at hR0 hZ1 hZ2 hB0 hs0 ⊢
  have H0 : Hid (_ ∧ _ ∧ _ ∧ _) := ⟨hZ1, hZ2, hB0, hs0⟩
  have HR0 : Hid (Rws w0 [(w.heap.size + 1, b), (w.heap.size, a)]) := hR0
  clear hR0 hZ1 hZ2 hB0 hs0
  refine region_law (by kernel_rfl) [.quiet (N a), .call (H12 a), .quiet (N b), .call (H12 b), .made zero12 61, .made zero12 61, .laid 4 zero12 (cells12 a), .laid 5 zero12 (cells12 b)] (fun w' => Rws w' [(w.heap.size + 1, b), (w.heap.size, a)]) ?F1 (fun γ => ?hF) (by kernel_rfl) ?hL ?hS ?ho ?he
  case hF =>
    simp only [fill, Kind.val, Act.put, List.setIfInBounds_toArray, List.set_cons_zero, List.set_cons_succ]
    exact rfl
  case hL => exact ⟨⟨_, rfl⟩, ⟨_, rfl⟩, trivial⟩
  case hS => exact fun w' hb => Rws.below HR0.out hb
  case ho =>
    refine AllOk.cons ?_ ?_
    · exact fun γ => ⟨rfl, fun w' h => exec_load6 h (by simp) rfl rfl⟩
    refine AllOk.cons ?_ ?_
    · exact fun γ => ⟨rfl, fun w' h => ⟨65, #[N a], exec_call rfl call65 rfl (by simp only [List.map_toArray, List.map_cons, List.map_nil]; rfl), CX.out w'⟩⟩
    refine AllOk.cons ?_ ?_
    · exact fun γ => ⟨rfl, fun w' h => exec_load6 h (by simp) rfl rfl⟩
    refine AllOk.cons ?_ ?_
    · exact fun γ => ⟨rfl, fun w' h => ⟨65, #[N b], exec_call rfl call65 rfl (by simp only [List.map_toArray, List.map_cons, List.map_nil]; rfl), CY.out w'⟩⟩
    refine AllOk.cons ?_ ?_
    · exact fun γ => ⟨rfl, fun w' => exec_made12 rfl⟩
    refine AllOk.cons ?_ ?_
    · exact fun γ => ⟨rfl, fun w' => exec_made12 rfl⟩
    refine AllOk.cons ?_ ?_
    · exact fun γ => ⟨rfl, rfl, rfl, fun w' h => exec_laid12 h rfl rfl rfl⟩
    refine AllOk.cons ?_ ?_
    · exact fun γ => ⟨rfl, rfl, rfl, fun w' h => exec_laid12 h rfl rfl rfl⟩
    exact trivial
  case he =>
    intro γ w1 l hM hl
    obtain ⟨hx, hx2⟩ := hM.full 6 4 _ _ rfl (hl 6 (by decide))
    obtain ⟨hy, hy2⟩ := hM.full 7 5 _ _ rfl (hl 7 (by decide))
    have hx1 := (hM.made 4 _ _ rfl (hl 4 (by decide))).1
    have hy1 := (hM.made 5 _ _ rfl (hl 5 (by decide))).1
    have hxr := hx.row12
    have hyr := hy.row12
    obtain ⟨hZ1, hZ2, hB0, hs0⟩ := H0.out
    have hz1 := Row.below hM.below hZ1 (by omega)
    have hz2 := Row.below hM.below hZ2 (by omega)
    have hb := hB0.trans (hM.below.mono hB0.size)
    rw [hs0] at hx1 hy1
    clear hM hl l hx hy HR0 H0 hZ1 hZ2 hB0 hs0 CX CY
    generalize γ 4 = gx at hxr hx1 hx2 ⊢
    generalize γ 5 = gy at hyr hy1 hy2 ⊢
    clear γ w0
    have HM0 : Hid (MM w (w1.alloc (.cells #[.int .u64 0, .int .u64 0, .int .u64 0, .int .u64 0, .int .u64 0, .int .u64 0, .int .u64 0, .int .u64 0, .int .u64 0, .int .u64 0, .int .u64 0, .int .u64 0, .int .u64 0, .int .u64 0, .int .u64 0, .int .u64 0, .int .u64 0, .int .u64 0, .int .u64 0, .int .u64 0, .int .u64 0, .int .u64 0, .int .u64 0, .int .u64 0] 75)) gx gy w1.heap.size a b (hfd ((a % 2 ^ (32 * 0)) * b))) :=
      ⟨hz1.alloc (by omega) _, hz2.alloc (by omega) _, hxr.alloc hx2 _, hyr.alloc hy2 _, (Row.new w1 _ 75 rfl (f := fun _ => 0) (twenty_four_zero rfl)).congr (fun j _ => by rw [Nat.mul_zero, Nat.pow_zero, Nat.mod_one, Nat.zero_mul]; unfold hfd; rw [Nat.zero_div]; rfl), ⟨by omega, hx2⟩, ⟨by omega, hy2⟩, by simp, hb.alloc hb.size _⟩
    clear hz1 hz2 hxr hyr hb hx1 hx2 hy1 hy2
    go_wp2_with fail
    go_loopw [9] (fun i wr => ∃ k : Nat, k ≤ 12 ∧ i = .int .i64 k ∧ MM w wr gx gy w1.heap.size a b (hfd ((a % 2 ^ (32 * k)) * b))) (fun i _ => 12 - (intOf i).toNat)
    case atStart => exact ⟨0, by omega, rfl, HM0.out⟩
    case round =>
      clear HM0
      obtain ⟨i, hi, rfl, hM⟩ := hrel
      by_cases hlt : i < 12
      · have HM : Hid _ := hM
        clear hM
        have hd : decide ((i : Int) < 12) = true := by simp; omega
        go_wp2
        go_loopw [10, 11] (fun c jv wq => ∃ j : Nat, j ≤ 12 ∧ jv = .int .i64 j ∧ c = .int .u64 (mch a b i j) ∧ MM w wq gx gy w1.heap.size a b (pmh ((a % 2 ^ (32 * i)) * b) (smh a b i j) (i + j))) (fun _ j _ => 12 - (intOf j).toNat)
        case atStart => exact ⟨0, by omega, rfl, by rw [Hmc_zero], HM.out.congr (fun m _ => (Hpm_start a b i m).symm)⟩
        case round =>
          obtain ⟨j, hj, rfl, rfl, hQ⟩ := hrel
          by_cases hjl : j < 12
          · have hA1 := (hQ.rx i hlt).1
            have hB1 := (hQ.ry j hjl).1
            obtain ⟨hP1, hP2⟩ := hQ.rp (i + j) (by omega)
            have ep : pmh ((a % 2 ^ (32 * i)) * b) (smh a b i j) (i + j) (i + j) = hfd ((a % 2 ^ (32 * i)) * b) (i + j) := by unfold pmh; rw [if_neg (by omega)]
            rw [ep] at hP1
            clear ep
            have HQ : Hid _ := hQ
            clear hQ HM
            obtain ⟨X, Y, T, m1, m2, m3, m4, m5⟩ := mul_t (hfd a i) (hfd b j) (hfd ((a % 2 ^ (32 * i)) * b) (i + j)) (mch a b i j) (half_bd _ _).1 (half_bd _ _).2 (half_bd _ _).1 (half_bd _ _).2 (half_bd _ _).1 (half_bd _ _).2 (Hmc_bd _ _ _ _).1 (Hmc_bd _ _ _ _).2
            rw [Hmul_lo] at m4
            rw [Hmul_hi] at m5
            have et : ((i : Int) + (j : Int)).toNat = i + j := by omega
            have e0 : (0 : Int) ≤ (i : Int) + (j : Int) := by omega
            have e1 : (i : Int) + (j : Int) < 24 := by omega
            have ew : IntKind.i64.wrap ((i : Int) + (j : Int)) = (i : Int) + (j : Int) := by rw [IntKind.wrap_i64]; omega
            go_wp2
            go_region
            go_wp2
            go_roundw
            case rel =>
              exact ⟨j + 1, by omega, by go_num, rfl, (HQ.out.drew.store (i + j) _).congr (fun m _ => Hpm_step a b i j m)⟩
            case measure => simp [intOf]; omega
          · have hj6 : j = 12 := by omega
            subst hj6
            obtain ⟨hP1, hP2⟩ := hQ.rp (i + 12) (by omega)
            have HQ : Hid _ := hQ
            clear hQ HM
            have et : ((i : Int) + 12).toNat = i + 12 := by omega
            have e0 : (0 : Int) ≤ (i : Int) + 12 := by omega
            have e1 : (i : Int) + 12 < 24 := by omega
            have ew : IntKind.i64.wrap ((i : Int) + 12) = (i : Int) + 12 := by rw [IntKind.wrap_i64]; omega
            rw [show ((12 : Nat) : Int) = 12 from rfl]
            go_wp2
            go_roundw
            case rel => exact ⟨i + 1, by omega, by go_num, (HQ.out.store (i + 12) _).congr (fun m _ => Hpm_end a b i m HB.out)⟩
            case measure => simp [intOf]; omega
      · have hi6 : i = 12 := by omega
        subst hi6
        obtain ⟨wr0, hwr0⟩ : ∃ x : World, x = wr := ⟨wr, rfl⟩
        subst hwr0
        have hM2 : MM w wr0 gx gy w1.heap.size a b (hfd (a * b)) := by
          rw [← big_half, Nat.mod_eq_of_lt HA.out] at hM
          exact hM
        clear hM
        have HM : Hid _ := hM2
        clear hM2
        generalize w1.heap.size = gp at HM ⊢
        rw [show ((12 : Nat) : Int) = 12 from rfl]
        go_wp2
        go_loopw [15] (fun i wq => ∃ k : Nat, k ≤ 6 ∧ i = .int .i64 k ∧ Row wq (w.heap.size + 1 + 1) 6 (fun _ => 0) ∧ Row wq (w.heap.size + 1 + 1 + 1) 6 (fun _ => 0) ∧ Row wq gp 24 (hfd (a * b)) ∧ Row wq wr0.heap.size 6 (part (a * b) k) ∧ Row wq (wr0.heap.size + 1) 6 (part (a * b / big) k) ∧ Below w.heap.size w wq) (fun i _ => 6 - (intOf i).toNat)
        case atStart =>
          have h := HM.out
          have h1 := h.o1
          have h2 := h.sz
          refine ⟨0, by omega, rfl, ?_, ?_, ?_, ?_, ?_, ?_⟩
          · exact (h.rl.alloc (by omega) _).alloc (by simp; omega) _
          · exact (h.rh.alloc (by omega) _).alloc (by simp; omega) _
          · exact (h.rp.alloc h2 _).alloc (by simp; omega) _
          · exact (Row.new _ _ 24 rfl (six_lt (f := part (a * b) 0) rfl)).alloc (by simp) _
          · exact Row.new _ _ 24 (by simp) (six_lt (f := part (a * b / big) 0) rfl)
          · exact (h.bl.alloc h.bl.size _).alloc (by simp; have := h.bl.size; omega) _
        case round =>
          have ho1 := HM.out.o1
          have ho2 := HM.out.sz
          clear HM
          obtain ⟨k, hk, rfl, h1, h2, h3, h4, h5, h6⟩ := hrel
          by_cases hlt2 : k < 6
          · obtain ⟨p1, _⟩ := h3 (2 * k) (by omega)
            obtain ⟨p2, _⟩ := h3 (2 * k + 1) (by omega)
            obtain ⟨p3, _⟩ := h3 (2 * k + 12) (by omega)
            obtain ⟨p4, _⟩ := h3 (2 * k + 13) (by omega)
            obtain ⟨q1, q2⟩ := h4 k hlt2
            obtain ⟨q3, q4⟩ := h5 k hlt2
            have HR : Hid (_ ∧ _ ∧ _ ∧ _ ∧ _ ∧ _) := ⟨h1, h2, h3, h4, h5, h6⟩
            have HO : Hid (_ ∧ _) := ⟨ho1, ho2⟩
            clear h1 h2 h3 h4 h5 h6 ho1 ho2
            have j1 := half_join (a * b) k
            have j2 := half_join_hi (a * b) k
            have e0 : IntKind.i64.wrap (2 * (k : Int)) = 2 * (k : Int) := by rw [IntKind.wrap_i64]; omega
            have e1 : IntKind.i64.wrap (2 * (k : Int) + 1) = 2 * (k : Int) + 1 := by rw [IntKind.wrap_i64]; omega
            have e2 : IntKind.i64.wrap (2 * (k : Int) + 12) = 2 * (k : Int) + 12 := by rw [IntKind.wrap_i64]; omega
            have e3 : IntKind.i64.wrap (2 * (k : Int) + 13) = 2 * (k : Int) + 13 := by rw [IntKind.wrap_i64]; omega
            have t0 : (2 * (k : Int)).toNat = 2 * k := by omega
            have t1 : (2 * (k : Int) + 1).toNat = 2 * k + 1 := by omega
            have t2 : (2 * (k : Int) + 12).toNat = 2 * k + 12 := by omega
            have t3 : (2 * (k : Int) + 13).toNat = 2 * k + 13 := by omega
            have b0 : (0 : Int) ≤ 2 * (k : Int) := by omega
            have b1 : 2 * (k : Int) < 24 := by omega
            have b2 : (0 : Int) ≤ 2 * (k : Int) + 1 := by omega
            have b3 : 2 * (k : Int) + 1 < 24 := by omega
            have b4 : (0 : Int) ≤ 2 * (k : Int) + 12 := by omega
            have b5 : 2 * (k : Int) + 12 < 24 := by omega
            have b6 : (0 : Int) ≤ 2 * (k : Int) + 13 := by omega
            have b7 : 2 * (k : Int) + 13 < 24 := by omega
            have n1 : gp ≠ wr0.heap.size := by have := HO.out; omega
            have n2 : wr0.heap.size ≠ gp := by have := HO.out; omega
            go_wp2
            go_region
            go_wp2
            go_region
            go_wp2
            go_roundw
            case rel =>
              obtain ⟨h1, h2, h3, h4, h5, h6⟩ := HR.out
              have ho := HO.out
              refine ⟨k + 1, by omega, by go_num, ?_, ?_, ?_, ?_, ?_, ?_⟩
              · exact ((h1.set_other _ (by simp <;> omega)).drew.set_other _ (by simp <;> omega)).drew
              · exact ((h2.set_other _ (by simp <;> omega)).drew.set_other _ (by simp <;> omega)).drew
              · exact ((h3.set_other _ (by simp <;> omega)).drew.set_other _ (by simp <;> omega)).drew
              · exact (((h4.set _).congr (fun j _ => part_step rfl j)).drew.set_other _ (by simp <;> omega)).drew
              · exact (((h5.set_other _ (by simp <;> omega)).drew.set _).congr (fun j _ => part_step rfl j)).drew
              · exact ((h6.setCell (by simp <;> omega) _).drew.setCell (by simp <;> omega) _).drew
            case measure => simp [intOf]; omega
          · have hk6 : k = 6 := by omega
            subst hk6
            obtain ⟨s0, s1, s2, s3, s4, s5⟩ := (h4.congr (f' := wd (a * b % big)) (fun j hj => by rw [part_lt hj, wd_mod _ _ hj])).reads
            obtain ⟨t0, t1, t2, t3, t4, t5⟩ := (h5.congr (f' := wd (a * b / big)) (fun j hj => by rw [part_lt hj])).reads
            obtain ⟨z0, z1, z2, z3, z4, z5⟩ := h1.writes
            obtain ⟨y0, y1, y2, y3, y4, y5⟩ := h1.reads
            obtain ⟨v0, v1, v2, v3, v4, v5⟩ := h2.writes
            obtain ⟨x0, x1, x2, x3, x4, x5⟩ := h2.reads
            have n1 : w.heap.size + 1 + 1 ≠ wr0.heap.size := by omega
            have n2 : w.heap.size + 1 + 1 ≠ wr0.heap.size + 1 := by omega
            clear h1 h2 h3 h4 h5
            rw [show ((6 : Nat) : Int) = 6 from rfl]
            go_wp2
            go_region
            go_wp2
            refine bodyPost_ret (v := .tuple #[N (a * b % big), N (a * b / big)]) ?_ rfl ⟨rfl, ?_⟩
            · simp [results, Tryd.results48, go_sem, *]
            · exact (below6 (below6 h6 (by omega) _ _ _ _ _ _) (by omega) _ _ _ _ _ _).drew
end Go.Proofs.YtkfannhbnbgloaaDoor
