/- words.shiftUp, words.shiftDown -/
import Derived.Test.YtoagmdgmbkpghabDoorA1
import Derived.Test.YtoagmdgmbkpghabDoorA6
import Derived.BigRegion
namespace Go.Proofs.YtoagmdgmbkpghabDoor
open Go.RowKit Go.Lib

theorem upd_upd (f : Nat → Int) (k : Nat) (x y : Int) (j : Nat) : upd (upd f k x) k y j = upd f k y j := by
  unfold upd; split <;> rfl
theorem part_low (v m j : Nat) (h : ∀ i, i < m → wd v i = 0) : part v m j = 0 := by
  unfold part; split
  · exact h _ ‹_›
  · rfl
theorem up_low (a n i : Nat) (h : i < n / 64) : wd (a * 2 ^ n) i = 0 := by
  rw [wd_shr, ← Nat.shiftLeft_eq]
  have : (a <<< n) >>> (64 * i) % 2 ^ 64 = 0 := by
    apply Nat.eq_of_testBit_eq
    intro m
    simp only [Nat.testBit_mod_two_pow, Nat.testBit_shiftLeft, Nat.testBit_shiftRight, Nat.zero_testBit]
    by_cases hm : m < 64
    · have : ¬ n ≤ 64 * i + m := by omega
      simp [this]
    · simp [hm]
  rw [this]; rfl

set_option maxHeartbeats 400000 in
set_option maxRecDepth 100000 in
theorem shiftUp_any (a n : Nat) (hn : n < 384) (w : World) :
    Calls Tryd.prog 44 #[N a, .int .i64 n] w fun e w' => e = .returned (N (a * 2 ^ n % big)) ∧ Below w.heap.size w w' := by
  go_enter Tryd.func44, Tryd.ntmps44
  go_wp2
  go_loopw [8] (fun i wr => ∃ k : Nat, n / 64 ≤ k ∧ k ≤ 6 ∧ i = .int .i64 k ∧ Row wr w.heap.size 6 (wd a) ∧ Row wr (w.heap.size + 1) 6 (fun _ => 0) ∧ Row wr (w.heap.size + 1 + 1) 6 (part (a * 2 ^ n) k) ∧ Below w.heap.size w wr) (fun i _ => 6 - (intOf i).toNat)
  case atStart =>
    refine ⟨n / 64, by omega, by omega, rfl, ?_, ?_, ?_, ?_⟩
    · exact ((Row.new w _ 24 rfl (six_lt rfl)).alloc (by first | omega | (simp <;> omega)) _).alloc (by first | omega | (simp <;> omega)) _
    · exact (Row.new _ _ 24 (by first | omega | (simp <;> omega)) (six_lt (f := fun _ => 0) rfl)).alloc (by first | omega | (simp <;> omega)) _
    · exact (Row.new _ _ 24 (by first | omega | (simp <;> omega)) (six_lt (f := fun _ => 0) rfl)).congr (fun j _ => (part_low _ _ _ (fun i hi => up_low a n i hi)).symm)
    · exact (((Below.refl _ _).alloc (Nat.le_refl _) _).alloc (by first | omega | (simp <;> omega)) _).alloc (by first | omega | (simp <;> omega)) _
  case round =>
    obtain ⟨k, hk0, hk, rfl, hA, hZ, hS, hw⟩ := hrel
    by_cases hlt : k < 6
    · obtain ⟨hS1, hS2⟩ := hS k hlt
      have hA1 := (hA (k - n / 64) (by omega)).1
      have HR : Hid (_ ∧ _ ∧ _ ∧ _) := ⟨hA, hZ, hS, hw⟩
      by_cases hgt : n / 64 < k
      · have hA2 := (hA (k - n / 64 - 1) (by omega)).1
        clear hA hZ hS hw
        go_wp2
        go_region
        go_wp2
        go_roundw
        case rel =>
          obtain ⟨hA, hZ, hS, hw⟩ := HR.out
          exact ⟨k + 1, by omega, by omega, by go_num, ((hA.set_other _ (by simp <;> omega)).set_other _ (by simp <;> omega)).drew, ((hZ.set_other _ (by simp <;> omega)).set_other _ (by simp <;> omega)).drew, (((hS.set _).set _).congr (fun j _ => (upd_upd _ _ _ _ j).trans (part_step (up_word a n k hgt) j))).drew, ((hw.setCell (by simp <;> omega) _).setCell (by simp <;> omega) _).drew⟩
        case measure => simp [intOf]; omega
      · clear hA hZ hS hw
        go_wp2
        go_roundw
        case rel =>
          obtain ⟨hA, hZ, hS, hw⟩ := HR.out
          exact ⟨k + 1, by omega, by omega, by go_num, hA.set_other _ (by simp <;> omega), hZ.set_other _ (by simp <;> omega), (hS.set _).congr (fun j _ => part_step (up_word1 a n k (by omega)) j), hw.setCell (by simp <;> omega) _⟩
        case measure => simp [intOf]; omega
    · have hk6 : k = 6 := by omega
      subst hk6
      obtain ⟨s0, s1, s2, s3, s4, s5⟩ := (hS.congr (f' := wd (a * 2 ^ n % big)) (fun j hj => by rw [part_lt hj, wd_mod _ _ hj])).reads
      obtain ⟨z0, z1, z2, z3, z4, z5⟩ := hZ.writes
      obtain ⟨y0, y1, y2, y3, y4, y5⟩ := hZ.reads
      clear hA hZ hS
      rw [show ((6 : Nat) : Int) = 6 from rfl]
      go_wp2
      refine bodyPost_ret (v := N (a * 2 ^ n % big)) ?_ rfl ⟨rfl, ?_⟩
      · simp [results, Tryd.results44, go_sem, *]
      · exact below6 hw (by omega) _ _ _ _ _ _

set_option maxHeartbeats 400000 in
set_option maxRecDepth 100000 in
theorem shiftDown_any (a n : Nat) (ha : a < big) (hn : n < 384) (w : World) :
    Calls Tryd.prog 43 #[N a, .int .i64 n] w fun e w' => e = .returned (N (a / 2 ^ n)) ∧ Below w.heap.size w w' := by
  have HA : Hid (a < big) := ha
  clear ha
  go_enter Tryd.func43, Tryd.ntmps43
  go_wp2
  go_loopw [8] (fun i wr => ∃ k : Nat, n / 64 ≤ k ∧ k ≤ 6 ∧ i = .int .i64 k ∧ Row wr w.heap.size 6 (wd a) ∧ Row wr (w.heap.size + 1) 6 (fun _ => 0) ∧ Row wr (w.heap.size + 1 + 1) 6 (part (a / 2 ^ n) (k - n / 64)) ∧ Below w.heap.size w wr) (fun i _ => 6 - (intOf i).toNat)
  case atStart =>
    refine ⟨n / 64, by omega, by omega, rfl, ?_, ?_, ?_, ?_⟩
    · exact ((Row.new w _ 24 rfl (six_lt rfl)).alloc (by first | omega | (simp <;> omega)) _).alloc (by first | omega | (simp <;> omega)) _
    · exact (Row.new _ _ 24 (by first | omega | (simp <;> omega)) (six_lt (f := fun _ => 0) rfl)).alloc (by first | omega | (simp <;> omega)) _
    · exact (Row.new _ _ 24 (by first | omega | (simp <;> omega)) (six_lt (f := fun _ => 0) rfl)).congr (fun j _ => by rw [Nat.sub_self]; rfl)
    · exact (((Below.refl _ _).alloc (Nat.le_refl _) _).alloc (by first | omega | (simp <;> omega)) _).alloc (by first | omega | (simp <;> omega)) _
  case round =>
    obtain ⟨k, hk0, hk, rfl, hA, hZ, hS, hw⟩ := hrel
    by_cases hlt : k < 6
    · obtain ⟨hS1, hS2⟩ := hS (k - n / 64) (by omega)
      have hA1 := (hA k hlt).1
      have HR : Hid (_ ∧ _ ∧ _ ∧ _) := ⟨hA, hZ, hS, hw⟩
      have es : k + 1 - n / 64 = k - n / 64 + 1 := by omega
      have Es : Hid _ := es
      clear es
      by_cases hgt : k + 1 < 6
      · have hA2 := (hA (k + 1) (by omega)).1
        clear hA hZ hS hw
        go_wp2
        go_region
        go_wp2
        go_roundw
        case rel =>
          obtain ⟨hA, hZ, hS, hw⟩ := HR.out
          exact ⟨k + 1, by omega, by omega, by go_num, ((hA.set_other _ (by simp <;> omega)).set_other _ (by simp <;> omega)).drew, ((hZ.set_other _ (by simp <;> omega)).set_other _ (by simp <;> omega)).drew, (((hS.set _).set _).congr (fun j _ => by rw [Es.out]; exact (upd_upd _ _ _ _ j).trans (part_step (down_word a n k hk0) j))).drew, ((hw.setCell (by simp <;> omega) _).setCell (by simp <;> omega) _).drew⟩
        case measure => simp [intOf]; omega
      · clear hA hZ hS hw
        have hk5 : k = 5 := by omega
        subst hk5
        rw [show ((5 : Nat) : Int) = 5 from rfl]
        go_wp2
        go_roundw
        case rel =>
          obtain ⟨hA, hZ, hS, hw⟩ := HR.out
          exact ⟨5 + 1, by omega, by omega, by go_num, hA.set_other _ (by simp <;> omega), hZ.set_other _ (by simp <;> omega), (hS.set _).congr (fun j _ => by rw [Es.out]; exact part_step (down_last a n HA.out hk0) j), hw.setCell (by simp <;> omega) _⟩
        case measure => simp [intOf]
    · have hk6 : k = 6 := by omega
      subst hk6
      obtain ⟨s0, s1, s2, s3, s4, s5⟩ := (hS.congr (f' := wd (a / 2 ^ n)) (fun j hj => by
        unfold part
        split
        · rfl
        · symm
          have h1 : (64 * (6 - n / 64)) ≤ 64 * j := by omega
          have h2 : a / 2 ^ n < 2 ^ (64 * (6 - n / 64)) := by
            rw [Nat.div_lt_iff_lt_mul (Nat.two_pow_pos n), ← Nat.pow_add]
            exact Nat.lt_of_lt_of_le HA.out (big_le _ (by omega))
          exact wd_top' _ _ _ h2 (by omega))).reads
      obtain ⟨z0, z1, z2, z3, z4, z5⟩ := hZ.writes
      obtain ⟨y0, y1, y2, y3, y4, y5⟩ := hZ.reads
      clear hA hZ hS
      rw [show ((6 : Nat) : Int) = 6 from rfl]
      go_wp2
      refine bodyPost_ret (v := N (a / 2 ^ n)) ?_ rfl ⟨rfl, ?_⟩
      · simp [results, Tryd.results43, go_sem, *]
      · exact below6 hw (by omega) _ _ _ _ _ _
end Go.Proofs.YtoagmdgmbkpghabDoor
