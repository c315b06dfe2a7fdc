/- The document's own Add and Sub. -/
import Derived.Test.YtoagmdgmbkpghaaD1
import Derived.Test.YtoagmdgmbkpghaaPA1
namespace Go.Proofs.Ytoagmdgmbkpghaa
open Go.RowKit

/-- A sum by halves of the carry. -/
theorem add_two (x y c : Int) (hx0 : 0 ≤ x) (hx1 : x < 18446744073709551616) (hy0 : 0 ≤ y) (hy1 : y < 18446744073709551616) (hc0 : 0 ≤ c) (hc1 : c ≤ 1) :
    ∃ s t : Int, IntKind.u64.wrap (x + y) = s ∧ IntKind.u64.wrap (s + c) = t ∧ t = addLo x y c ∧
      ((decide (s < x) = true ∧ decide (t < s) = false ∧ addHi x y c = 1) ∨ (decide (s < x) = false ∧ decide (t < s) = true ∧ addHi x y c = 1) ∨ (decide (s < x) = false ∧ decide (t < s) = false ∧ addHi x y c = 0)) := by
  refine ⟨_, _, rfl, rfl, ?_, ?_⟩
  · rw [IntKind.wrap_u64, IntKind.wrap_u64]; unfold addLo; omega
  · rw [IntKind.wrap_u64, IntKind.wrap_u64]
    unfold addHi
    simp only [decide_eq_true_eq, decide_eq_false_iff_not]
    omega
set_option maxHeartbeats 1000000 in
set_option maxRecDepth 100000 in
theorem add_ref (a b : Nat) (ha : a < big) (hb : b < big) (w : World) :
    Calls Try.prog 23 #[N a, N b] w fun e w' => e = .returned (.tuple #[N ((a + b) % big), .bool (decide (big ≤ a + b))]) ∧ Below w.heap.size w w' := by
  have hend := cry_end a b ha hb
  have He : Hid ((cry a b 6 == 1) = decide (big ≤ a + b)) := by
    show _ = _
    rw [← hend]
    have := cry_bd a b 6
    by_cases h : cry a b 6 = 0
    · rw [h]; rfl
    · rw [show cry a b 6 = 1 by omega]; rfl
  clear hend ha hb
  go_enter Try.func23, Try.ntmps23
  go_wp2
  go_loopw [7, 8] (fun c i wr => ∃ k : Nat, k ≤ 6 ∧ i = .int .i64 k ∧ c = .int .u64 (cry a b k) ∧ Row wr w.heap.size 6 (wd a) ∧ Row wr (w.heap.size + 1) 6 (wd b) ∧ Row wr (w.heap.size + 1 + 1) 6 (fun _ => 0) ∧ Row wr (w.heap.size + 1 + 1 + 1) 6 (part (a + b) k) ∧ Below w.heap.size w wr) (fun _ i _ => 6 - (intOf i).toNat)
  case atStart =>
    refine ⟨0, by omega, rfl, by simp [cry], ?_, ?_, ?_, ?_, ?_⟩
    · exact (((Row.new w _ 24 rfl (six_lt rfl)).alloc (by simp <;> omega) _).alloc (by simp <;> omega) _).alloc (by simp <;> omega) _
    · exact ((Row.new _ _ 24 (by simp <;> omega) (six_lt rfl)).alloc (by simp <;> omega) _).alloc (by simp <;> omega) _
    · exact (Row.new _ _ 24 (by simp <;> omega) (six_lt (f := fun _ => 0) rfl)).alloc (by simp <;> omega) _
    · exact Row.new _ _ 24 (by simp <;> omega) (six_lt (f := part (a + b) 0) rfl)
    · exact ((((Below.refl _ _).alloc (Nat.le_refl _) _).alloc (by simp <;> omega) _).alloc (by simp <;> omega) _).alloc (by simp <;> omega) _
  case round =>
    obtain ⟨k, hk, rfl, rfl, hA, hB, hZ, hS, hw⟩ := hrel
    by_cases hlt : k < 6
    · obtain ⟨hc0, hc1⟩ := cry_bd a b k
      obtain ⟨ha0, ha1⟩ := wd_bd a k
      obtain ⟨hb0, hb1⟩ := wd_bd b k
      obtain ⟨s, t, hs, ht, htt, hcs⟩ := add_two (wd a k) (wd b k) (cry a b k) ha0 ha1 hb0 hb1 hc0 hc1
      rw [add_word] at htt
      rw [add_cry] at hcs
      have HT : Hid (t = wd (a + b) k) := htt
      have hA1 := (hA k hlt).1
      have hB1 := (hB k hlt).1
      obtain ⟨hS1, hS2⟩ := hS k hlt
      have R1 : Hid (_ ∧ _ ∧ _ ∧ _ ∧ _) := ⟨hA, hB, hZ, hS, hw⟩
      clear hA hB hZ hS hw htt hc0 hc1 ha0 ha1 hb0 hb1
      rcases hcs with ⟨d1, d2, d3⟩ | ⟨d1, d2, d3⟩ | ⟨d1, d2, d3⟩
      all_goals
        have H3 : Hid _ := d3
        clear d3
        go_wp2
        go_region
        go_wp2
        go_roundw
        case rel =>
          obtain ⟨hA, hB, hZ, hS, hw⟩ := R1.out
          exact ⟨k + 1, by omega, by go_num, by rw [H3.out], (hA.set_other _ (by simp <;> omega)), (hB.set_other _ (by simp <;> omega)), (hZ.set_other _ (by simp <;> omega)), ((hS.set _).congr (fun j _ => part_step HT.out j)), (hw.drew.setCell (by simp <;> omega) _)⟩
        case measure => simp [intOf]; omega
    · have hk6 : k = 6 := by omega
      subst hk6
      obtain ⟨s0, s1, s2, s3, s4, s5⟩ := (hS.congr (f' := wd ((a + b) % big)) (fun j hj => by rw [part_lt hj, wd_mod _ _ hj])).reads
      obtain ⟨z0, z1, z2, z3, z4, z5⟩ := hZ.writes
      obtain ⟨y0, y1, y2, y3, y4, y5⟩ := hZ.reads
      clear hA hB hZ hS
      go_wp2
      rw [He.out]
      exact bodyPost_ret (v := .tuple #[N ((a + b) % big), .bool (decide (big ≤ a + b))]) (by simp [results, Try.results23, go_sem, *]) rfl ⟨rfl, (((((hw.setCell (by simp <;> omega) _).setCell (by simp <;> omega) _).setCell (by simp <;> omega) _).setCell (by simp <;> omega) _).setCell (by simp <;> omega) _).setCell (by simp <;> omega) _⟩
end Go.Proofs.Ytoagmdgmbkpghaa
