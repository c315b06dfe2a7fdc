/- words.Add -/
import Derived.Test.YtoagmdgmbkpghabDoorA1
import Derived.BigRegion
namespace Go.Proofs.YtoagmdgmbkpghabDoor
open Go.RowKit Go.Lib

set_option maxHeartbeats 400000 in
set_option maxRecDepth 100000 in
theorem add_any (a b : Nat) (ha : a < big) (hb : b < big) (w : World) :
    Calls Tryd.prog 33 #[N a, N b] w fun e w' => e = .returned (.tuple #[N ((a + b) % big), .bool (decide (big ≤ a + b))]) ∧ Below w.heap.size w w' := by
  have hend := cry_end a b ha hb
  have He : Hid ((cry a b 6 != 0) = decide (big ≤ a + b)) := hend
  clear hend ha hb
  go_enter Tryd.func33, Tryd.ntmps33
  go_wp2
  go_loopw [7, 9] (fun c i wr => ∃ k : Nat, k ≤ 6 ∧ i = .int .i64 k ∧ c = .int .u64 (cry a b k) ∧ Row wr w.heap.size 6 (wd a) ∧ Row wr (w.heap.size + 1) 6 (wd b) ∧ Row wr (w.heap.size + 1 + 1) 6 (fun _ => 0) ∧ Row wr (w.heap.size + 1 + 1 + 1) 6 (part (a + b) k) ∧ Below w.heap.size w wr) (fun _ i _ => 6 - (intOf i).toNat)
  case atStart =>
    refine ⟨0, by omega, rfl, by simp [cry], ?_, ?_, ?_, ?_, ?_⟩
    · exact (((Row.new w _ 24 rfl (six_lt rfl)).alloc (by simp <;> omega) _).alloc (by simp <;> omega) _).alloc (by simp <;> omega) _
    · exact ((Row.new _ _ 24 (by simp <;> omega) (six_lt rfl)).alloc (by simp <;> omega) _).alloc (by simp <;> omega) _
    · exact (Row.new _ _ 24 (by simp <;> omega) (six_lt (f := fun _ => 0) rfl)).alloc (by simp <;> omega) _
    · exact Row.new _ _ 24 (by simp <;> omega) (six_lt (f := part (a + b) 0) rfl)
    · exact ((((Below.refl _ _).alloc (Nat.le_refl _) _).alloc (by simp <;> omega) _).alloc (by simp <;> omega) _).alloc (by simp <;> omega) _
  case round =>
    obtain ⟨k, hk, rfl, rfl, hA, hB, hZ, hS, hw⟩ := hrel
    by_cases hlt : k < 6
    · obtain ⟨hc0, hc1⟩ := cry_bd a b k
      have ha0 := (wd_bd a k).1
      have hb0 := (wd_bd b k).1
      have hA1 := (hA k hlt).1
      have hB1 := (hB k hlt).1
      obtain ⟨hS1, hS2⟩ := hS k hlt
      have h64 := fun w => add64' (wd a k) (wd b k) (cry a b k) ha0 hb0 hc0 hc1 w
      have r1 : Row wr w.heap.size 6 (wd a) ∧ Row wr (w.heap.size + 1) 6 (wd b) ∧ Row wr (w.heap.size + 1 + 1) 6 (fun _ => 0) ∧ Row wr (w.heap.size + 1 + 1 + 1) 6 (part (a + b) k) ∧ Below w.heap.size w wr := ⟨hA, hB, hZ, hS, hw⟩
      have R1 : Hid _ := r1
      clear hA hB hZ hS hw r1
      go_wp2
      go_region
      go_wp2
      go_roundw
      case rel =>
        obtain ⟨hA, hB, hZ, hS, hw⟩ := R1.out
        exact ⟨k + 1, by omega, by go_num, by rw [add_cry], (hA.set_other _ (by simp <;> omega)).drew, (hB.set_other _ (by simp <;> omega)).drew, (hZ.set_other _ (by simp <;> omega)).drew, ((hS.set _).congr (fun j _ => part_step (add_word a b k) j)).drew, (hw.setCell (by simp <;> omega) _).drew⟩
      case measure => simp [intOf]; omega
    · have hk6 : k = 6 := by omega
      subst hk6
      obtain ⟨s0, s1, s2, s3, s4, s5⟩ := (hS.congr (f' := wd ((a + b) % big)) (fun j hj => by rw [part_lt hj, wd_mod _ _ hj])).reads
      obtain ⟨z0, z1, z2, z3, z4, z5⟩ := hZ.writes
      obtain ⟨y0, y1, y2, y3, y4, y5⟩ := hZ.reads
      clear hA hB hZ hS
      go_wp2
      rw [He.out]
      exact bodyPost_ret (v := .tuple #[N ((a + b) % big), .bool (decide (big ≤ a + b))]) (by simp [results, Tryd.results33, go_sem, *]) rfl ⟨rfl, (((((hw.setCell (by simp <;> omega) _).setCell (by simp <;> omega) _).setCell (by simp <;> omega) _).setCell (by simp <;> omega) _).setCell (by simp <;> omega) _).setCell (by simp <;> omega) _⟩
set_option maxHeartbeats 400000 in
set_option maxRecDepth 100000 in
theorem sub_any (a b : Nat) (ha : a < big) (hb : b < big) (w : World) :
    Calls Tryd.prog 10 #[N a, N b] w fun e w' => e = .returned (.tuple #[N ((a + big - b) % big), .bool (decide (a < b))]) ∧ Below w.heap.size w w' := by
  have hend := brw_end a b ha hb
  have He : Hid ((brw a b 6 != 0) = decide (a < b)) := hend
  have HB : Hid (b < big) := hb
  clear hend ha hb
  go_enter Tryd.func10, Tryd.ntmps10
  go_wp2
  go_loopw [7, 9] (fun c i wr => ∃ k : Nat, k ≤ 6 ∧ i = .int .i64 k ∧ c = .int .u64 (brw a b k) ∧ Row wr w.heap.size 6 (wd a) ∧ Row wr (w.heap.size + 1) 6 (wd b) ∧ Row wr (w.heap.size + 1 + 1) 6 (fun _ => 0) ∧ Row wr (w.heap.size + 1 + 1 + 1) 6 (part (a + big - b) k) ∧ Below w.heap.size w wr) (fun _ i _ => 6 - (intOf i).toNat)
  case atStart =>
    refine ⟨0, by omega, rfl, by simp [brw, Nat.mod_one], ?_, ?_, ?_, ?_, ?_⟩
    · exact (((Row.new w _ 24 rfl (six_lt rfl)).alloc (by simp <;> omega) _).alloc (by simp <;> omega) _).alloc (by simp <;> omega) _
    · exact ((Row.new _ _ 24 (by simp <;> omega) (six_lt rfl)).alloc (by simp <;> omega) _).alloc (by simp <;> omega) _
    · exact (Row.new _ _ 24 (by simp <;> omega) (six_lt (f := fun _ => 0) rfl)).alloc (by simp <;> omega) _
    · exact Row.new _ _ 24 (by simp <;> omega) (six_lt (f := part (a + big - b) 0) rfl)
    · exact ((((Below.refl _ _).alloc (Nat.le_refl _) _).alloc (by simp <;> omega) _).alloc (by simp <;> omega) _).alloc (by simp <;> omega) _
  case round =>
    obtain ⟨k, hk, rfl, rfl, hA, hB, hZ, hS, hw⟩ := hrel
    by_cases hlt : k < 6
    · obtain ⟨hc0, hc1⟩ := brw_bd a b k
      have ha0 := (wd_bd a k).1
      have hb0 := (wd_bd b k).1
      have hb1 := (wd_bd b k).2
      have hA1 := (hA k hlt).1
      have hB1 := (hB k hlt).1
      obtain ⟨hS1, hS2⟩ := hS k hlt
      have h64 := fun w => sub64' (wd a k) (wd b k) (brw a b k) ha0 hb0 hb1 hc0 hc1 w
      clear hb1
      have r1 : Row wr w.heap.size 6 (wd a) ∧ Row wr (w.heap.size + 1) 6 (wd b) ∧ Row wr (w.heap.size + 1 + 1) 6 (fun _ => 0) ∧ Row wr (w.heap.size + 1 + 1 + 1) 6 (part (a + big - b) k) ∧ Below w.heap.size w wr := ⟨hA, hB, hZ, hS, hw⟩
      have R1 : Hid _ := r1
      clear hA hB hZ hS hw r1
      go_wp2
      go_region
      go_wp2
      go_roundw
      case rel =>
        obtain ⟨hA, hB, hZ, hS, hw⟩ := R1.out
        have hbb := HB.out
        exact ⟨k + 1, by omega, by go_num, by rw [sub_cry], (hA.set_other _ (by simp <;> omega)).drew, (hB.set_other _ (by simp <;> omega)).drew, (hZ.set_other _ (by simp <;> omega)).drew, ((hS.set _).congr (fun j _ => part_step (sub_word a b k hlt hbb) j)).drew, (hw.setCell (by simp <;> omega) _).drew⟩
      case measure => simp [intOf]; omega
    · have hk6 : k = 6 := by omega
      subst hk6
      obtain ⟨s0, s1, s2, s3, s4, s5⟩ := (hS.congr (f' := wd ((a + big - b) % big)) (fun j hj => by rw [part_lt hj, wd_mod _ _ hj])).reads
      obtain ⟨z0, z1, z2, z3, z4, z5⟩ := hZ.writes
      obtain ⟨y0, y1, y2, y3, y4, y5⟩ := hZ.reads
      clear hA hB hZ hS
      go_wp2
      rw [He.out]
      exact bodyPost_ret (v := .tuple #[N ((a + big - b) % big), .bool (decide (a < b))]) (by simp [results, Tryd.results10, go_sem, *]) rfl ⟨rfl, (((((hw.setCell (by simp <;> omega) _).setCell (by simp <;> omega) _).setCell (by simp <;> omega) _).setCell (by simp <;> omega) _).setCell (by simp <;> omega) _).setCell (by simp <;> omega) _⟩
end Go.Proofs.YtoagmdgmbkpghabDoor
