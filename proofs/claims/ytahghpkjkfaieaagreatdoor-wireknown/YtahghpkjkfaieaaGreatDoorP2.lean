/- Texts of the proof, joined. -/
import Derived.Test.YtahghpkjkfaieaaGreatDoorP1
import Derived.BigRegion
import Derived.Laws.StructEq
set_option maxRecDepth 100000
section
namespace Go.Proofs.YtahghpkjkfaieaaGreatDoor
open Go.RowKit Go.Lib
set_option maxHeartbeats 400000 in
theorem add_any (a b : Nat) (ha : a < big) (hb : b < big) (w : World) :
  Calls Tryz.prog 78 #[N a, N b] w (Rt w (.tuple #[N ((a + b) % big), .bool (decide (big ≤ a + b))])) := by
 have hend := cry_end a b ha hb
 have He : Hid ((cry a b 6 != 0) = decide (big ≤ a + b)) := hend
 clear hend ha hb
 go_enter Tryz.func78, Tryz.ntmps78
 go_wp2
 go_loopw [7, 9] (fun c i wr => ∃ k : Nat, k ≤ 6 ∧ i = .int .i64 k ∧ c = .int .u64 (cry a b k) ∧ Row wr w.heap.size 6 (wd a) ∧ Row wr (w.heap.size + 1) 6 (wd b) ∧ Row wr (w.heap.size + 1 + 1) 6 (fun _ => 0) ∧ Row wr (w.heap.size + 1 + 1 + 1) 6 (part (a + b) k) ∧ Below w.heap.size w wr) (fun _ i _ => 6 - (RowKit.intOf i).toNat)
 case atStart =>
  refine ⟨0, by omega, rfl, by simp [cry], ?_, ?_, ?_, ?_, ?_⟩
  ·exact (((Row.new w _ 24 rfl (six_lt rfl)).alloc (by simp <;> omega) _).alloc (by simp <;> omega) _).alloc (by simp <;> omega) _
  ·exact ((Row.new _ _ 24 (by simp <;> omega) (six_lt rfl)).alloc (by simp <;> omega) _).alloc (by simp <;> omega) _
  ·exact (Row.new _ _ 24 (by simp <;> omega) (six_lt (f := fun _ => 0) rfl)).alloc (by simp <;> omega) _
  ·exact Row.new _ _ 24 (by simp <;> omega) (six_lt (f := part (a + b) 0) rfl)
  ·exact ((((Below.refl _ _).alloc (Nat.le_refl _) _).alloc (by simp <;> omega) _).alloc (by simp <;> omega) _).alloc (by simp <;> omega) _
 case round =>
  obtain ⟨k, hk, rfl, rfl, hA, hB, hZ, hS, hw⟩ := hrel
  by_cases hlt : k < 6
  ·obtain ⟨hc0, hc1⟩ := cry_bd a b k
   have ha0 := (wd_bd a k).1
   have hb0 := (wd_bd b k).1
   have hA1 := (hA k hlt).1
   have hB1 := (hB k hlt).1
   obtain ⟨hS1, hS2⟩ := hS k hlt
   have h64 := fun w => add64' (wd a k) (wd b k) (cry a b k) ha0 hb0 hc0 hc1 w
   have r1 : Row wr w.heap.size 6 (wd a) ∧ Row wr (w.heap.size + 1) 6 (wd b) ∧ Row wr (w.heap.size + 1 + 1) 6 (fun _ => 0) ∧ Row wr (w.heap.size + 1 + 1 + 1) 6 (part (a + b) k) ∧ Below w.heap.size w wr := ⟨hA, hB, hZ, hS, hw⟩
   have R1 : Hid _ := r1
   clear hA hB hZ hS hw r1
   go_wp2
   go_region
   go_wp2
   go_roundw
   case rel =>
    obtain ⟨hA, hB, hZ, hS, hw⟩ := R1.out
    exact ⟨k + 1, by omega, by go_num, by rw [add_cry], (hA.set_other _ (by simp <;> omega)).drew, (hB.set_other _ (by simp <;> omega)).drew, (hZ.set_other _ (by simp <;> omega)).drew, ((hS.set _).congr (fun j _ => part_step (add_word a b k) j)).drew, (hw.setCell (by simp <;> omega) _).drew⟩
   case measure => simp [RowKit.intOf]; omega
  ·have hk6 : k = 6 := by omega
   subst hk6
   obtain ⟨s0, s1, s2, s3, s4, s5⟩ := (hS.congr (f' := wd ((a + b) % big)) (fun j hj => by rw [part_lt hj, wd_mod _ _ hj])).reads
   obtain ⟨z0, z1, z2, z3, z4, z5⟩ := hZ.writes
   obtain ⟨y0, y1, y2, y3, y4, y5⟩ := hZ.reads
   clear hA hB hZ hS
   go_wp2
   rw [He.out]
   exact bodyPost_ret (v := .tuple #[N ((a + b) % big), .bool (decide (big ≤ a + b))]) (by simp [results, Tryz.results78, go_sem, *]) rfl ⟨rfl, (((((hw.setCell (by simp <;> omega) _).setCell (by simp <;> omega) _).setCell (by simp <;> omega) _).setCell (by simp <;> omega) _).setCell (by simp <;> omega) _).setCell (by simp <;> omega) _⟩
set_option maxHeartbeats 400000 in
theorem sub_any (a b : Nat) (ha : a < big) (hb : b < big) (w : World) :
  Calls Tryz.prog 113 #[N a, N b] w (Rt w (.tuple #[N ((a + big - b) % big), .bool (decide (a < b))])) := by
 have hend := brw_end a b ha hb
 have He : Hid ((brw a b 6 != 0) = decide (a < b)) := hend
 have HB : Hid (b < big) := hb
 clear hend ha hb
 go_enter Tryz.func113, Tryz.ntmps113
 go_wp2
 go_loopw [7, 9] (fun c i wr => ∃ k : Nat, k ≤ 6 ∧ i = .int .i64 k ∧ c = .int .u64 (brw a b k) ∧ Row wr w.heap.size 6 (wd a) ∧ Row wr (w.heap.size + 1) 6 (wd b) ∧ Row wr (w.heap.size + 1 + 1) 6 (fun _ => 0) ∧ Row wr (w.heap.size + 1 + 1 + 1) 6 (part (a + big - b) k) ∧ Below w.heap.size w wr) (fun _ i _ => 6 - (RowKit.intOf i).toNat)
 case atStart =>
  refine ⟨0, by omega, rfl, by simp [brw, Nat.mod_one], ?_, ?_, ?_, ?_, ?_⟩
  ·exact (((Row.new w _ 24 rfl (six_lt rfl)).alloc (by simp <;> omega) _).alloc (by simp <;> omega) _).alloc (by simp <;> omega) _
  ·exact ((Row.new _ _ 24 (by simp <;> omega) (six_lt rfl)).alloc (by simp <;> omega) _).alloc (by simp <;> omega) _
  ·exact (Row.new _ _ 24 (by simp <;> omega) (six_lt (f := fun _ => 0) rfl)).alloc (by simp <;> omega) _
  ·exact Row.new _ _ 24 (by simp <;> omega) (six_lt (f := part (a + big - b) 0) rfl)
  ·exact ((((Below.refl _ _).alloc (Nat.le_refl _) _).alloc (by simp <;> omega) _).alloc (by simp <;> omega) _).alloc (by simp <;> omega) _
 case round =>
  obtain ⟨k, hk, rfl, rfl, hA, hB, hZ, hS, hw⟩ := hrel
  by_cases hlt : k < 6
  ·obtain ⟨hc0, hc1⟩ := brw_bd a b k
   have ha0 := (wd_bd a k).1
   have hb0 := (wd_bd b k).1
   have hb1 := (wd_bd b k).2
   have hA1 := (hA k hlt).1
   have hB1 := (hB k hlt).1
   obtain ⟨hS1, hS2⟩ := hS k hlt
   have h64 := fun w => sub64' (wd a k) (wd b k) (brw a b k) ha0 hb0 hb1 hc0 hc1 w
   clear hb1
   have r1 : Row wr w.heap.size 6 (wd a) ∧ Row wr (w.heap.size + 1) 6 (wd b) ∧ Row wr (w.heap.size + 1 + 1) 6 (fun _ => 0) ∧ Row wr (w.heap.size + 1 + 1 + 1) 6 (part (a + big - b) k) ∧ Below w.heap.size w wr := ⟨hA, hB, hZ, hS, hw⟩
   have R1 : Hid _ := r1
   clear hA hB hZ hS hw r1
   go_wp2
   go_region
   go_wp2
   go_roundw
   case rel =>
    obtain ⟨hA, hB, hZ, hS, hw⟩ := R1.out
    have hbb := HB.out
    exact ⟨k + 1, by omega, by go_num, by rw [sub_cry], (hA.set_other _ (by simp <;> omega)).drew, (hB.set_other _ (by simp <;> omega)).drew, (hZ.set_other _ (by simp <;> omega)).drew, ((hS.set _).congr (fun j _ => part_step (sub_word a b k hlt hbb) j)).drew, (hw.setCell (by simp <;> omega) _).drew⟩
   case measure => simp [RowKit.intOf]; omega
  ·have hk6 : k = 6 := by omega
   subst hk6
   obtain ⟨s0, s1, s2, s3, s4, s5⟩ := (hS.congr (f' := wd ((a + big - b) % big)) (fun j hj => by rw [part_lt hj, wd_mod _ _ hj])).reads
   obtain ⟨z0, z1, z2, z3, z4, z5⟩ := hZ.writes
   obtain ⟨y0, y1, y2, y3, y4, y5⟩ := hZ.reads
   clear hA hB hZ hS
   go_wp2
   rw [He.out]
   exact bodyPost_ret (v := .tuple #[N ((a + big - b) % big), .bool (decide (a < b))]) (by simp [results, Tryz.results113, go_sem, *]) rfl ⟨rfl, (((((hw.setCell (by simp <;> omega) _).setCell (by simp <;> omega) _).setCell (by simp <;> omega) _).setCell (by simp <;> omega) _).setCell (by simp <;> omega) _).setCell (by simp <;> omega) _⟩
end Go.Proofs.YtahghpkjkfaieaaGreatDoor
end
section
namespace Go.Proofs.YtahghpkjkfaieaaGreatDoor
open Go.RowKit
theorem run_eq6' (D : Nat) (hin : ∀ (a b : Int) (w : World), (Op.equalIn D 22 (.int .u64 a) (.int .u64 b)).run Tryz.prog w = .ok (a == b) w) (x0 x1 x2 x3 x4 x5 y0 y1 y2 y3 y4 y5 : Int) (w : World) :
  (Op.equalIn (D + 1) 24 (.agg #[.int .u64 x0, .int .u64 x1, .int .u64 x2, .int .u64 x3, .int .u64 x4, .int .u64 x5]) (.agg #[.int .u64 y0, .int .u64 y1, .int .u64 y2, .int .u64 y3, .int .u64 y4, .int .u64 y5])).run Tryz.prog w =
   .ok (x0 == y0 && (x1 == y1 && (x2 == y2 && (x3 == y3 && (x4 == y4 && x5 == y5))))) w := by
 have h24 : Tryz.prog.underlying 24 = some (.array 6 22) := by kernel_rfl
 have hsz : ∀ w, (sizeOf 22).run Tryz.prog w = .ok 1 w := fun w => by kernel_rfl
 have hp : ∀ (a b c d e f : Int) (w : World), (Go.part 22 #[.int .u64 a, .int .u64 b, .int .u64 c, .int .u64 d, .int .u64 e, .int .u64 f] 0).run Tryz.prog w = .ok (.int .u64 a) w ∧ (Go.part 22 #[.int .u64 a, .int .u64 b, .int .u64 c, .int .u64 d, .int .u64 e, .int .u64 f] 1).run Tryz.prog w = .ok (.int .u64 b) w ∧ (Go.part 22 #[.int .u64 a, .int .u64 b, .int .u64 c, .int .u64 d, .int .u64 e, .int .u64 f] 2).run Tryz.prog w = .ok (.int .u64 c) w ∧ (Go.part 22 #[.int .u64 a, .int .u64 b, .int .u64 c, .int .u64 d, .int .u64 e, .int .u64 f] 3).run Tryz.prog w = .ok (.int .u64 d) w ∧ (Go.part 22 #[.int .u64 a, .int .u64 b, .int .u64 c, .int .u64 d, .int .u64 e, .int .u64 f] 4).run Tryz.prog w = .ok (.int .u64 e) w ∧ (Go.part 22 #[.int .u64 a, .int .u64 b, .int .u64 c, .int .u64 d, .int .u64 e, .int .u64 f] 5).run Tryz.prog w = .ok (.int .u64 f) w := fun a b c d e f w => ⟨by kernel_rfl, by kernel_rfl, by kernel_rfl, by kernel_rfl, by kernel_rfl, by kernel_rfl⟩
 simp only [Op.equalIn, Sem.run_bind, run_underlying h24, Result.andThen_ok, hsz]
 simp [Std.Legacy.Range.forIn_eq_forIn_range', List.range', List.forIn_cons, hin, hp]
 repeat' split
 all_goals simp_all
theorem run_eq6 (x0 x1 x2 x3 x4 x5 y0 y1 y2 y3 y4 y5 : Int) (w : World) :
  (Op.equalIn 10000 24 (.agg #[.int .u64 x0, .int .u64 x1, .int .u64 x2, .int .u64 x3, .int .u64 x4, .int .u64 x5]) (.agg #[.int .u64 y0, .int .u64 y1, .int .u64 y2, .int .u64 y3, .int .u64 y4, .int .u64 y5])).run Tryz.prog w =
   .ok (x0 == y0 && (x1 == y1 && (x2 == y2 && (x3 == y3 && (x4 == y4 && x5 == y5))))) w :=
 run_eq6' 9999 (fun a b w => run_equalIn_int w 9998 22 .u64 .u64 a b (by kernel_rfl)) x0 x1 x2 x3 x4 x5 y0 y1 y2 y3 y4 y5 w
theorem num_ext' (a b : Nat) : ∀ m, (∀ j, j < m → wd a j = wd b j) → a % 2 ^ (64 * m) = b % 2 ^ (64 * m) := by
 intro m
 induction m with
 | zero => intro _; rw [Nat.mul_zero, Nat.pow_zero, Nat.mod_one, Nat.mod_one]
 | succ m ih =>
  intro h
  have h2 : wn a m = wn b m := Int.ofNat.inj (h m (by omega))
  rw [mod_step, mod_step, ih (fun j hj => h j (by omega)), h2]
theorem num_ext (a b : Nat) (ha : a < big) (hb : b < big) (h : ∀ j, j < 6 → wd a j = wd b j) : a = b := by
 have h2 := num_ext' a b 6 h
 rw [← big_eq, Nat.mod_eq_of_lt ha, Nat.mod_eq_of_lt hb] at h2
 exact h2
theorem num_eq (a b : Nat) (ha : a < big) (hb : b < big) : (wd a 0 == wd b 0 && (wd a 1 == wd b 1 && (wd a 2 == wd b 2 && (wd a 3 == wd b 3 && (wd a 4 == wd b 4 && wd a 5 == wd b 5))))) = decide (a = b) := by
 by_cases h : a = b
 ·subst h; simp
 ·rw [decide_eq_false h]
  apply Bool.eq_false_iff.2
  intro hh
  simp only [Bool.and_eq_true, beq_iff_eq] at hh
  obtain ⟨h0, h1, h2, h3, h4, h5⟩ := hh
  apply h
  apply num_ext a b ha hb
  intro j hj
  match j, hj with
  | 0, _ => exact h0
  | 1, _ => exact h1
  | 2, _ => exact h2
  | 3, _ => exact h3
  | 4, _ => exact h4
  | 5, _ => exact h5
theorem run_eqN (a b : Nat) (ha : a < big) (hb : b < big) (w : World) :
  (Op.equalIn 10000 24 (N a) (N b)).run Tryz.prog w = .ok (decide (a = b)) w := by rw [run_eq6, num_eq a b ha hb]
theorem big_pos : 0 < big := by rw [big_eq]; exact pow_pos' 6
theorem wd_small (n j : Nat) (hn : n < 18446744073709551616) : wd n (j + 1) = 0 := wd_top' n 1 (j + 1) (by simpa using hn) (by omega)
theorem wd_small0 (n : Nat) (hn : n < 18446744073709551616) : wd n 0 = n := by unfold wd; rw [Nat.mul_zero, Nat.pow_zero, Nat.div_one, Nat.mod_eq_of_lt hn]
set_option maxHeartbeats 400000 in
theorem of_any (n : Nat) (hn : n < 18446744073709551616) (w : World) :
  Calls Tryz.prog 7 #[.int .u64 n] w (Rt w (N n)) := by
 have h1 : wd n 1 = 0 := wd_small n 0 hn
 have h2 : wd n 2 = 0 := wd_small n 1 hn
 have h3 : wd n 3 = 0 := wd_small n 2 hn
 have h4 : wd n 4 = 0 := wd_small n 3 hn
 have h5 : wd n 5 = 0 := wd_small n 4 hn
 have h0 := wd_small0 n hn
 unfold N
 rw [h0, h1, h2, h3, h4, h5]
 clear h0 h1 h2 h3 h4 h5 hn
 go_enter Tryz.func7, Tryz.ntmps7
 go_wp2
 refine bodyPost_ret (v := .agg #[.int .u64 n, .int .u64 0, .int .u64 0, .int .u64 0, .int .u64 0, .int .u64 0]) ?_ rfl ⟨rfl, ?_⟩
 ·simp [results, Tryz.results7, go_sem]
 ·exact (Below.refl _ _).alloc (Nat.le_refl _) _
/-- What Compare tells. -/
def cmpv (a b : Nat) : Int := if a = b then 0 else if a < b then -1 else 1
set_option maxHeartbeats 400000 in
theorem compare_any (a b : Nat) (ha : a < big) (hb : b < big) (w : World) :
  Calls Tryz.prog 85 #[N a, N b] w (Rt w (.int .i64 (cmpv a b))) := by
 have he := fun w => run_eqN a b ha hb w
 have hs := fun w => sub_any a b ha hb w
 have HS : Hid _ := hs
 clear hs ha hb
 unfold cmpv
 by_cases c : a = b
 ·have hd : decide (a = b) = true := decide_eq_true c
  rw [if_pos c]
  simp only [hd] at he
  clear c hd
  go_enter Tryz.func85, Tryz.ntmps85
  go_wp2
  go_ret
  exact ⟨rfl, ((Below.refl _ _).alloc (Nat.le_refl _) _).alloc (by first | omega | (simp <;> omega)) _⟩
 ·have hd : decide (a = b) = false := decide_eq_false c
  rw [if_neg c]
  simp only [hd] at he
  clear c hd
  by_cases c2 : a < b
  ·rw [if_pos c2]
   have hd2 : decide (a < b) = true := decide_eq_true c2
   simp only [hd2] at HS
   clear hd2 c2
   go_enter Tryz.func85, Tryz.ntmps85
   go_wp2_with fail
   refine (HS.out _).mono ?_
   rintro e w1 ⟨rfl, hb1⟩
   go_wp2
   go_ret
   refine ⟨rfl, ?_⟩
   exact (((((Below.refl _ _).alloc (Nat.le_refl _) _).alloc (by first | omega | (simp <;> omega)) _).trans (hb1.mono (by simp <;> omega))).alloc (by have := hb1.size; simp at this; omega) _)
  ·rw [if_neg c2]
   have hd2 : decide (a < b) = false := decide_eq_false c2
   simp only [hd2] at HS
   clear hd2 c2
   go_enter Tryz.func85, Tryz.ntmps85
   go_wp2_with fail
   refine (HS.out _).mono ?_
   rintro e w1 ⟨rfl, hb1⟩
   go_wp2
   go_ret
   refine ⟨rfl, ?_⟩
   exact (((((Below.refl _ _).alloc (Nat.le_refl _) _).alloc (by first | omega | (simp <;> omega)) _).trans (hb1.mono (by simp <;> omega))).alloc (by have := hb1.size; simp at this; omega) _)
theorem exec_eq6 {ρ : Operand → Value} {o : Oper} {i j : Tmp} {v v' : Nat} {t : Bool} {w : World} (he : ∀ w, (Op.equalIn 10000 24 (N v) (N v')).run Tryz.prog w = .ok t w) (ho : o.op = .binOp .eql 24 (.tmp i) (.tmp j) 24) (hx : ρ (.tmp i) = N v) (hy : ρ (.tmp j) = N v') :
  (execOp ρ o).run Tryz.prog w = .ok (.value (.bool t)) w := by
 simp only [execOp, ho, hx, hy]
 clear hx hy
 go_simp
theorem exec_neq6 {ρ : Operand → Value} {o : Oper} {i j : Tmp} {v v' : Nat} {t : Bool} {w : World} (he : ∀ w, (Op.equalIn 10000 24 (N v) (N v')).run Tryz.prog w = .ok t w) (ho : o.op = .binOp .neq 24 (.tmp i) (.tmp j) 24) (hx : ρ (.tmp i) = N v) (hy : ρ (.tmp j) = N v') :
  (execOp ρ o).run Tryz.prog w = .ok (.value (.bool !t)) w := by
 simp only [execOp, ho, hx, hy]
 clear hx hy
 go_simp
end Go.Proofs.YtahghpkjkfaieaaGreatDoor
end
section
namespace Go.Proofs.YtahghpkjkfaieaaGreatDoor
open Go.RowKit
namespace Rg
/-- The blocks of the list are there, apart from each other, and hold these cells. -/
structure Mm (w : World) (l : List (Nat × List Value)) : Prop where
 blk : ∀ p ∈ l, p.1 < w.heap.size ∧ Blk w p.1 p.2
 nd : l.Pairwise (fun a b => a.1 ≠ b.1)
theorem Mm.nil (w : World) : Mm w [] := ⟨fun p h => absurd h (by simp), List.Pairwise.nil⟩
theorem Mm.below {w w1 : World} {l : List (Nat × List Value)} (h : Mm w l) (hb : Below w.heap.size w w1) : Mm w1 l :=
 ⟨fun p hp => ⟨Nat.lt_of_lt_of_le (h.blk p hp).1 hb.size, (h.blk p hp).2.below hb (h.blk p hp).1⟩, h.nd⟩
theorem Mm.drew {w : World} {l : List (Nat × List Value)} (h : Mm w l) : Mm w.drew l := h.below (Below.refl _ _).drew
theorem Mm.cons {w : World} {l : List (Nat × List Value)} (h : Mm w l) {g : Nat} {cs : List Value} (hb : Blk w g cs) (hg : g < w.heap.size) (hn : ∀ p ∈ l, p.1 ≠ g) : Mm w ((g, cs) :: l) :=
 ⟨fun p hp => by
  rcases List.mem_cons.1 hp with e | hp
  ·subst e; exact ⟨hg, hb⟩
  ·exact h.blk p hp, List.Pairwise.cons (fun p hp => (hn p hp).symm) h.nd⟩
theorem Mm.alloc {w : World} {l : List (Nat × List Value)} (h : Mm w l) (cs : List Value) (t : TypeId) {g : Nat} (hg : g = w.heap.size) : Mm (w.alloc (.cells cs.toArray t)) ((g, cs) :: l) := by
 subst hg
 exact (h.below ((Below.refl _ _).alloc (Nat.le_refl _) _)).cons (Blk.new w cs t) (by simp) (fun p hp => by have := (h.blk p hp).1; omega)
theorem Mm.sub {w : World} {l l' : List (Nat × List Value)} (h : Mm w l) (hs : l'.Sublist l) : Mm w l' := ⟨fun p hp => h.blk p (hs.subset hp), h.nd.sublist hs⟩
theorem Mm.tail {w : World} {p : Nat × List Value} {l : List (Nat × List Value)} (h : Mm w (p :: l)) : Mm w l := h.sub (List.sublist_cons_self _ _)
theorem Mm.cell {w : World} {l : List (Nat × List Value)} (h : Mm w l) {g : Nat} {cs : List Value} (hm : (g, cs) ∈ l) {k : Nat} {v : Value} (hk : cs[k]? = some v) : w.cell? ⟨g, k, none⟩ = some v := ((h.blk _ hm).2 k v hk).1
theorem Mm.free {w : World} {l : List (Nat × List Value)} (h : Mm w l) {g : Nat} {cs : List Value} (hm : (g, cs) ∈ l) {k : Nat} {v : Value} (hk : cs[k]? = some v) : w.frozen? ⟨g, k, none⟩ = false := ((h.blk _ hm).2 k v hk).2
theorem Mm.lt {w : World} {l : List (Nat × List Value)} (h : Mm w l) {g : Nat} {cs : List Value} (hm : (g, cs) ∈ l) : g < w.heap.size := (h.blk _ hm).1
/-! What a region leaves. -/
def laidOn (i : Nat) : List Kind → Option (List Value)
 | [] => none
 | (Sum.inr (Sum.inr (Sum.inr (Sum.inr (Sum.inl (j, _, cs)))))) :: r => if j = i then some cs else laidOn i r
 | _ :: r => laidOn i r
def fin (ks : List Kind) (i : Nat) : List Value := match laidOn i ks with | some cs => cs | none => (fresh ks i).getD []
theorem laidOn_some {i : Nat} {cs : List Value} : ∀ {ks : List Kind}, laidOn i ks = some cs → ∃ (s : Nat) (zs : List Value), ks[s]? = some (.laid i zs cs)
 | [], h => by cases h
 | k :: r, h => by
  cases k using Kind.each with
  | laid j zs cs' =>
   unfold laidOn at h
   split at h
   ·rename_i e
    injection h with h
    subst h e
    exact ⟨0, zs, rfl⟩
   ·obtain ⟨s, z, hs⟩ := laidOn_some h
    exact ⟨s + 1, z, hs⟩
  | _ =>
   obtain ⟨s, z, hs⟩ := laidOn_some (ks := r) h
   exact ⟨s + 1, z, hs⟩
theorem laidOn_none {i : Nat} : ∀ {ks : List Kind}, laidOn i ks = none → ∀ (s : Nat) (zs cs : List Value), ks[s]? ≠ some (.laid i zs cs)
 | [], _ => fun _ _ _ h => by simp at h
 | k :: r, h => by
  intro s zs cs hs
  have hr : laidOn i r = none := by
   cases k using Kind.each with
   | laid j z c => unfold laidOn at h; split at h <;> first | cases h | exact h
   | _ => exact h
  cases s with
  | zero =>
   simp at hs
   subst hs
   unfold laidOn at h
   rw [if_pos rfl] at h
   cases h
  | succ s => exact laidOn_none hr s zs cs (by simpa using hs)
theorem Mem.fin {ks : List Kind} {w₀ w : World} {l : Array Bool} {J : Nat → Nat} (h : Mem ks w₀ l J w) {p : Nat} (hp : ks.length ≤ p) (hl : ∀ i, i < p → l.getD i false = true) {i : Nat} (hi : (fresh ks i).isSome = true) :
  Blk w (J i) (fin ks i) ∧ w₀.heap.size ≤ J i ∧ J i < w.heap.size := by
 obtain ⟨zs, hz⟩ := Option.isSome_iff_exists.1 hi
 have hlt : ∀ (s : Nat) (k : Kind), ks[s]? = some k → l.getD s false = true := fun s k hs => hl s (by have := (List.getElem?_eq_some_iff.1 hs).1; omega)
 have hil : l.getD i false = true := by
  unfold fresh at hz
  cases hk : ks[i]? with
  | none => rw [hk] at hz; cases hz
  | some k => exact hlt i k hk
 refine ⟨?_, h.made i zs hz hil⟩
 unfold Rg.fin
 cases hL : laidOn i ks with
 | some cs =>
  obtain ⟨s, z, hs⟩ := laidOn_some hL
  exact (h.full s i z cs hs (hlt s _ hs)).1
 | none =>
  rw [hz]
  exact h.raw i zs hz hil (fun s z c hs => absurd hs (laidOn_none hL s z c))
/-- The blocks that a region made, beside those that were there. -/
theorem Mm.grow {ks : List Kind} {w₀ w : World} {l : Array Bool} {J : Nat → Nat} {L : List (Nat × List Value)} (hm : Mm w₀ L) (h : Mem ks w₀ l J w) {p : Nat} (hp : ks.length ≤ p) (hl : ∀ i, i < p → l.getD i false = true) :
  ∀ (is : List Nat), (is.all fun i => (fresh ks i).isSome) = true → is.Pairwise (· ≠ ·) → Mm w (is.map (fun i => (J i, fin ks i)) ++ L)
 | [], _, _ => hm.below h.below
 | i :: is, ha, hn => by
  simp only [List.all_cons, Bool.and_eq_true] at ha
  have ih := Mm.grow hm h hp hl is ha.2 (List.Pairwise.of_cons hn)
  obtain ⟨h1, h2, h3⟩ := h.fin hp hl ha.1
  refine ih.cons h1 h3 (fun q hq => ?_)
  rcases List.mem_append.1 hq with hq | hq
  ·obtain ⟨j, hj, e⟩ := List.mem_map.1 hq
   subst e
   have hjs := List.all_eq_true.1 ha.2 j hj
   obtain ⟨zi, hzi⟩ := Option.isSome_iff_exists.1 ha.1
   obtain ⟨zj, hzj⟩ := Option.isSome_iff_exists.1 hjs
   have hlist : ∀ {x : Nat} {z : List Value}, fresh ks x = some z → l.getD x false = true := fun {x z} hx => by
    unfold fresh at hx
    cases hk : ks[x]? with
    | none => rw [hk] at hx; cases hx
    | some k => exact hl x (by have := (List.getElem?_eq_some_iff.1 hk).1; omega)
   exact h.apart j i zj zi hzj hzi (hlist hzj) (hlist hzi) (fun e => (List.rel_of_pairwise_cons hn hj) e.symm)
  ·have := (hm.blk q hq).1
   omega
/-- A store into a block of the list. -/
def patch (cs : List Value) (off : Nat) (vs : List Value) : List Value := cs.take off ++ vs ++ cs.drop (off + vs.length)
theorem patch_get (cs : List Value) (off : Nat) (vs : List Value) (h : off + vs.length ≤ cs.length) (k : Nat) : (patch cs off vs)[k]? = if off ≤ k ∧ k < off + vs.length then vs[k - off]? else cs[k]? := by
 unfold patch
 by_cases h1 : k < off
 ·rw [if_neg (by omega), List.append_assoc, List.getElem?_append_left (by simp; omega), List.getElem?_take, if_pos h1]
 ·by_cases h2 : k < off + vs.length
  ·rw [if_pos ⟨by omega, h2⟩, List.append_assoc, List.getElem?_append_right (by simp; omega), List.getElem?_append_left (by simp; omega)]
   congr 1
   simp; omega
  ·rw [if_neg (by omega), List.getElem?_append_right (by simp; omega), List.getElem?_drop]
   congr 1
   simp; omega
theorem Blk.patch {w : World} {g : Nat} {cs : List Value} (h : Blk w g cs) (off : Nat) (vs : List Value) (hl : off + vs.length ≤ cs.length) : Blk (w.setCells g off vs) g (patch cs off vs) := fun j v hv => by
 rw [patch_get _ _ _ hl] at hv
 split at hv
 ·rename_i hj
  have hz : cs[j]? = some (cs[j]'(by omega)) := List.getElem?_eq_getElem _
  refine ⟨?_, by rw [World.frozen?_setCells]; exact (h j _ hz).2⟩
  have := World.cell?_setCells_in g vs off w (fun i hi => by
   have := (h (off + i) _ (List.getElem?_eq_getElem (show off + i < cs.length by omega))).1
   rw [this]; rfl) (j - off) (by omega)
  rw [show off + (j - off) = j by omega] at this
  rw [this]
  obtain ⟨h1, h2⟩ := List.getElem?_eq_some_iff.1 hv
  rw [← h2]
 ·rename_i hj
  exact ⟨by rw [World.cell?_setCells_out g vs off w _ (fun _ => by simp; omega)]; exact (h j v hv).1, by rw [World.frozen?_setCells]; exact (h j v hv).2⟩
theorem Blk.apart {w : World} {g g' off : Nat} {cs vs : List Value} (h : Blk w g cs) (hg : g ≠ g') : Blk (w.setCells g' off vs) g cs := fun j v hv =>
 ⟨by rw [World.cell?_setCells_out g' vs off w _ (fun e => absurd e hg)]; exact (h j v hv).1, by rw [World.frozen?_setCells]; exact (h j v hv).2⟩
theorem Mm.put {w : World} {l : List (Nat × List Value)} (h : Mm w l) (k : Nat) {g off : Nat} {cs vs : List Value} (hk : l[k]? = some (g, cs)) (hl : off + vs.length ≤ cs.length) : Mm (w.setCells g off vs) (l.set k (g, patch cs off vs)) := by
 have hkl : k < l.length := (List.getElem?_eq_some_iff.1 hk).1
 have hke : l[k] = (g, cs) := (List.getElem?_eq_some_iff.1 hk).2
 have hpw := List.pairwise_iff_getElem.1 h.nd
 refine ⟨fun p hp => ?_, ?_⟩
 ·rw [size_setCells]
  obtain ⟨j, hj, e⟩ := List.getElem_of_mem hp
  rw [List.getElem_set] at e
  have hj' : j < l.length := by simpa using hj
  split at e
  ·subst e
   have := h.blk _ (List.mem_of_getElem? hk)
   exact ⟨this.1, Blk.patch this.2 off vs hl⟩
  ·rename_i hne
   subst e
   have := h.blk _ (List.getElem_mem hj')
   refine ⟨this.1, Blk.apart this.2 ?_⟩
   rcases Nat.lt_or_ge j k with h' | h'
   ·have := hpw j k hj' hkl h'
    rw [hke] at this
    exact this
   ·have := hpw k j hkl hj' (by omega)
    rw [hke] at this
    exact this.symm
 ·refine List.pairwise_iff_getElem.2 fun i j hi hj hij => ?_
  have hi' : i < l.length := by simpa using hi
  have hj' : j < l.length := by simpa using hj
  have := hpw i j hi' hj' hij
  rw [List.getElem_set, List.getElem_set]
  split
  ·rename_i e1
   subst e1
   rw [if_neg (by omega)]
   rw [hke] at this
   exact this
  ·split
   ·rename_i e2
    subst e2
    rw [hke] at this
    exact this
   ·exact this
end Rg
end Go.Proofs.YtahghpkjkfaieaaGreatDoor
end
section
namespace Go.Proofs.YtahghpkjkfaieaaGreatDoor
open Go.RowKit
/-- What is carried out of the lowest j words of S + x b. -/
def cc (S x b j : Nat) : Nat := (S % 2 ^ (64 * j) + x * (b % 2 ^ (64 * j))) / 2 ^ (64 * j)
theorem cc_zero (S x b : Nat) : cc S x b 0 = 0 := by simp [cc, Nat.mod_one]
theorem cc_core (S x b Q : Nat) (hQ : 0 < Q) :
  (S % (Q * 18446744073709551616) + x * (b % (Q * 18446744073709551616))) / (Q * 18446744073709551616) = (x * (b / Q % 18446744073709551616) + S / Q % 18446744073709551616 + (S % Q + x * (b % Q)) / Q) / 18446744073709551616 ∧
  (S + x * b) / Q % 18446744073709551616 = (x * (b / Q % 18446744073709551616) + S / Q % 18446744073709551616 + (S % Q + x * (b % Q)) / Q) % 18446744073709551616 := by
 constructor
 ·rw [Nat.mod_mul, Nat.mod_mul, ← Nat.div_div_eq_div_mul]
  have e : S % Q + Q * (S / Q % 18446744073709551616) + x * (b % Q + Q * (b / Q % 18446744073709551616)) = (S % Q + x * (b % Q)) + Q * (x * (b / Q % 18446744073709551616) + S / Q % 18446744073709551616) := by
   rw [Nat.mul_add, Nat.mul_add, Nat.mul_left_comm x Q]; omega
  rw [e, Nat.add_mul_div_left _ _ hQ]
  congr 1
  omega
 ·have e : S + x * b = (S % Q + x * (b % Q)) + Q * (S / Q + x * (b / Q)) := by
   have h1 := Nat.div_add_mod S Q
   have h2 : x * b = x * (Q * (b / Q)) + x * (b % Q) := by rw [← Nat.mul_add, Nat.div_add_mod]
   rw [Nat.mul_add, Nat.mul_left_comm Q x]; omega
  rw [e, Nat.add_mul_div_left _ _ hQ]
  generalize (S % Q + x * (b % Q)) / Q = c
  have h3 : x * (b / Q) = 18446744073709551616 * (x * (b / Q / 18446744073709551616)) + x * (b / Q % 18446744073709551616) := by
   rw [Nat.mul_left_comm, ← Nat.mul_add, Nat.div_add_mod]
  generalize x * (b / Q) = p at h3 ⊢
  generalize x * (b / Q / 18446744073709551616) = q at h3
  generalize x * (b / Q % 18446744073709551616) = r at h3 ⊢
  omega
theorem cc_lt (S x b j : Nat) (hx : x < 18446744073709551616) : cc S x b j < 18446744073709551616 := by
 unfold cc
 have hq := pow_pos' j
 have h1 := Nat.mod_lt S hq
 have h3 := Nat.mod_lt b hq
 rw [Nat.div_lt_iff_lt_mul hq]
 have h4 : x * (b % 2 ^ (64 * j)) ≤ 18446744073709551615 * 2 ^ (64 * j) := Nat.mul_le_mul (by omega) (by omega)
 generalize 2 ^ (64 * j) = Q at *
 omega
theorem cc_hi (S x b j : Nat) : mulHi (x : Int) (wd b j) (wd S j) (cc S x b j : Nat) = (cc S x b (j + 1) : Nat) := by
 unfold mulHi
 have e := (cc_core S x b _ (pow_pos' j)).1
 unfold cc
 rw [pow_step, e, wd_wn, wd_wn]
 unfold wn
 rw [← Int.natCast_mul, ← Int.natCast_add, ← Int.natCast_add]
 rfl
theorem cc_lo (S x b j : Nat) : mulLo (x : Int) (wd b j) (wd S j) (cc S x b j : Nat) = wd (S + x * b) j := by
 unfold mulLo cc
 have e := (cc_core S x b _ (pow_pos' j)).2
 rw [wd_wn (S + x * b)]
 unfold wn
 rw [e, wd_wn, wd_wn]
 unfold wn
 rw [← Int.natCast_mul, ← Int.natCast_add, ← Int.natCast_add]
 rfl
/-! Congruences. -/
/-- a and b leave the same by n. -/
def Cg (n a b : Nat) : Prop := a % n = b % n
theorem Cg.refl (n a : Nat) : Cg n a a := rfl
theorem Cg.symm {n a b : Nat} (h : Cg n a b) : Cg n b a := Eq.symm h
theorem Cg.trans {n a b c : Nat} (h : Cg n a b) (h' : Cg n b c) : Cg n a c := Eq.trans h h'
theorem Cg.mul {n a b c d : Nat} (h : Cg n a b) (h' : Cg n c d) : Cg n (a * c) (b * d) := by
 unfold Cg at *; rw [Nat.mul_mod, h, h', ← Nat.mul_mod]
theorem Cg.add {n a b c d : Nat} (h : Cg n a b) (h' : Cg n c d) : Cg n (a + c) (b + d) := by
 unfold Cg at *; rw [Nat.add_mod, h, h', ← Nat.add_mod]
theorem Cg.mod (n a : Nat) : Cg n (a % n) a := Nat.mod_mod a n
theorem Cg.mulL {n a b : Nat} (c : Nat) (h : Cg n a b) : Cg n (c * a) (c * b) := (Cg.refl n c).mul h
theorem Cg.mulR {n a b : Nat} (c : Nat) (h : Cg n a b) : Cg n (a * c) (b * c) := h.mul (Cg.refl n c)
theorem Cg.addL {n a b : Nat} (c : Nat) (h : Cg n a b) : Cg n (c + a) (c + b) := (Cg.refl n c).add h
theorem Cg.addR {n a b : Nat} (c : Nat) (h : Cg n a b) : Cg n (a + c) (b + c) := h.add (Cg.refl n c)
theorem Cg.zero (n k : Nat) : Cg n (k * n) 0 := by unfold Cg; rw [Nat.mul_mod_left, Nat.zero_mod]
theorem Cg.pow {n a b : Nat} (h : Cg n a b) (k : Nat) : Cg n (a ^ k) (b ^ k) := by
 induction k with
 | zero => exact Cg.refl _ _
 | succ k ih => rw [Nat.pow_succ, Nat.pow_succ]; exact ih.mul h
theorem Cg.eq_of_lt {n a b : Nat} (h : Cg n a b) (ha : a < n) (hb : b < n) : a = b := by
 unfold Cg at h; rwa [Nat.mod_eq_of_lt ha, Nat.mod_eq_of_lt hb] at h
theorem Cg.eq_mod {n a b : Nat} (h : Cg n a b) (ha : a < n) : a = b % n := by
 unfold Cg at h; rwa [Nat.mod_eq_of_lt ha] at h
/-! A half, by an odd number; what undoes 2^384. -/
def hf (n : Nat) : Nat := (n + 1) / 2
theorem hf_two (n : Nat) (ho : n % 2 = 1) : Cg n (2 * hf n) 1 := by
 have e : 2 * hf n = 1 + n := by unfold hf; omega
 unfold Cg; rw [e, Nat.add_mod_right]
theorem hf_pow (n k : Nat) (ho : n % 2 = 1) : Cg n (2 ^ k * hf n ^ k) 1 := by
 rw [← Nat.mul_pow]
 have := (hf_two n ho).pow k
 rwa [Nat.one_pow] at this
def ri (n : Nat) : Nat := hf n ^ (64 * 6)
theorem ri_big (n : Nat) (ho : n % 2 = 1) : Cg n (big * ri n) 1 := by
 unfold ri; rw [big_eq]
 obtain ⟨k, hk⟩ : ∃ k, k = 64 * 6 := ⟨_, rfl⟩
 rw [← hk]
 exact hf_pow n k ho
/-- What Montgomery's product tells. -/
def mont (n a b : Nat) : Nat := a * b * ri n % n
theorem mont_lt (n a b : Nat) (hn : 0 < n) : mont n a b < n := Nat.mod_lt _ hn
theorem mont_cg (n a b : Nat) : Cg n (mont n a b) (a * b * ri n) := Cg.mod _ _
theorem mont_of (n a b y : Nat) (ho : n % 2 = 1) (h : Cg n (y * big) (a * b)) : Cg n y (mont n a b) := by
 have h1 : Cg n (y * big * ri n) (a * b * ri n) := h.mulR _
 have h2 : Cg n (y * (big * ri n)) (y * 1) := (ri_big n ho).mulL y
 rw [← Nat.mul_assoc, Nat.mul_one] at h2
 exact (h2.symm.trans h1).trans (mont_cg n a b).symm
/-! The rounds. -/
def mt (X wr : Nat) : Nat := X % 18446744073709551616 * wr % 18446744073709551616
theorem mt_lt (X wr : Nat) : mt X wr < 18446744073709551616 := Nat.mod_lt _ (by decide)
def mstep (n wr b S x : Nat) : Nat := (S + x * b + mt (S + x * b) wr * n) / 18446744073709551616
def mrun (n wr a b : Nat) : Nat → Nat
 | 0 => 0
 | i + 1 => mstep n wr b (mrun n wr a b i) (wn a i)
theorem mt_even (n wr X : Nat) (h : wr * n % 18446744073709551616 = 18446744073709551615) : (X + mt X wr * n) % 18446744073709551616 = 0 := by
 have h1 : Cg 18446744073709551616 (mt X wr * n) (X * (wr * n)) := by
  rw [← Nat.mul_assoc]
  exact (((Cg.mod _ _).trans ((Cg.mod _ _).mulR wr))).mulR n
 have h2 : Cg 18446744073709551616 (X * (wr * n)) (X * 18446744073709551615) := Cg.mulL X (by unfold Cg; rw [h])
 have h3 := (h1.trans h2).addL X
 unfold Cg at h3
 rw [h3]
 omega
theorem mstep_mul (n wr b S x : Nat) (h : wr * n % 18446744073709551616 = 18446744073709551615) : mstep n wr b S x * 18446744073709551616 = S + x * b + mt (S + x * b) wr * n := by
 have := mt_even n wr (S + x * b) h
 unfold mstep
 omega
theorem mstep_lt (n wr b S x : Nat) (hS : S < b + n) (hx : x < 18446744073709551616) : mstep n wr b S x < b + n := by
 unfold mstep
 have ht := mt_lt (S + x * b) wr
 rw [Nat.div_lt_iff_lt_mul (by decide)]
 have h1 : x * b ≤ 18446744073709551615 * b := Nat.mul_le_mul_right _ (by omega)
 have h2 : mt (S + x * b) wr * n ≤ 18446744073709551615 * n := Nat.mul_le_mul_right _ (by omega)
 omega
theorem mrun_lt (n wr a b : Nat) (hn : 0 < n) : ∀ i, mrun n wr a b i < b + n
 | 0 => by unfold mrun; omega
 | i + 1 => mstep_lt n wr b _ _ (mrun_lt n wr a b hn i) (wn_lt a i)
theorem mrun_cg (n wr a b : Nat) (h : wr * n % 18446744073709551616 = 18446744073709551615) : ∀ i, Cg n (mrun n wr a b i * 2 ^ (64 * i)) (a % 2 ^ (64 * i) * b)
 | 0 => by
  unfold mrun
  rw [Nat.mul_zero, Nat.pow_zero, Nat.mod_one, Nat.zero_mul, Nat.zero_mul]
  exact Cg.refl _ _
 | i + 1 => by
  have ih := mrun_cg n wr a b h i
  have e : mrun n wr a b (i + 1) * 2 ^ (64 * (i + 1)) = mrun n wr a b i * 2 ^ (64 * i) + wn a i * b * 2 ^ (64 * i) + mt (mrun n wr a b i + wn a i * b) wr * 2 ^ (64 * i) * n := by
   have hm := mstep_mul n wr b (mrun n wr a b i) (wn a i) h
   rw [pow_step, Nat.mul_comm (2 ^ (64 * i)), ← Nat.mul_assoc]
   show mstep n wr b (mrun n wr a b i) (wn a i) * 18446744073709551616 * 2 ^ (64 * i) = _
   rw [hm, Nat.add_mul, Nat.add_mul]
   congr 1
   rw [Nat.mul_assoc, Nat.mul_comm n, ← Nat.mul_assoc]
  rw [e, mod_step, Nat.add_mul]
  have h2 := (ih.addR (wn a i * b * 2 ^ (64 * i))).add (Cg.zero n (mt (mrun n wr a b i + wn a i * b) wr * 2 ^ (64 * i)))
  rw [Nat.add_zero] at h2
  refine h2.trans ?_
  have e3 : wn a i * b * 2 ^ (64 * i) = 2 ^ (64 * i) * wn a i * b := by rw [Nat.mul_comm, ← Nat.mul_assoc]
  rw [e3]
  exact Cg.refl _ _
theorem mrun_end (n wr a b : Nat) (ho : n % 2 = 1) (h : wr * n % 18446744073709551616 = 18446744073709551615) (ha : a < big) : Cg n (mrun n wr a b 6) (mont n a b) := by
 have := mrun_cg n wr a b h 6
 rw [← big_eq, Nat.mod_eq_of_lt ha] at this
 exact mont_of n a b _ ho this
theorem low_cut (n x y : Nat) (h : Cg n x y) (hx : x < n + n) (hy : y < n) : (if x < n then x else x - n) = y := by
 split
 ·exact h.eq_of_lt ‹_› hy
 ·refine Cg.eq_of_lt (n := n) ?_ (by omega) hy
  refine Cg.trans ?_ h
  unfold Cg
  rw [Nat.mod_eq_sub_mod (a := x) (by omega)]
/-! One round's words. -/
theorem step_word (n wr b S x k : Nat) : wd (mstep n wr b S x) k = wd (S + x * b + mt (S + x * b) wr * n) (k + 1) := by
 unfold mstep wd
 rw [pow_step, Nat.mul_comm (2 ^ (64 * k)), Nat.div_div_eq_div_mul]
theorem big_pos0 : 0 < big := by rw [big_eq]; exact pow_pos' 6
theorem step_top (n wr b S x : Nat) (hS : S < big) (hb : b < big) (hn : n < big) (hr : mstep n wr b S x < big) : (cc S x b 6 + cc (S + x * b) (mt (S + x * b) wr) n 6 : Nat) = wn (mstep n wr b S x) 5 := by
 have e1 : cc S x b 6 = (S + x * b) / big := by unfold cc; rw [← big_eq, Nat.mod_eq_of_lt hS, Nat.mod_eq_of_lt hb]
 have e2 : cc (S + x * b) (mt (S + x * b) wr) n 6 = ((S + x * b) % big + mt (S + x * b) wr * n) / big := by unfold cc; rw [← big_eq, Nat.mod_eq_of_lt hn]
 rw [e1, e2]
 have e3 : mstep n wr b S x = (S + x * b + mt (S + x * b) wr * n) / 18446744073709551616 := rfl
 rw [e3] at hr ⊢
 unfold wn
 obtain ⟨m, hm⟩ : ∃ m, m = 5 := ⟨_, rfl⟩
 have hb' : big = 2 ^ (64 * m) * 18446744073709551616 := by
  rw [big_eq, ← pow_step m]
  have : 6 = m + 1 := by omega
  rw [this]
 rw [← hm]
 generalize mt (S + x * b) wr * n = T at hr ⊢
 generalize S + x * b = X at hr ⊢
 have h1 : (X + T) / 18446744073709551616 / 2 ^ (64 * m) = (X + T) / big := by rw [Nat.div_div_eq_div_mul, hb', Nat.mul_comm]
 have h2 : (X + T) / 18446744073709551616 / 2 ^ (64 * m) < 18446744073709551616 := Nat.div_lt_of_lt_mul (by rw [← hb']; exact hr)
 have h3 : (X + T) / big = X / big + (X % big + T) / big := by
  have h4 := Nat.div_add_mod X big
  have h5 : X + T = (X % big + T) + big * (X / big) := by omega
  rw [h5, Nat.add_mul_div_left _ _ big_pos0]; omega
 rw [Nat.mod_eq_of_lt h2, h1, h3]
end Go.Proofs.YtahghpkjkfaieaaGreatDoor
end
section
namespace Go.Proofs.YtahghpkjkfaieaaGreatDoor
open Go.RowKit
namespace Rg
abbrev PT (g off : Nat) : Value := .pointer (some ⟨g, off, none⟩)
theorem six_of {cs : List Value} {off v : Nat} (hc : (cs.drop off).take 6 = zE v) : cs[off]? = some (.int .u64 (wd v 0)) ∧ cs[off + 1]? = some (.int .u64 (wd v 1)) ∧ cs[off + 2]? = some (.int .u64 (wd v 2)) ∧ cs[off + 3]? = some (.int .u64 (wd v 3)) ∧ cs[off + 4]? = some (.int .u64 (wd v 4)) ∧ cs[off + 5]? = some (.int .u64 (wd v 5)) := by
  have h : ∀ k, k < 6 → cs[off + k]? = (zE v)[k]? := fun k hk => by
    rw [← hc, List.getElem?_take, if_pos hk, List.getElem?_drop]
  exact ⟨h 0 (by decide), h 1 (by decide), h 2 (by decide), h 3 (by decide), h 4 (by decide), h 5 (by decide)⟩
theorem ex_load6 {ρ : Operand → Value} {o : Oper} {x : Operand} {g off v : Nat} {cs : List Value} {w : World} {l : List (Nat × List Value)} (h : Mm w l) (k : Nat) (hk : l[k]? = some (g, cs)) (ho : o.op = .load 24 x) (hx : ρ x = PT g off) (hc : (cs.drop off).take 6 = zE v) :
    (execOp ρ o).run Tryz.prog w = .ok (.value (N v)) w := by
  have hm := List.mem_of_getElem? hk
  obtain ⟨k0, k1, k2, k3, k4, k5⟩ := six_of hc
  have c0 := h.cell hm k0
  have c1 := h.cell hm k1
  have c2 := h.cell hm k2
  have c3 := h.cell hm k3
  have c4 := h.cell hm k4
  have c5 := h.cell hm k5
  clear h hk hm hc k0 k1 k2 k3 k4 k5
  simp only [execOp, ho, hx]
  go_simp
theorem ex_load1 {ρ : Operand → Value} {o : Oper} {x : Operand} {g off : Nat} {v : Value} {cs : List Value} {w : World} {l : List (Nat × List Value)} (h : Mm w l) (k : Nat) (hk : l[k]? = some (g, cs)) (ho : o.op = .load 22 x) (hx : ρ x = PT g off) (hc : cs[off]? = some v) :
    (execOp ρ o).run Tryz.prog w = .ok (.value v) w := by
  have c0 := h.cell (List.mem_of_getElem? hk) hc
  clear h hk hc
  simp only [execOp, ho, hx]
  go_simp
theorem ex_box6 {ρ : Operand → Value} {o : Oper} {x : Operand} {v : Nat} {w : World} (ho : o.op = .box 24 x) (hx : ρ x = N v) :
    (execOp ρ o).run Tryz.prog w = .ok (.value (.pointer (some ⟨w.heap.size, 0, none⟩))) (w.alloc (.cells (zE v).toArray 24)) := by
  simp only [execOp, ho, hx]
  go_simp
theorem zQ {ρ : Operand → Value} {o : Oper} {x y : Operand} {g off v : Nat} {cs : List Value} {w : World} {l : List (Nat × List Value)} (h : Mm w l) (k : Nat) (hk : l[k]? = some (g, cs)) (ho : o.op = .store 24 x y) (hx : ρ x = PT g off) (hy : ρ y = N v) (hc : off + 6 ≤ cs.length) :
    (execOp ρ o).run Tryz.prog w = .ok .skip (w.setCells g off (zE v)) := by
  have hm := List.mem_of_getElem? hk
  have hq : ∀ k, k < 6 → ∃ u, w.cell? ⟨g, off + k, none⟩ = some u ∧ w.frozen? ⟨g, off + k, none⟩ = false := fun k hk => by
    have e : cs[off + k]? = some (cs[off + k]'(by omega)) := List.getElem?_eq_getElem _
    exact ⟨_, h.cell hm e, h.free hm e⟩
  obtain ⟨u0, c0, f0⟩ := hq 0 (by decide)
  obtain ⟨u1, c1, f1⟩ := hq 1 (by decide)
  obtain ⟨u2, c2, f2⟩ := hq 2 (by decide)
  obtain ⟨u3, c3, f3⟩ := hq 3 (by decide)
  obtain ⟨u4, c4, f4⟩ := hq 4 (by decide)
  obtain ⟨u5, c5, f5⟩ := hq 5 (by decide)
  clear h hm hc hk hq
  rw [Nat.add_zero] at c0 f0
  simp only [execOp, ho, hx, hy]
  go_simp
  simp [World.setCells]
theorem ex_storeI {ρ : Operand → Value} {o : Oper} {x y : Operand} {g off : Nat} {ik : IntKind} {v : Int} {t : TypeId} {cs : List Value} {w : World} {l : List (Nat × List Value)} (h : Mm w l) (k : Nat) (hk : l[k]? = some (g, cs)) (ho : o.op = .store t x y) (hs : ∀ w, (sizeOf t).run Tryz.prog w = .ok 1 w) (hx : ρ x = PT g off) (hy : ρ y = .int ik v) (hc : off < cs.length) :
    (execOp ρ o).run Tryz.prog w = .ok .skip (w.setCells g off [.int ik v]) := by
  have hm := List.mem_of_getElem? hk
  have e : cs[off]? = some (cs[off]'hc) := List.getElem?_eq_getElem _
  have c0 := h.cell hm e
  have f0 := h.free hm e
  clear h hm hk
  simp only [execOp, ho, hx, hy]
  go_simp
  simp [World.setCells]
theorem ex_storeB {ρ : Operand → Value} {o : Oper} {x y : Operand} {g off : Nat} {v : Bool} {t : TypeId} {cs : List Value} {w : World} {l : List (Nat × List Value)} (h : Mm w l) (k : Nat) (hk : l[k]? = some (g, cs)) (ho : o.op = .store t x y) (hs : ∀ w, (sizeOf t).run Tryz.prog w = .ok 1 w) (hx : ρ x = PT g off) (hy : ρ y = .bool v) (hc : off < cs.length) :
    (execOp ρ o).run Tryz.prog w = .ok .skip (w.setCells g off [.bool v]) := by
  have hm := List.mem_of_getElem? hk
  have e : cs[off]? = some (cs[off]'hc) := List.getElem?_eq_getElem _
  have c0 := h.cell hm e
  have f0 := h.free hm e
  clear h hm hk
  simp only [execOp, ho, hx, hy]
  go_simp
  simp [World.setCells]
theorem Mm.one {w : World} {l : List (Nat × List Value)} (h : Mm w l) (k : Nat) {p : Nat × List Value} (hk : l[k]? = some p) : Mm w [p] :=
  ⟨fun q hq => by rw [List.mem_singleton.1 hq]; exact h.blk p (List.mem_of_getElem? hk), List.pairwise_singleton _ _⟩
theorem Mm.get {w : World} {l : List (Nat × List Value)} (h : Mm w l) (k : Nat) {g : Nat} {cs : List Value} (hk : l[k]? = some (g, cs)) (j : Nat) {v : Value} (hj : cs[j]? = some v) : w.cell? ⟨g, j, none⟩ = some v := h.cell (List.mem_of_getElem? hk) hj
/-- A call of a function in place of which the model has a law. -/
theorem ex_extern {P : Program} {ρ : Operand → Value} {o : Oper} {f : FuncId} {xs : Array Operand} {ts : Array TypeId} {args : Array Value} {v : Value} {w : World} (ho : o.op = .call { callee := .value (.func f), args := xs, argTypes := ts }) (hc : (callFunc f args).run P w = .ok (.value v) w) (hf : ρ (.func f) = .func (.func f) #[] #[]) (hx : xs.map ρ = args) :
    (execOp ρ o).run P w = .ok (.value v) w := by
  subst hx
  simp only [execOp, ho, resolve, hf]
  simp [go_sem, Deferred.ofValue, invoke, hc]
/-! The laws of regions, as a walk uses them. -/
section
variable {P : Program} {Q : Exit → Act → World → Prop} {full : Array Oper} {a : Act} {w : World}
theorem take_arr (full : Array Oper) (p : Nat) : full.extract 0 p = (full.toList.take p).toArray := by
  apply Array.toList_inj.1
  simp [List.extract_eq_take_drop]
theorem walk_any {id : Nat} (hm : P.follows .mixedOrders = true) (p : Nat) (ks : List Kind) (S : World → Prop) (pre : List Oper) (F : (Nat → Nat) → Act) (hpre : full.toList.take p = pre)
    (hF : ∀ J, zY J 0 pre ks a = F J) (hor : (orderly pre.toArray ks a.tmps.size && guarded pre.toArray p && chained full p && decide (p ≤ full.size)) = true) (hL : LaidOk ks ks) (hS : ∀ w', Below w.heap.size w w' → S w')
    (hops : AllOk P pre.toArray S F pre ks)
    (hend : ∀ J w' l, Mem ks w l J w' → (∀ i, i < p → l.getD i false = true) → wpOps P full Q (List.range' p (full.size - p)) (F J) w') :
    (Code.region id full true).wp P Q a w := by
  subst hpre
  rw [← take_arr] at hor hops
  refine region_any hm p ks S F (fun J => ?_) hor hL hS ?_ hend
  · rw [take_arr]; exact hF J
  · have e : (full.extract 0 p).toList = full.toList.take p := by rw [take_arr]
    rw [e]; exact hops
theorem walk_seq {id : Nat} (p : Nat) (ks : List Kind) (S : World → Prop) (pre : List Oper) (F : (Nat → Nat) → Act) (hpre : full.toList.take p = pre)
    (hF : ∀ J, zY J 0 pre ks a = F J) (hor : (orderly pre.toArray ks a.tmps.size && guarded pre.toArray p && decide (p ≤ full.size)) = true) (hL : LaidOk ks ks) (hS : ∀ w', Below w.heap.size w w' → S w')
    (hops : AllOk P pre.toArray S F pre ks)
    (hend : ∀ J w' l, Mem ks w l J w' → (∀ i, i < p → l.getD i false = true) → wpOps P full Q (List.range' p (full.size - p)) (F J) w') :
    (Code.region id full false).wp P Q a w := by
  subst hpre
  rw [← take_arr] at hor hops
  refine region_seq p ks S F (fun J => ?_) hor hL hS ?_ hend
  · rw [take_arr]; exact hF J
  · have e : (full.extract 0 p).toList = full.toList.take p := by rw [take_arr]
    rw [e]; exact hops
theorem AllOk.cons {ops : Array Oper} {S : World → Prop} {F : (Nat → Nat) → Act} {o : Oper} {os : List Oper} {k : Kind} {ks : List Kind} (h : KindOk P ops S F o k) (hs : AllOk P ops S F os ks) : AllOk P ops S F (o :: os) (k :: ks) := ⟨h, hs⟩
theorem zR {p m : Nat} {l : List Nat} (h : List.range' p m = l) (hw : wpOps P full Q l a w) : wpOps P full Q (List.range' p m) a w := by rw [h]; exact hw
theorem zB {K : Act → World → Prop} (h : K a w) : Exit.then K Q .normal a w := h
theorem zL {K : Act → World → Prop} (h : Q .ret a w) : Exit.then K Q .ret a w := h
theorem zX {K : Act → World → Prop} {id : Nat} (h : Q (.exit id) a w) : Exit.then K Q (.exit id) a w := h
theorem zK {id : Nat} (h : Q .ret a w) : Exit.inBlock id Q .ret a w := h
theorem zA {i d : Nat} {r : List Nat} {o : Oper} {v : Value} {w' : World} (ho : full[i]? = some o) (hd : o.dst = some d) (hw : Region.wanted o (yielded full a.tmps) = true) (hx : (execOp a.eval o).run P w = .ok (.value v) w') (h : wpOps P full Q r (a.put (some d) v) w') : wpOps P full Q (i :: r) a w :=
  rest_value ho hw hx (by rw [hd]; exact h)
theorem rest_store {i : Nat} {r : List Nat} {o : Oper} {w' : World} (ho : full[i]? = some o) (hd : o.dst = none) (hw : Region.wanted o (yielded full a.tmps) = true) (hx : (execOp a.eval o).run P w = .ok .skip w') (h : wpOps P full Q r a w') : wpOps P full Q (i :: r) a w :=
  rest_skip ho hw hx (by rw [hd]; exact h)
theorem zF {i d : Nat} {r : List Nat} {o : Oper} {f : FuncId} {args : Array Value} {R : Value → World → Prop} (ho : full[i]? = some o) (hd : o.dst = some d) (hw : Region.wanted o (yielded full a.tmps) = true) (hx : (execOp a.eval o).run P w = .ok (.enter f args) w)
    (hc : Calls P f args w (fun e w' => ∃ v, e = .returned v ∧ R v w')) (h : ∀ v w', R v w' → wpOps P full Q r (a.put (some d) v) w') : wpOps P full Q (i :: r) a w :=
  rest_call ho hw hx hc (fun v w' hr => by rw [hd]; exact h v w' hr)
theorem zT {id : Nat} (h : Q .normal a w) : Exit.inBlock id Q (.exit id) a w := by simp only [Exit.inBlock, if_true]; exact h
theorem zS {id : Nat} (h : Q .normal a w) : Exit.inBlock id Q .normal a w := h
/-- A loop, by what is known at each round's beginning. -/
theorem loop_ghost {α : Type} {c : Code} (I : α → Act → World → Prop) (μ : α → Nat) (x₀ : α) (h₀ : I x₀ a w)
    (round : ∀ x a w, I x a w → c.wp P (Exit.then (fun a' w' => ∃ x', I x' a' w' ∧ μ x' < μ x) Q) a w) : (Code.loop c).wp P Q a w := by
  have least : ∀ (n : Nat) (a : Act) (w : World) (x : α), μ x = n → I x a w → ∃ y, I y a w ∧ ∀ z, I z a w → μ y ≤ μ z := by
    intro n
    induction n using Nat.strongRecOn with
    | _ n ih =>
      intro a w x hn hx
      by_cases h : ∃ z, I z a w ∧ μ z < μ x
      · obtain ⟨z, hz, hlt⟩ := h
        exact ih (μ z) (by omega) a w z rfl hz
      · refine ⟨x, hx, fun z hz => ?_⟩
        rcases Nat.lt_or_ge (μ z) (μ x) with h' | h'
        · exact absurd ⟨z, hz, h'⟩ h
        · exact h'
  have pick : ∀ (a : Act) (w : World), ∃ m : Nat, ∀ x, I x a w → (∃ y, I y a w ∧ μ y = m) ∧ m ≤ μ x := by
    intro a w
    by_cases h : ∃ x, I x a w
    · obtain ⟨x, hx⟩ := h
      obtain ⟨y, hy, hmin⟩ := least _ a w x rfl hx
      exact ⟨μ y, fun z hz => ⟨⟨y, hy, rfl⟩, hmin z hz⟩⟩
    · exact ⟨0, fun x hx => absurd ⟨x, hx⟩ h⟩
  refine wp_loop (fun a w => ∃ x, I x a w) (fun a w => Classical.choose (pick a w)) ⟨x₀, h₀⟩ ?_
  rintro a w ⟨x, hx⟩
  obtain ⟨⟨y, hy, hm⟩, hle⟩ := Classical.choose_spec (pick a w) x hx
  refine Code.wp_mono (fun e a' w' h => ?_) (round y a w hy)
  cases e with
  | normal =>
    obtain ⟨x', hx', hlt⟩ := h
    refine ⟨⟨x', hx'⟩, ?_⟩
    have := (Classical.choose_spec (pick a' w') x' hx').2
    show Classical.choose (pick a' w') < Classical.choose (pick a w)
    omega
  | _ => exact h
end
/-! Shorter words for what stands behind each region. -/
theorem keepB {w₀ w w' : World} {L : List (Nat × List Value)} (H : Hid (Mm w L ∧ Below w₀.heap.size w₀ w)) (hb : Below w.heap.size w w') : Hid (Mm w' L ∧ Below w₀.heap.size w₀ w') :=
  ⟨H.out.1.below hb, H.out.2.trans (hb.mono H.out.2.size)⟩
theorem growB {ks : List Kind} {w₀ w w' : World} {l : Array Bool} {J : Nat → Nat} {L : List (Nat × List Value)} (H : Hid (Mm w L ∧ Below w₀.heap.size w₀ w)) (h : Mem ks w l J w') {p : Nat} (hp : ks.length ≤ p) (hl : ∀ i, i < p → l.getD i false = true)
    (is : List Nat) (ha : (is.all fun i => (fresh ks i).isSome) = true) (hn : is.Pairwise (· ≠ ·)) : Hid (Mm w' (is.map (fun i => (J i, fin ks i)) ++ L) ∧ Below w₀.heap.size w₀ w') :=
  ⟨H.out.1.grow h hp hl is ha hn, H.out.2.trans (h.below.mono H.out.2.size)⟩
theorem ownB {ks : List Kind} {w₀ w w' : World} {l : Array Bool} {J : Nat → Nat} {L : List (Nat × List Value)} (H : Hid (Mm w L ∧ Below w₀.heap.size w₀ w)) (h : Mem ks w l J w') {p : Nat} (hp : ks.length ≤ p) (hl : ∀ i, i < p → l.getD i false = true) {i : Nat} (hi : (fresh ks i).isSome = true) : Hid (w₀.heap.size ≤ J i) :=
  Nat.le_trans H.out.2.size (h.fin hp hl hi).2.1
theorem sB {w : World} {L : List (Nat × List Value)} {R : World → Prop} (H : Hid (Mm w L ∧ R w)) (w' : World) (hb : Below w.heap.size w w') : Mm w' L := H.out.1.below hb
theorem sa {l : List Value} {i : Nat} {x : Value} : l.toArray.setIfInBounds i x = (l.set i x).toArray := List.setIfInBounds_toArray ..
theorem sz {l : List Value} {x y : Value} : (x :: l).set 0 y = y :: l := rfl
theorem ss {l : List Value} {n : Nat} {x y : Value} : (x :: l).set (n + 1) y = x :: l.set n y := rfl
theorem tk {α : Type} {l : List α} {n : Nat} {x : α} : (x :: l).take (n + 1) = x :: l.take n := rfl
theorem tz {α : Type} {l : List α} : l.take 0 = [] := rfl
theorem rest0 {P : Program} {Q : Exit → Act → World → Prop} {full : Array Oper} {a : Act} {w : World} {p m : Nat} (h : List.range' p m = []) (hw : Q .normal a w) : wpOps P full Q (List.range' p m) a w := by rw [h]; exact zC hw
theorem zM {P : Program} {Q : Exit → Act → World → Prop} {full : Array Oper} {a : Act} {w w₀ : World} {L : List (Nat × List Value)} {id : Nat} (p : Nat) (ks : List Kind) {pre : List Oper} {F : (Nat → Nat) → Act} (H : Hid (Mm w L ∧ Below w₀.heap.size w₀ w))
    (hops : AllOk P pre.toArray (fun w' => Mm w' L) F pre ks)
    (hend : ∀ J w', Hid (Mm w' L ∧ Below w₀.heap.size w₀ w') → wpOps P full Q (List.range' p (full.size - p)) (F J) w')
    (hq : full.toList.take p = pre ∧ (∀ J, zY J 0 pre ks a = F J) ∧ (orderly pre.toArray ks a.tmps.size && guarded pre.toArray p && decide (p ≤ full.size)) = true := by
      refine ⟨?_, ?_, ?_⟩
      · simp only [List.append_eq, List.cons_append, List.nil_append, tk, tz]; rfl
      · intro _; simp only [zY, Kind.val, Act.put, sa, sz, ss]; rfl
      · kernel_rfl)
    (hL : LaidOk ks ks := by trivial) :
    (Code.region id full false).wp P Q a w :=
  walk_seq p ks _ pre F hq.1 hq.2.1 hq.2.2 hL (sB H) hops (fun J w' _ hM _ => hend J w' (keepB H hM.below))
theorem walk_anyB {P : Program} {Q : Exit → Act → World → Prop} {full : Array Oper} {a : Act} {w w₀ : World} {L : List (Nat × List Value)} {id : Nat} (p : Nat) (ks : List Kind) {pre : List Oper} {F : (Nat → Nat) → Act} (H : Hid (Mm w L ∧ Below w₀.heap.size w₀ w))
    (hops : AllOk P pre.toArray (fun w' => Mm w' L) F pre ks)
    (hend : ∀ J w', Hid (Mm w' L ∧ Below w₀.heap.size w₀ w') → wpOps P full Q (List.range' p (full.size - p)) (F J) w')
    (hq : full.toList.take p = pre ∧ (∀ J, zY J 0 pre ks a = F J) ∧ (orderly pre.toArray ks a.tmps.size && guarded pre.toArray p && chained full p && decide (p ≤ full.size)) = true := by
      refine ⟨?_, ?_, ?_⟩
      · simp only [List.append_eq, List.cons_append, List.nil_append, tk, tz]; rfl
      · intro _; simp only [zY, Kind.val, Act.put, sa, sz, ss]; rfl
      · kernel_rfl)
    (hm : P.follows .mixedOrders = true := by kernel_rfl)
    (hL : LaidOk ks ks := by trivial) :
    (Code.region id full true).wp P Q a w :=
  walk_any hm p ks _ pre F hq.1 hq.2.1 hq.2.2 hL (sB H) hops (fun J w' _ hM _ => hend J w' (keepB H hM.below))
theorem zI {P : Program} {Q : Exit → Act → World → Prop} {full : Array Oper} {a : Act} {w : World} {S : World → Prop} {id : Nat} (p : Nat) (ks : List Kind) {pre : List Oper} {F : (Nat → Nat) → Act} (hS : ∀ w', Below w.heap.size w w' → S w')
    (hops : AllOk P pre.toArray S F pre ks)
    (hend : ∀ J w' l, Mem ks w l J w' → (∀ i, i < p → l.getD i false = true) → wpOps P full Q (List.range' p (full.size - p)) (F J) w')
    (hq : full.toList.take p = pre ∧ (∀ J, zY J 0 pre ks a = F J) ∧ (orderly pre.toArray ks a.tmps.size && guarded pre.toArray p && decide (p ≤ full.size)) = true := by
      refine ⟨?_, ?_, ?_⟩
      · simp only [List.append_eq, List.cons_append, List.nil_append, tk, tz]; rfl
      · intro _; simp only [zY, Kind.val, Act.put, sa, sz, ss]; rfl
      · kernel_rfl)
    (hL : LaidOk ks ks := by trivial) :
    (Code.region id full false).wp P Q a w :=
  walk_seq p ks _ pre F hq.1 hq.2.1 hq.2.2 hL hS hops hend
theorem walk_anyA {P : Program} {Q : Exit → Act → World → Prop} {full : Array Oper} {a : Act} {w : World} {S : World → Prop} {id : Nat} (p : Nat) (ks : List Kind) {pre : List Oper} {F : (Nat → Nat) → Act} (hS : ∀ w', Below w.heap.size w w' → S w')
    (hops : AllOk P pre.toArray S F pre ks)
    (hend : ∀ J w' l, Mem ks w l J w' → (∀ i, i < p → l.getD i false = true) → wpOps P full Q (List.range' p (full.size - p)) (F J) w')
    (hq : full.toList.take p = pre ∧ (∀ J, zY J 0 pre ks a = F J) ∧ (orderly pre.toArray ks a.tmps.size && guarded pre.toArray p && chained full p && decide (p ≤ full.size)) = true := by
      refine ⟨?_, ?_, ?_⟩
      · simp only [List.append_eq, List.cons_append, List.nil_append, tk, tz]; rfl
      · intro _; simp only [zY, Kind.val, Act.put, sa, sz, ss]; rfl
      · kernel_rfl)
    (hm : P.follows .mixedOrders = true := by kernel_rfl)
    (hL : LaidOk ks ks := by trivial) :
    (Code.region id full true).wp P Q a w :=
  walk_any hm p ks _ pre F hq.1 hq.2.1 hq.2.2 hL hS hops hend
theorem ak {P : Program} {ops : Array Oper} {S : World → Prop} {F : (Nat → Nat) → Act} {o : Oper} {os : List Oper} {k : Kind} {ks : List Kind} (h : KindOk P ops S F o k) (hs : AllOk P ops S F os ks) : AllOk P ops S F (o :: os) (k :: ks) := ⟨h, hs⟩
theorem mpn {ρ : Operand → Value} {xs : List Operand} {vs : List Value} (h : xs.map ρ = vs) : xs.toArray.map ρ = vs.toArray := by rw [List.map_toArray, h]
theorem ag {P : Program} {ops : Array Oper} {S : World → Prop} {F : (Nat → Nat) → Act} {o : Oper} {os : List Oper} {ks : List Kind} {k : Kind} (hs : AllOk P ops S F os ks) (h : KindOk P ops S F o k := by refine fun J => ⟨rfl, fun w' h => ?_⟩; clear h; go_simp) : AllOk P ops S F (o :: os) (k :: ks) := ⟨h, hs⟩
theorem ar {P : Program} {ops : Array Oper} {S : World → Prop} {F : (Nat → Nat) → Act} {o : Oper} {os : List Oper} {ks : List Kind} {k : Kind} (hs : AllOk P ops S F os ks) (h : KindOk P ops S F o k := by exact fun _ => ⟨rfl, fun _ _ => rfl⟩) : AllOk P ops S F (o :: os) (k :: ks) := ⟨h, hs⟩
theorem aq {P : Program} {ops : Array Oper} {S : World → Prop} {F : (Nat → Nat) → Act} {o : Oper} {os : List Oper} {ks : List Kind} {v : Value} (h : ∀ {J : Nat → Nat} w, S w → (execOp (F J).eval o).run P w = .ok (.value v) w) (hs : AllOk P ops S F os ks) (hw : ∀ J, Region.wanted o (yielded ops (F J).tmps) = true := by exact fun _ => rfl) : AllOk P ops S F (o :: os) (.q v :: ks) := ⟨fun J => ⟨hw J, h⟩, hs⟩
theorem ac {P : Program} {ops : Array Oper} {S : World → Prop} {F : (Nat → Nat) → Act} {o : Oper} {os : List Oper} {ks : List Kind} {v : Value} (h : ∀ {J : Nat → Nat} w, S w → ∃ f args, (execOp (F J).eval o).run P w = .ok (.enter f args) w ∧ Calls P f args w (fun e w' => e = .returned v ∧ Below w.heap.size w w')) (hs : AllOk P ops S F os ks) (hw : ∀ J, Region.wanted o (yielded ops (F J).tmps) = true := by exact fun _ => rfl) : AllOk P ops S F (o :: os) (.call v :: ks) := ⟨fun J => ⟨hw J, h⟩, hs⟩
abbrev ud : Value := undef
theorem l6 {ρ : Operand → Value} {o : Oper} {x : Operand} {g off v : Nat} {cs : List Value} {w : World} {l : List (Nat × List Value)} (h : Mm w l) (k : Nat) (hk : l[k]? = some (g, cs) := by exact rfl) (ho : o.op = .load 24 x := by exact rfl) (hx : ρ x = PT g off := by exact rfl) (hc : (cs.drop off).take 6 = zE v := by exact rfl) : (execOp ρ o).run Tryz.prog w = .ok (.value (N v)) w := ex_load6 h k hk ho hx hc
theorem sG {Q : Exit → Act → World → Prop} {full : Array Oper} {a : Act} {w w0 : World} {j B g : Nat} {r : List Nat} {o : Oper} {l : List (Nat × List Value)} {off : Nat} {cs vs : List Value} (ho : full[j]? = some o) (hx : Mm w l → (execOp a.eval o).run Tryz.prog w = .ok .skip (w.setCells g off vs)) (k : Nat) (l' : List (Nat × List Value)) (H : Hid (Mm w l ∧ Below B w0 w)) (hg : Hid (B ≤ g)) (h : ∀ w', Hid (Mm w' l' ∧ Below B w0 w') → wpOps Tryz.prog full Q r a w') (hd : o.dst = none := by exact rfl) (hw : Region.wanted o (yielded full a.tmps) = true := by exact rfl) (hk : l[k]? = some (g, cs) := by exact rfl) (hb : off + vs.length ≤ cs.length := by exact Nat.le_of_ble_eq_true rfl) (hl : l.set k (g, patch cs off vs) = l' := by exact rfl) : wpOps Tryz.prog full Q (j :: r) a w :=
 rest_store ho hd hw (hx H.out.1) (h _ ⟨hl ▸ H.out.1.put k hk hb, below_setCells _ hg.out _ _ _ H.out.2⟩)
theorem bN {ops : Array Oper} {L : List (Nat × List Value)} {F : (Nat → Nat) → Act} {o : Oper} {os : List Oper} {ks : List Kind} {x : Operand} {g off : Nat} {cs : List Value} {v : Nat} (k : Nat) (hs : AllOk Tryz.prog ops (fun w' => Mm w' L) F os ks) (hw : ∀ J, Region.wanted o (yielded ops (F J).tmps) = true := by exact fun _ => rfl) (hk : L[k]? = some (g, cs) := by exact rfl) (ho : o.op = .load 24 x := by exact rfl) (hx : ∀ J, (F J).eval x = PT g off := by exact fun _ => rfl) (hc : (cs.drop off).take 6 = zE v := by exact rfl) : AllOk Tryz.prog ops (fun w' => Mm w' L) F (o :: os) (.q (N v) :: ks) := ⟨fun J => ⟨hw J, fun _ h => ex_load6 h k hk ho (hx J) hc⟩, hs⟩
theorem am {P : Program} {ops : Array Oper} {S : World → Prop} {F : (Nat → Nat) → Act} {o : Oper} {os : List Oper} {ks : List Kind} {zs : List Value} {t : TypeId} (h : ∀ {J : Nat → Nat} {w : World}, (execOp (F J).eval o).run P w = .ok (.value (.pointer (some ⟨w.heap.size, 0, none⟩))) (w.alloc (.cells zs.toArray t))) (hs : AllOk P ops S F os ks) (hw : ∀ J, Region.wanted o (yielded ops (F J).tmps) = true := by exact fun _ => rfl) : AllOk P ops S F (o :: os) (.made zs t :: ks) := ⟨fun J => ⟨hw J, fun _ => h⟩, hs⟩
theorem av {P : Program} {ops : Array Oper} {S : World → Prop} {F : (Nat → Nat) → Act} {o : Oper} {os : List Oper} {ks : List Kind} {k : Kind} (hs : AllOk P ops S F os ks) (h : KindOk P ops S F o k := by exact fun _ => ⟨rfl, fun _ _ => by kernel_rfl⟩) : AllOk P ops S F (o :: os) (k :: ks) := ⟨h, hs⟩
theorem eC {P : Program} {ρ : Operand → Value} {o : Oper} {f : FuncId} {xs : List Operand} {ts : Array TypeId} {vs : List Value} {w : World} {Q : Ending → World → Prop} (hc : ∀ args w, (callFunc f args).run P w = .ok (.enter f args) w) (h : Calls P f vs.toArray w Q) (ho : o.op = .call { callee := .value (.func f), args := xs.toArray, argTypes := ts } := by exact rfl) (hf : ρ (.func f) = .func (.func f) #[] #[] := by exact rfl) (hx : xs.map ρ = vs := by exact rfl) : ∃ f args, (execOp ρ o).run P w = .ok (.enter f args) w ∧ Calls P f args w Q := ⟨f, _, zG ho hc hf (mpn hx), h⟩
theorem wB {ks : List Kind} {w₀ w w' : World} {l : Array Bool} {J : Nat → Nat} {L : List (Nat × List Value)} (H : Hid (Mm w L ∧ Below w₀.heap.size w₀ w)) (h : Mem ks w l J w') {p : Nat} (hl : ∀ i, i < p → l.getD i false = true) (is : List Nat) (hp : ks.length ≤ p := by exact Nat.le_refl _) (ha : (is.all fun i => (fresh ks i).isSome) = true := by exact rfl) (hn : is.Pairwise (· ≠ ·) := by decide) : Hid (Mm w' (is.map (fun i => (J i, fin ks i)) ++ L) ∧ Below w₀.heap.size w₀ w') := growB H h hp hl is ha hn
theorem vB {ks : List Kind} {w₀ w w' : World} {l : Array Bool} {J : Nat → Nat} {L : List (Nat × List Value)} (H : Hid (Mm w L ∧ Below w₀.heap.size w₀ w)) (h : Mem ks w l J w') {p : Nat} (hl : ∀ i, i < p → l.getD i false = true) (i : Nat) (hp : ks.length ≤ p := by exact Nat.le_refl _) (hi : (fresh ks i).isSome = true := by exact rfl) : Hid (w₀.heap.size ≤ J i) := ownB H h hp hl hi
theorem rN {P : Program} {Q : Exit → Act → World → Prop} {full : Array Oper} {a : Act} {w : World} {p m : Nat} {K : Act → World → Prop} (hw : K a w) (h : List.range' p m = [] := by exact rfl) : wpOps P full (Exit.then K Q) (List.range' p m) a w := rest0 h (zB hw)
end Rg
end Go.Proofs.YtahghpkjkfaieaaGreatDoor
end
section
namespace Go.Proofs.YtahghpkjkfaieaaGreatDoor
open Go.RowKit
namespace Rg
section
variable {P : Program} {ops : Array Oper} {ks : List Kind} {a₀ : Act} {w₀ : World} {Q : Exit → Act → World → Prop}
/-- An operation that the store need not wait for: it tells its value in whatever world. -/
def LateOk (P : Program) (ops : Array Oper) (ks : List Kind) (F : (Nat → Nat) → Act) : List Nat → Prop
  | [] => True
  | i :: r => (∃ o v, ops[i]? = some o ∧ ks[i]? = some (.q v) ∧ ∀ J, Region.wanted o (yielded ops (F J).tmps) = true ∧ ∀ w, (execOp (F J).eval o).run P w = .ok (.value v) w) ∧ LateOk P ops ks F r
theorem LateOk.at {F : (Nat → Nat) → Act} : ∀ {late : List Nat}, LateOk P ops ks F late → ∀ {i : Nat}, i ∈ late → ∃ o v, ops[i]? = some o ∧ ks[i]? = some (.q v) ∧ ∀ J, Region.wanted o (yielded ops (F J).tmps) = true ∧ ∀ w, (execOp (F J).eval o).run P w = .ok (.value v) w
  | [], _, _, h => by cases h
  | j :: r, hl, i, h => by
    rcases List.mem_cons.1 h with e | h
    · subst e; exact hl.1
    · exact hl.2.at h
theorem mem_late {F : (Nat → Nat) → Act} {J : Nat → Nat} {w : World} : ∀ {late : List Nat} {l : Array Bool}, LateOk P ops ks F late → Mem ks w₀ l J w → ∃ l', Mem ks w₀ l' J w ∧ l'.size = l.size ∧ (∀ i, l.getD i false = true → l'.getD i false = true) ∧ ∀ i ∈ late, i < l.size → l'.getD i false = true
  | [], l, _, h => ⟨l, h, rfl, fun _ h => h, fun _ h => by cases h⟩
  | j :: r, l, hl, h => by
    obtain ⟨o, v, _, hk, _⟩ := hl.1
    obtain ⟨l', h1, h2, h3, h4⟩ := mem_late (late := r) hl.2 (h.still (Below.refl _ _) hk rfl (fun _ _ _ h => by cases h))
    refine ⟨l', h1, by rw [h2]; simp, fun i hi => h3 i (getD_true hi), fun i hi hlt => ?_⟩
    rcases List.mem_cons.1 hi with e | hi
    · subst e
      exact h3 i (by simp [hlt])
    · exact h4 i hi (by simpa using hlt)
theorem see_all {full : Array Oper} {l : Array Bool} {J : Nat → Nat} {a : Act} (h : Agree ops ks a₀ l J a) {o : Oper} (hn : ∀ cs b, o.op ≠ .select cs b)
    (hlook : ∀ d ∈ o.looksAt full, ∀ j oj, ops[j]? = some oj → oj.dst = some d → l.getD j false = true) :
    execOp a.eval o = execOp (zY J 0 ops.toList ks a₀).eval o := by
  refine execOp_congr o hn (fun x hx => ?_)
  cases x with
  | tmp t =>
    have := h.slots t (hlook t (List.mem_append_left _ (List.mem_filterMap.2 ⟨.tmp t, by simpa using hx, rfl⟩)))
    simp only [Act.eval, Array.getD_eq_getD_getElem?, this]
  | _ => rfl
/-- The operations that have come up: with each, all that it waits for. -/
def Closed (full : Array Oper) (l : Array Bool) : Prop := ∀ (i : Nat) (o : Oper), full[i]? = some o → l.getD i false = true → ∀ e ∈ o.after, Region.binds .any e = true → l.getD e.on false = true
theorem Closed.none (full : Array Oper) (n : Nat) : Closed full (Array.replicate n false) := fun i o _ h => by rw [none_listed] at h; cases h
theorem Closed.step {full : Array Oper} {l : Array Bool} (h : Closed full l) {i : Nat} {o : Oper} (ho : full[i]? = some o) (hedge : ∀ e ∈ o.after, Region.binds .any e = true → l.getD e.on false = true) : Closed full (l.setIfInBounds i true) := fun j oj hj hl e he hb => by
  by_cases hij : i = j
  · subst hij
    rw [ho] at hj
    injection hj with hj
    subst hj
    exact getD_true (hedge e he hb)
  · rw [getD_set_ne false hij] at hl
    exact getD_true (h j oj hj hl e he hb)
/-- Who waits for operation j, by others or not. -/
def waitsT (full : Array Oper) : Nat → Oper → Nat → Bool
  | 0, o, j => waits o j
  | f + 1, o, j => waits o j || o.after.any fun e => Region.binds .any e && (match full[e.on]? with | some o' => waitsT full f o' j | none => false)
theorem waitsT_spec {full : Array Oper} {l : Array Bool} (h : Closed full l) {j : Nat} : ∀ (f : Nat) (o : Oper), waitsT full f o j = true → (∀ e ∈ o.after, Region.binds .any e = true → l.getD e.on false = true) → l.getD j false = true
  | 0, o, hw, he => waits_spec hw he
  | f + 1, o, hw, he => by
    unfold waitsT at hw
    rw [Bool.or_eq_true] at hw
    rcases hw with hw | hw
    · exact waits_spec hw he
    · obtain ⟨e, hm, hx⟩ := Array.any_eq_true'.1 hw
      rw [Bool.and_eq_true] at hx
      obtain ⟨hb, hx⟩ := hx
      cases ho : full[e.on]? with
      | none => rw [ho] at hx; cases hx
      | some o' =>
        rw [ho] at hx
        exact waitsT_spec h f o' hx (fun e' he' hb' => h e.on o' ho (he e hm hb) e' he' hb')
theorem rest_anyT {full : Array Oper} (p : Nat) (hup : ∀ {i : Nat} {o : Oper}, full[i]? = some o → ∀ e ∈ o.after, Region.binds .any e = true → e.on < i)
    (hwt : ∀ {i : Nat} {o : Oper}, full[i]? = some o → p ≤ i → ∀ j, j < i → waitsT full 4 o j = true) : ∀ (m fuel q : Nat) (l : Array Bool) (a : Act) (w : World), q + m = full.size → p ≤ q → l.size = full.size → m ≤ fuel → Closed full l →
      (∀ i, i < q → l.getD i false = true) → (∀ i, q ≤ i → i < full.size → l.getD i true = false) → wpOps P full Q (List.range' q m) a w → wpAny P .any full Q fuel l a w := by
  intro m
  induction m with
  | zero =>
    intro fuel q l a w hq hpq hsz hfu hcl hl hu h
    have hr : Region.ready .any full l = [] := by
      refine List.eq_nil_iff_forall_not_mem.2 fun i hi => ?_
      obtain ⟨h1, o, ho, _⟩ := mem_ready.1 hi
      have h2 := hl i (by have := (Array.getElem?_eq_some_iff.1 ho).1; omega)
      rw [(zV h1).1] at h2
      cases h2
    have hQ : Q .normal a w := h
    cases fuel with
    | zero => exact ⟨hr, hQ⟩
    | succ f => exact ⟨fun _ => hQ, by rw [hr]; simp⟩
  | succ m ih =>
    intro fuel q l a w hq hpq hsz hfu hcl hl hu h
    cases fuel with
    | zero => omega
    | succ f =>
      have hqs : q < full.size := by omega
      have hqr : q ∈ Region.ready .any full l := mem_ready.2 ⟨hu q (Nat.le_refl _) hqs, full[q], Array.getElem?_eq_getElem hqs, fun e he hb => hl _ (hup (Array.getElem?_eq_getElem hqs) e he hb)⟩
      refine ⟨fun hr => absurd hqr (by rw [hr]; simp), fun i hi => ?_⟩
      obtain ⟨hun, o, ho, hedge⟩ := mem_ready.1 hi
      have hilt : i < full.size := (Array.getElem?_eq_some_iff.1 ho).1
      have hiq : i = q := by
        rcases Nat.lt_trichotomy i q with h' | h' | h'
        · have h2 := hl i h'
          rw [(zV hun).1] at h2
          cases h2
        · exact h'
        · have h2 := waitsT_spec hcl 4 o (hwt ho (by omega) q h') hedge
          rw [(zV (hu q (Nat.le_refl _) hqs)).1] at h2
          cases h2
      subst hiq
      rw [List.range'_succ, wpOps_cons] at h
      refine wpOp_mono (fun a' w' h' => ?_) h
      refine ih f (i + 1) _ a' w' (by omega) (by omega) (by simp [hsz]) (by omega) (hcl.step ho hedge) (fun j hj => ?_) (fun j hj hj2 => ?_) h'
      · rcases Nat.lt_or_ge j i with h2 | h2
        · exact getD_true (hl j h2)
        · have : j = i := by omega
          subst this
          exact (zV hun).2
      · rw [getD_set_ne true (by omega)]
        exact hu j (by omega) hj2
theorem tail_count (n : Nat) : ∀ (m : Nat) (l : Array Bool), l.size = n → m ≤ n → (∀ i, n - m ≤ i → i < n → l.getD i true = false) → m ≤ l.toList.count false := by
  intro m
  induction m with
  | zero => intro l _ _ _; omega
  | succ m ih =>
    intro l hs hm hl
    have h4 := count_set (hl (n - (m + 1)) (Nat.le_refl _) (by omega))
    have h5 := ih (l.setIfInBounds (n - (m + 1)) true) (by simp [hs]) (by omega) (fun i hi1 hi2 => by rw [getD_set_ne true (by omega)]; exact hl i (by omega) hi2)
    omega
theorem ready_all {full : Array Oper} (hup : ∀ {i : Nat} {o : Oper}, full[i]? = some o → ∀ e ∈ o.after, Region.binds .any e = true → e.on < i) {l : Array Bool} (hsz : l.size = full.size) (hr : Region.ready .any full l = []) : ∀ i, i < full.size → l.getD i false = true := by
  intro i
  induction i using Nat.strongRecOn with
  | _ i ih2 =>
    intro hi
    have hi' : i < l.size := by omega
    cases hl : l.getD i true with
    | true => simpa [hi'] using hl
    | false =>
      exfalso
      have : i ∈ Region.ready .any full l := mem_ready.2 ⟨hl, full[i], Array.getElem?_eq_getElem hi, fun e he hb => ih2 e.on (hup (Array.getElem?_eq_getElem hi) e he hb) (by have := hup (Array.getElem?_eq_getElem hi) e he hb; omega)⟩
      rw [hr] at this
      cases this
theorem after_put {full : Array Oper} {n p : Nat} (hO : Orderly ops ks n) (hn : n = a₀.tmps.size) (hp : ops.size = p) (hpf : p + 1 ≤ full.size) (hfull : ∀ i, i < p → full[i]? = ops[i]?) (hgd : ∀ {i : Nat} {o : Oper} {g : Nat} {b : Bool}, ops[i]? = some o → o.guard = some (g, b) → g < p)
    (hup : ∀ {i : Nat} {o : Oper}, full[i]? = some o → ∀ e ∈ o.after, Region.binds .any e = true → e.on < i)
    (hwt : ∀ {i : Nat} {o : Oper}, full[i]? = some o → p + 1 ≤ i → ∀ j, j < i → waitsT full 4 o j = true)
    {late : List Nat} (hlate : LateOk P ops ks (fun J => zY J 0 ops.toList ks a₀) late) {J : Nat → Nat} {w : World} (hQ : wpOps P full Q (List.range' (p + 1) (full.size - (p + 1))) (zY J 0 ops.toList ks a₀) w) :
    ∀ (fuel : Nat) (l : Array Bool) (a : Act), l.size = full.size → l.toList.count false ≤ fuel → Closed full l → (∀ i, i ≤ p → l.getD i true = false → i ∈ late) → (∀ i, p + 1 ≤ i → i < full.size → l.getD i true = false) → Agree ops ks a₀ l J a → wpAny P .any full Q fuel l a w := by
  intro fuel
  induction fuel with
  | zero =>
    intro l a hsz hc hcl hu ht hA
    have hall : ∀ i, i < full.size → l.getD i false = true := fun i hi => by
      cases hb : l.getD i true with
      | false => have := count_set hb; omega
      | true =>
        have hi' : i < l.size := by omega
        simpa [hi'] using hb
    rw [hA.whole (fun i hi => hall i (by omega))]
    have h0 := tail_count full.size (full.size - (p + 1)) l hsz (by omega) (fun i hi1 hi2 => ht i (by omega) hi2)
    exact rest_anyT (p + 1) hup hwt (full.size - (p + 1)) 0 (p + 1) l _ w (by omega) (Nat.le_refl _) hsz (by omega) hcl (fun i hi => hall i (by omega)) ht hQ
  | succ fuel ih =>
    intro l a hsz hc hcl hu ht hA
    by_cases hall : ∀ i, i < p + 1 → l.getD i false = true
    · rw [hA.whole (fun i hi => hall i (by omega))]
      have h0 := tail_count full.size (full.size - (p + 1)) l hsz (by omega) (fun i hi1 hi2 => ht i (by omega) hi2)
      exact rest_anyT (p + 1) hup hwt (full.size - (p + 1)) (fuel + 1) (p + 1) l _ w (by omega) (Nat.le_refl _) hsz (by omega) hcl hall ht hQ
    · have hex : ∃ x, x < p + 1 ∧ l.getD x false = false := by
        apply Classical.byContradiction
        intro hno
        apply hall
        intro i hi
        cases hb : l.getD i false with
        | true => rfl
        | false => exact absurd ⟨i, hi, hb⟩ hno
      obtain ⟨x, hx, hxf⟩ := hex
      refine ⟨fun hr => ?_, fun i hi => ?_⟩
      · have := ready_all hup hsz hr x (by omega)
        rw [hxf] at this
        cases this
      · obtain ⟨hun, o, ho, hedge⟩ := mem_ready.1 hi
        have hilt : i < full.size := (Array.getElem?_eq_some_iff.1 ho).1
        have hip1 : i < p + 1 := by
          rcases Nat.lt_or_ge i (p + 1) with h' | h'
          · exact h'
          · have := waitsT_spec hcl 4 o (hwt ho h' x (by omega)) hedge
            rw [hxf] at this
            cases this
        obtain ⟨o', v, ho', hk, hxq⟩ := hlate.at (hu i (by omega) hun)
        have hip : i < p := by rw [← hp]; exact (Array.getElem?_eq_some_iff.1 ho').1
        have hof := ho
        rw [hfull i hip, ho'] at ho
        injection ho with ho
        subst ho
        obtain ⟨he, hw0⟩ := hA.sees hO ho' hedge
        have hy : ∀ ts, Region.wanted o' (yielded full ts) = Region.wanted o' (yielded ops ts) := fun ts => by
          unfold Region.wanted
          cases hg : o'.guard with
          | none => rfl
          | some gw =>
            obtain ⟨g, want⟩ := gw
            have : yielded full ts g = yielded ops ts g := by unfold yielded; rw [hfull g (hgd ho' hg)]
            simp only [this]
        have hc' := count_set hun
        refine wpOp_step hof (fun K' hK => ?_)
        rw [hy, hw0, if_pos (hxq J).1]
        unfold Oper.wp
        rw [he, (hxq J).2 w]
        refine hK _ _ (ih _ _ (by simp [hsz]) (by omega) (hcl.step hof hedge) (fun j hj hj2 => ?_) (fun j hj hj2 => ?_) (hA.step hO hn ho' hk (fun _ _ _ _ => rfl)))
        · by_cases e : i = j
          · subst e
            have hi' : i < l.size := by omega
            simp [hi'] at hj2
          · rw [getD_set_ne true e] at hj2
            exact hu j hj hj2
        · rw [getD_set_ne true (by omega)]
          exact ht j hj hj2
theorem first_put {full : Array Oper} {n p : Nat} {op : Oper} (hO : Orderly ops ks n) (hn : n = a₀.tmps.size) (hL : LaidOk ks ks) {S : World → Prop} (hS : ∀ w, Below w₀.heap.size w₀ w → S w)
    (hp : ops.size = p) (hpf : p + 1 ≤ full.size) (hfull : ∀ i, i < p → full[i]? = ops[i]?) (hgd : ∀ {i : Nat} {o : Oper} {g : Nat} {b : Bool}, ops[i]? = some o → o.guard = some (g, b) → g < p)
    (hup : ∀ {i : Nat} {o : Oper}, full[i]? = some o → ∀ e ∈ o.after, Region.binds .any e = true → e.on < i)
    (hop : full[p]? = some op) (hdst : op.dst = none) (hgu : op.guard = none) (hsel : ∀ cs b, op.op ≠ .select cs b)
    {late : List Nat} (hwp : ∀ j, j < p → waitsT full 4 op j = true ∨ j ∈ late) (hlook : ∀ d ∈ op.looksAt full, ∀ j oj, ops[j]? = some oj → oj.dst = some d → waitsT full 4 op j = true)
    (hwt : ∀ {i : Nat} {o : Oper}, full[i]? = some o → p + 1 ≤ i → ∀ j, j < i → waitsT full 4 o j = true)
    (hlate : LateOk P ops ks (fun J => zY J 0 ops.toList ks a₀) late)
    (hops : AllOk P ops S (fun J => zY J 0 ops.toList ks a₀) ops.toList ks)
    (hend : ∀ J w l, Mem ks w₀ l J w → (∀ i, i < p → l.getD i false = true) → ∃ w', (execOp (zY J 0 ops.toList ks a₀).eval op).run P w = .ok .skip w' ∧ wpOps P full Q (List.range' (p + 1) (full.size - (p + 1))) (zY J 0 ops.toList ks a₀) w') :
    ∀ (fuel : Nat) (l : Array Bool) (J : Nat → Nat) (a : Act) (w : World), l.size = full.size → l.toList.count false ≤ fuel → Closed full l → (∀ i, p ≤ i → i < full.size → l.getD i true = false) → Agree ops ks a₀ l J a → Mem ks w₀ l J w → wpAny P .any full Q fuel l a w := by
  intro fuel
  induction fuel with
  | zero =>
    intro l J a w hsz hc hcl ht hA hM
    have := count_set (ht p (Nat.le_refl _) (by omega))
    omega
  | succ fuel ih =>
    intro l J a w hsz hc hcl ht hA hM
    have hpu := ht p (Nat.le_refl _) (by omega)
    refine ⟨fun hr => ?_, fun i hi => ?_⟩
    · have := ready_all hup hsz hr p (by omega)
      rw [(zV hpu).1] at this
      cases this
    · obtain ⟨hun, o, ho, hedge⟩ := mem_ready.1 hi
      have hilt : i < full.size := (Array.getElem?_eq_some_iff.1 ho).1
      have hc' := count_set hun
      have hip1 : i < p + 1 := by
        rcases Nat.lt_or_ge i (p + 1) with h' | h'
        · exact h'
        · have := waitsT_spec hcl 4 o (hwt ho h' p (by omega)) hedge
          rw [(zV hpu).1] at this
          cases this
      by_cases hip : i = p
      · subst hip
        have ho2 := ho
        rw [hop] at ho
        injection ho with ho
        subst ho
        have hbefore : ∀ j, j < i → j ∉ late → l.getD j false = true := fun j hj hnl => by
          rcases hwp j hj with h | h
          · exact waitsT_spec hcl 4 _ h hedge
          · exact absurd h hnl
        obtain ⟨l', hM', hs', hl1, hl2⟩ := mem_late hlate hM
        have hfin : ∀ j, j < i → l'.getD j false = true := fun j hj => by
          by_cases h : j ∈ late
          · exact hl2 j h (by omega)
          · exact hl1 j (hbefore j hj h)
        obtain ⟨w', hx, hQ⟩ := hend J w l' hM' hfin
        have he := see_all (full := full) hA hsel (fun d hd j oj hj hdj => waitsT_spec hcl 4 _ (hlook d hd j oj hj hdj) hedge)
        refine wpOp_step hop (fun K' hK => ?_)
        have hwn : Region.wanted op (yielded full a.tmps) = true := by unfold Region.wanted; rw [hgu]
        rw [if_pos hwn]
        unfold Oper.wp
        rw [he, hx]
        have hA' : Agree ops ks a₀ (l.setIfInBounds i true) J (a.put op.dst undef) := by
          rw [hdst]
          refine ⟨hA.defers, hA.size, fun d hd => hA.slots d (fun j oj hj hdj => ?_)⟩
          have h1 := hd j oj hj hdj
          have hj' : j < i := by rw [← hp]; exact (Array.getElem?_eq_some_iff.1 hj).1
          rwa [getD_set_ne false (by omega)] at h1
        refine hK _ _ (after_put hO hn hp hpf hfull hgd hup hwt hlate hQ fuel _ _ (by simp [hsz]) (by omega) (hcl.step ho2 hedge) (fun j hj hj2 => ?_) (fun j hj hj2 => ?_) hA')
        · by_cases e : i = j
          · subst e
            have hi' : i < l.size := by omega
            simp [hi'] at hj2
          · rw [getD_set_ne true e] at hj2
            apply Classical.byContradiction
            intro hnl
            have := hbefore j (by omega) hnl
            rw [(zV hj2).1] at this
            cases this
        · rw [getD_set_ne true (by omega)]
          exact ht j (by omega) hj2
      · have hlt : i < p := by omega
        have ho' : ops[i]? = some o := by rw [← hfull i hlt]; exact ho
        refine kind_step hO hn hL hS hfull hgd hops hA hM hlt ho' hun hedge (fun J' a' w' hA' hM' => ?_)
        exact ih _ J' a' w' (by simp [hsz]) (by omega) (hcl.step ho hedge) (fun j hj hj2 => by rw [getD_set_ne true (by omega)]; exact ht j hj hj2) hA' hM'
/-- What is to be looked up of the whole region. -/
def putly (full : Array Oper) (p : Nat) (late : List Nat) : Bool :=
  eachOp full (fun i o => o.after.all fun e => !Region.binds .any e || decide (e.on < i)) && decide (p + 1 ≤ full.size) && Region.noSelect full &&
  (match full[p]? with
   | none => false
   | some op => op.dst.isNone && op.guard.isNone && ((List.range p).all fun j => waitsT full 4 op j || late.contains j) && (op.looksAt full).all fun d => eachOp full fun j oj => oj.dst != some d || waitsT full 4 op j || decide (p ≤ j)) &&
  eachOp full (fun i o => decide (i < p + 1) || (List.range i).all fun j => waitsT full 4 o j)
/-- **The law of such a region.** -/
theorem walk_put {full : Array Oper} {a : Act} {w : World} {id : Nat} (hm : P.follows .mixedOrders = true) (p : Nat) (late : List Nat) (ks : List Kind) (S : World → Prop) (pre : List Oper) (F : (Nat → Nat) → Act) (op : Oper) (hpre : full.toList.take p = pre)
    (hF : ∀ J, zY J 0 pre ks a = F J) (hor : (orderly pre.toArray ks a.tmps.size && guarded pre.toArray p && putly full p late) = true) (hop : full[p]? = some op) (hL : LaidOk ks ks) (hS : ∀ w', Below w.heap.size w w' → S w')
    (hops : AllOk P pre.toArray S F pre ks) (hlate : LateOk P pre.toArray ks F late)
    (hend : ∀ J w' l, Mem ks w l J w' → (∀ i, i < p → l.getD i false = true) → ∃ w'', (execOp (F J).eval op).run P w' = .ok .skip w'' ∧ wpOps P full Q (List.range' (p + 1) (full.size - (p + 1))) (F J) w'') :
    (Code.region id full true).wp P Q a w := by
  subst hpre
  obtain rfl : (fun J => zY J 0 (full.toList.take p) ks a) = F := funext hF
  simp only [Bool.and_eq_true] at hor
  obtain ⟨⟨h1, h2⟩, h3⟩ := hor
  unfold putly at h3
  rw [hop] at h3
  simp only [Bool.and_eq_true, decide_eq_true_eq, Option.isNone_iff_eq_none] at h3
  obtain ⟨⟨⟨⟨h5, h6⟩, h7⟩, ⟨⟨h8, h9⟩, h10⟩, h11⟩, h12⟩ := h3
  have hsz : (full.toList.take p).toArray.size = p := by simp; omega
  have hfu : ∀ i, i < p → full[i]? = (full.toList.take p).toArray[i]? := fun i hi => by rw [← take_arr]; exact first_full hi
  refine wp_region_any hm (first_put (ops := (full.toList.take p).toArray) (Orderly.of h1) rfl hL hS hsz h6 hfu (fun ho hg => guarded_spec h2 ho hg) (fun ho e he hb => ?_) hop h8 h9 (fun cs b => Region.noSelect_spec h7 p op cs b hop) (late := late) (fun j hj => ?_) (fun d hd j oj hj hdj => ?_) (fun ho hi j hj => ?_) hlate hops hend full.size _ (fun _ => 0) a w.drew (by simp) (by simp) (Closed.none _ _) (fun i _ hi => none_listed' hi) (start_agree _ _) (start_mem _ _ (Below.refl _ _).drew))
  · have := Array.all_eq_true_iff_forall_mem.1 (zP h5 ho) e he
    simpa [hb] using this
  · have := List.all_eq_true.1 h10 j (List.mem_range.2 hj)
    simpa using this
  · have hj' : j < p := by rw [← hsz]; exact (Array.getElem?_eq_some_iff.1 hj).1
    have := zP (List.all_eq_true.1 h11 d hd) (by rw [hfu j hj']; exact hj)
    simp only [hdj, bne_self_eq_false, Bool.false_or, Bool.or_eq_true, decide_eq_true_eq] at this
    rcases this with h | h
    · exact h
    · omega
  · have := zP h12 ho
    simp only [Bool.or_eq_true, decide_eq_true_eq] at this
    rcases this with h | h
    · omega
    · exact List.all_eq_true.1 h j (List.mem_range.2 hj)
end
end Rg
end Go.Proofs.YtahghpkjkfaieaaGreatDoor
end
section
namespace Go.Proofs.YtahghpkjkfaieaaGreatDoor
open Go.RowKit
namespace Rg
section
variable {P : Program} {ops : Array Oper} {ks : List Kind} {a₀ : Act} {w₀ : World} {Q : Exit → Act → World → Prop}
theorem fill_off (J : Nat → Nat) (d : Nat) : ∀ (os : List Oper) (ks : List Kind) (a : Act) (i : Nat), (∀ (j : Nat) (o : Oper), os[j]? = some o → o.dst ≠ some d) → (zY J i os ks a).tmps[d]? = a.tmps[d]?
  | [], _, _, _, _ => rfl
  | _ :: _, [], _, _, _ => rfl
  | o :: os, k :: ks, a, i, h => by
    show (zY J (i + 1) os ks (a.put o.dst (k.val J i))).tmps[d]? = _
    rw [fill_off J d os ks _ (i + 1) (fun j o' hj => h (j + 1) o' (by simpa using hj))]
    have h0 := h 0 o rfl
    cases hd : o.dst with
    | none => rfl
    | some t =>
      rw [hd] at h0
      simp only [Act.put, Array.getElem?_setIfInBounds]
      rw [if_neg (fun e => h0 (by rw [e]))]
theorem put_comm (a : Act) (d t : Nat) (v u : Value) (h : t ≠ d) : (a.put (some d) v).put (some t) u = (a.put (some t) u).put (some d) v := by
  simp only [Act.put, Act.mk.injEq, and_true]
  exact Array.setIfInBounds_comm _ _ (Ne.symm h)
theorem fill_put (J : Nat → Nat) (d : Nat) (v : Value) : ∀ (os : List Oper) (ks : List Kind) (a : Act) (i : Nat), (∀ (j : Nat) (o : Oper), os[j]? = some o → o.dst ≠ some d) → zY J i os ks (a.put (some d) v) = (zY J i os ks a).put (some d) v
  | [], _, _, _, _ => rfl
  | _ :: _, [], _, _, _ => rfl
  | o :: os, k :: ks, a, i, h => by
    show zY J (i + 1) os ks ((a.put (some d) v).put o.dst (k.val J i)) = (zY J (i + 1) os ks (a.put o.dst (k.val J i))).put (some d) v
    have h0 := h 0 o rfl
    rw [← fill_put J d v os ks _ (i + 1) (fun j o' hj => h (j + 1) o' (by simpa using hj))]
    cases hd : o.dst with
    | none => rfl
    | some t => rw [put_comm a d t v _ (fun e => by rw [hd, e] at h0; exact h0 rfl)]
theorem rest_anyU {full : Array Oper} (p : Nat) (hup : ∀ {i : Nat} {o : Oper}, full[i]? = some o → ∀ e ∈ o.after, Region.binds .any e = true → e.on < i)
    (hwt : ∀ {i : Nat} {o : Oper}, full[i]? = some o → p ≤ i → ∀ j, j < i → waitsT full 12 o j = true) : ∀ (m fuel q : Nat) (l : Array Bool) (a : Act) (w : World), q + m = full.size → p ≤ q → l.size = full.size → m ≤ fuel → Closed full l →
      (∀ i, i < q → l.getD i false = true) → (∀ i, q ≤ i → i < full.size → l.getD i true = false) → wpOps P full Q (List.range' q m) a w → wpAny P .any full Q fuel l a w := by
  intro m
  induction m with
  | zero =>
    intro fuel q l a w hq hpq hsz hfu hcl hl hu h
    have hr : Region.ready .any full l = [] := by
      refine List.eq_nil_iff_forall_not_mem.2 fun i hi => ?_
      obtain ⟨h1, o, ho, _⟩ := mem_ready.1 hi
      have h2 := hl i (by have := (Array.getElem?_eq_some_iff.1 ho).1; omega)
      rw [(zV h1).1] at h2
      cases h2
    have hQ : Q .normal a w := h
    cases fuel with
    | zero => exact ⟨hr, hQ⟩
    | succ f => exact ⟨fun _ => hQ, by rw [hr]; simp⟩
  | succ m ih =>
    intro fuel q l a w hq hpq hsz hfu hcl hl hu h
    cases fuel with
    | zero => omega
    | succ f =>
      have hqs : q < full.size := by omega
      have hqr : q ∈ Region.ready .any full l := mem_ready.2 ⟨hu q (Nat.le_refl _) hqs, full[q], Array.getElem?_eq_getElem hqs, fun e he hb => hl _ (hup (Array.getElem?_eq_getElem hqs) e he hb)⟩
      refine ⟨fun hr => absurd hqr (by rw [hr]; simp), fun i hi => ?_⟩
      obtain ⟨hun, o, ho, hedge⟩ := mem_ready.1 hi
      have hilt : i < full.size := (Array.getElem?_eq_some_iff.1 ho).1
      have hiq : i = q := by
        rcases Nat.lt_trichotomy i q with h' | h' | h'
        · have h2 := hl i h'
          rw [(zV hun).1] at h2
          cases h2
        · exact h'
        · have h2 := waitsT_spec hcl 12 o (hwt ho (by omega) q h') hedge
          rw [(zV (hu q (Nat.le_refl _) hqs)).1] at h2
          cases h2
      subst hiq
      rw [List.range'_succ, wpOps_cons] at h
      refine wpOp_mono (fun a' w' h' => ?_) h
      refine ih f (i + 1) _ a' w' (by omega) (by omega) (by simp [hsz]) (by omega) (hcl.step ho hedge) (fun j hj => ?_) (fun j hj hj2 => ?_) h'
      · rcases Nat.lt_or_ge j i with h2 | h2
        · exact getD_true (hl j h2)
        · have : j = i := by omega
          subst this
          exact (zV hun).2
      · rw [getD_set_ne true (by omega)]
        exact hu j (by omega) hj2
theorem after_putU {full : Array Oper} {n p : Nat} (hO : Orderly ops ks n) (hn : n = a₀.tmps.size) (hp : ops.size = p) (hpf : p + 1 ≤ full.size) (hfull : ∀ i, i < p → full[i]? = ops[i]?) (hgd : ∀ {i : Nat} {o : Oper} {g : Nat} {b : Bool}, ops[i]? = some o → o.guard = some (g, b) → g < p)
    (hup : ∀ {i : Nat} {o : Oper}, full[i]? = some o → ∀ e ∈ o.after, Region.binds .any e = true → e.on < i)
    (hwt : ∀ {i : Nat} {o : Oper}, full[i]? = some o → p + 1 ≤ i → ∀ j, j < i → waitsT full 12 o j = true)
    {late : List Nat} (hlate : LateOk P ops ks (fun J => zY J 0 ops.toList ks a₀) late) {J : Nat → Nat} {w : World} (hQ : wpOps P full Q (List.range' (p + 1) (full.size - (p + 1))) (zY J 0 ops.toList ks a₀) w) :
    ∀ (fuel : Nat) (l : Array Bool) (a : Act), l.size = full.size → l.toList.count false ≤ fuel → Closed full l → (∀ i, i ≤ p → l.getD i true = false → i ∈ late) → (∀ i, p + 1 ≤ i → i < full.size → l.getD i true = false) → Agree ops ks a₀ l J a → wpAny P .any full Q fuel l a w := by
  intro fuel
  induction fuel with
  | zero =>
    intro l a hsz hc hcl hu ht hA
    have hall : ∀ i, i < full.size → l.getD i false = true := fun i hi => by
      cases hb : l.getD i true with
      | false => have := count_set hb; omega
      | true =>
        have hi' : i < l.size := by omega
        simpa [hi'] using hb
    rw [hA.whole (fun i hi => hall i (by omega))]
    have h0 := tail_count full.size (full.size - (p + 1)) l hsz (by omega) (fun i hi1 hi2 => ht i (by omega) hi2)
    exact rest_anyU (p + 1) hup hwt (full.size - (p + 1)) 0 (p + 1) l _ w (by omega) (Nat.le_refl _) hsz (by omega) hcl (fun i hi => hall i (by omega)) ht hQ
  | succ fuel ih =>
    intro l a hsz hc hcl hu ht hA
    by_cases hall : ∀ i, i < p + 1 → l.getD i false = true
    · rw [hA.whole (fun i hi => hall i (by omega))]
      have h0 := tail_count full.size (full.size - (p + 1)) l hsz (by omega) (fun i hi1 hi2 => ht i (by omega) hi2)
      exact rest_anyU (p + 1) hup hwt (full.size - (p + 1)) (fuel + 1) (p + 1) l _ w (by omega) (Nat.le_refl _) hsz (by omega) hcl hall ht hQ
    · have hex : ∃ x, x < p + 1 ∧ l.getD x false = false := by
        apply Classical.byContradiction
        intro hno
        apply hall
        intro i hi
        cases hb : l.getD i false with
        | true => rfl
        | false => exact absurd ⟨i, hi, hb⟩ hno
      obtain ⟨x, hx, hxf⟩ := hex
      refine ⟨fun hr => ?_, fun i hi => ?_⟩
      · have := ready_all hup hsz hr x (by omega)
        rw [hxf] at this
        cases this
      · obtain ⟨hun, o, ho, hedge⟩ := mem_ready.1 hi
        have hilt : i < full.size := (Array.getElem?_eq_some_iff.1 ho).1
        have hip1 : i < p + 1 := by
          rcases Nat.lt_or_ge i (p + 1) with h' | h'
          · exact h'
          · have := waitsT_spec hcl 12 o (hwt ho h' x (by omega)) hedge
            rw [hxf] at this
            cases this
        obtain ⟨o', v, ho', hk, hxq⟩ := hlate.at (hu i (by omega) hun)
        have hip : i < p := by rw [← hp]; exact (Array.getElem?_eq_some_iff.1 ho').1
        have hof := ho
        rw [hfull i hip, ho'] at ho
        injection ho with ho
        subst ho
        obtain ⟨he, hw0⟩ := hA.sees hO ho' hedge
        have hy : ∀ ts, Region.wanted o' (yielded full ts) = Region.wanted o' (yielded ops ts) := fun ts => by
          unfold Region.wanted
          cases hg : o'.guard with
          | none => rfl
          | some gw =>
            obtain ⟨g, want⟩ := gw
            have : yielded full ts g = yielded ops ts g := by unfold yielded; rw [hfull g (hgd ho' hg)]
            simp only [this]
        have hc' := count_set hun
        refine wpOp_step hof (fun K' hK => ?_)
        rw [hy, hw0, if_pos (hxq J).1]
        unfold Oper.wp
        rw [he, (hxq J).2 w]
        refine hK _ _ (ih _ _ (by simp [hsz]) (by omega) (hcl.step hof hedge) (fun j hj hj2 => ?_) (fun j hj hj2 => ?_) (hA.step hO hn ho' hk (fun _ _ _ _ => rfl)))
        · by_cases e : i = j
          · subst e
            have hi' : i < l.size := by omega
            simp [hi'] at hj2
          · rw [getD_set_ne true e] at hj2
            exact hu j hj hj2
        · rw [getD_set_ne true (by omega)]
          exact ht j hj hj2
theorem first_enter {full : Array Oper} {n p : Nat} {op : Oper} {d : Nat} {v : Value} (hO : Orderly ops ks n) (hn : n = a₀.tmps.size) (hL : LaidOk ks ks) {S : World → Prop} (hS : ∀ w, Below w₀.heap.size w₀ w → S w)
    (hp : ops.size = p) (hpf : p + 1 ≤ full.size) (hfull : ∀ i, i < p → full[i]? = ops[i]?) (hgd : ∀ {i : Nat} {o : Oper} {g : Nat} {b : Bool}, ops[i]? = some o → o.guard = some (g, b) → g < p)
    (hup : ∀ {i : Nat} {o : Oper}, full[i]? = some o → ∀ e ∈ o.after, Region.binds .any e = true → e.on < i)
    (hop : full[p]? = some op) (hdst : op.dst = some d) (hdn : d < n) (hdo : ∀ (j : Nat) (oj : Oper), ops[j]? = some oj → oj.dst ≠ some d) (hgu : op.guard = none) (hsel : ∀ cs b, op.op ≠ .select cs b)
    {late : List Nat} (hwp : ∀ j, j < p → waitsT full 12 op j = true ∨ j ∈ late) (hlook : ∀ d ∈ op.looksAt full, ∀ j oj, ops[j]? = some oj → oj.dst = some d → waitsT full 12 op j = true)
    (hwt : ∀ {i : Nat} {o : Oper}, full[i]? = some o → p + 1 ≤ i → ∀ j, j < i → waitsT full 12 o j = true)
    (hlate : LateOk P ops ks (fun J => zY J 0 ops.toList ks (a₀.put (some d) v)) late)
    (hops : AllOk P ops S (fun J => zY J 0 ops.toList ks a₀) ops.toList ks)
    (hend : ∀ J w l, Mem ks w₀ l J w → (∀ i, i < p → l.getD i false = true) → ∃ (f : FuncId) (args : Array Value) (R : World → Prop), (execOp (zY J 0 ops.toList ks a₀).eval op).run P w = .ok (.enter f args) w ∧ Calls P f args w (fun e w' => e = .returned v ∧ R w') ∧ ∀ w', R w' → wpOps P full Q (List.range' (p + 1) (full.size - (p + 1))) (zY J 0 ops.toList ks (a₀.put (some d) v)) w') :
    ∀ (fuel : Nat) (l : Array Bool) (J : Nat → Nat) (a : Act) (w : World), l.size = full.size → l.toList.count false ≤ fuel → Closed full l → (∀ i, p ≤ i → i < full.size → l.getD i true = false) → Agree ops ks a₀ l J a → Mem ks w₀ l J w → wpAny P .any full Q fuel l a w := by
  intro fuel
  induction fuel with
  | zero =>
    intro l J a w hsz hc hcl ht hA hM
    have := count_set (ht p (Nat.le_refl _) (by omega))
    omega
  | succ fuel ih =>
    intro l J a w hsz hc hcl ht hA hM
    have hpu := ht p (Nat.le_refl _) (by omega)
    refine ⟨fun hr => ?_, fun i hi => ?_⟩
    · have := ready_all hup hsz hr p (by omega)
      rw [(zV hpu).1] at this
      cases this
    · obtain ⟨hun, o, ho, hedge⟩ := mem_ready.1 hi
      have hilt : i < full.size := (Array.getElem?_eq_some_iff.1 ho).1
      have hc' := count_set hun
      have hip1 : i < p + 1 := by
        rcases Nat.lt_or_ge i (p + 1) with h' | h'
        · exact h'
        · have := waitsT_spec hcl 12 o (hwt ho h' p (by omega)) hedge
          rw [(zV hpu).1] at this
          cases this
      by_cases hip : i = p
      · subst hip
        have ho2 := ho
        rw [hop] at ho
        injection ho with ho
        subst ho
        have hbefore : ∀ j, j < i → j ∉ late → l.getD j false = true := fun j hj hnl => by
          rcases hwp j hj with h | h
          · exact waitsT_spec hcl 12 _ h hedge
          · exact absurd h hnl
        obtain ⟨l', hM', hs', hl1, hl2⟩ := mem_late hlate hM
        have hfin : ∀ j, j < i → l'.getD j false = true := fun j hj => by
          by_cases h : j ∈ late
          · exact hl2 j h (by omega)
          · exact hl1 j (hbefore j hj h)
        obtain ⟨f, args, R, hx, hcall, hQ⟩ := hend J w l' hM' hfin
        have he := see_all (full := full) hA hsel (fun d hd j oj hj hdj => waitsT_spec hcl 12 _ (hlook d hd j oj hj hdj) hedge)
        refine wpOp_step hop (fun K' hK => ?_)
        have hwn : Region.wanted op (yielded full a.tmps) = true := by unfold Region.wanted; rw [hgu]
        rw [if_pos hwn]
        unfold Oper.wp
        rw [he, hx]
        have hA' : Agree ops ks (a₀.put (some d) v) (l.setIfInBounds i true) J (a.put op.dst v) := by
          rw [hdst]
          refine ⟨by rw [put_defers', put_defers']; exact hA.defers, by rw [put_size, put_size]; exact hA.size, fun t ht => ?_⟩
          by_cases e : t = d
          · subst e
            rw [fill_off J t ops.toList ks _ 0 (fun j' oj hj => hdo j' oj (by simpa using hj))]
            simp only [Act.put, Array.getElem?_setIfInBounds]
            rw [if_pos trivial, if_pos trivial, hA.size]
          · have h0 := hA.slots t (fun j oj hj hdj => by
              have h1 := ht j oj hj hdj
              have hj' : j < i := by rw [← hp]; exact (Array.getElem?_eq_some_iff.1 hj).1
              rwa [getD_set_ne false (by omega)] at h1)
            rw [fill_put J d v ops.toList ks a₀ 0 (fun j' oj hj => hdo j' oj (by simpa using hj))]
            simp only [Act.put, Array.getElem?_setIfInBounds]
            rw [if_neg (fun h => e h.symm), if_neg (fun h => e h.symm)]
            exact h0
        refine Calls.mono hcall ?_
        rintro _ w1 ⟨rfl, hR⟩
        refine hK _ _ (after_putU (a₀ := a₀.put (some d) v) hO (by rw [put_size]; exact hn) hp hpf hfull hgd hup hwt hlate (hQ w1 hR) fuel _ _ (by simp [hsz]) (by omega) (hcl.step ho2 hedge) (fun j hj hj2 => ?_) (fun j hj hj2 => ?_) hA')
        · by_cases e : i = j
          · subst e
            have hi' : i < l.size := by omega
            simp [hi'] at hj2
          · rw [getD_set_ne true e] at hj2
            apply Classical.byContradiction
            intro hnl
            have := hbefore j (by omega) hnl
            rw [(zV hj2).1] at this
            cases this
        · rw [getD_set_ne true (by omega)]
          exact ht j (by omega) hj2
      · have hlt : i < p := by omega
        have ho' : ops[i]? = some o := by rw [← hfull i hlt]; exact ho
        refine kind_step hO hn hL hS hfull hgd hops hA hM hlt ho' hun hedge (fun J' a' w' hA' hM' => ?_)
        exact ih _ J' a' w' (by simp [hsz]) (by omega) (hcl.step ho hedge) (fun j hj hj2 => by rw [getD_set_ne true (by omega)]; exact ht j hj hj2) hA' hM'
/-- What is to be looked up of the whole region. -/
def enterly (full : Array Oper) (p d n : Nat) (late : List Nat) : Bool :=
  eachOp full (fun i o => o.after.all fun e => !Region.binds .any e || decide (e.on < i)) && decide (p + 1 ≤ full.size) && Region.noSelect full &&
  (match full[p]? with
   | none => false
   | some op => op.dst == some d && op.guard.isNone && ((List.range p).all fun j => waitsT full 12 op j || late.contains j) && (op.looksAt full).all fun d => eachOp full fun j oj => oj.dst != some d || waitsT full 12 op j || decide (p ≤ j)) &&
  eachOp full (fun i o => decide (i < p + 1) || (List.range i).all fun j => waitsT full 12 o j) && decide (d < n) && eachOp full (fun j oj => decide (p ≤ j) || oj.dst != some d)
/-- **The law of such a region.** -/
theorem walk_enter {full : Array Oper} {a : Act} {w : World} {id : Nat} (hm : P.follows .mixedOrders = true) (p : Nat) (late : List Nat) (ks : List Kind) (S : World → Prop) (pre : List Oper) (F F' : (Nat → Nat) → Act) (op : Oper) (d : Nat) (v : Value) (hpre : full.toList.take p = pre)
    (hF : ∀ J, zY J 0 pre ks a = F J) (hF' : ∀ J, zY J 0 pre ks (a.put (some d) v) = F' J) (hor : (orderly pre.toArray ks a.tmps.size && guarded pre.toArray p && enterly full p d a.tmps.size late) = true) (hop : full[p]? = some op) (hL : LaidOk ks ks) (hS : ∀ w', Below w.heap.size w w' → S w')
    (hops : AllOk P pre.toArray S F pre ks) (hlate : LateOk P pre.toArray ks F' late)
    (hend : ∀ J w' l, Mem ks w l J w' → (∀ i, i < p → l.getD i false = true) → ∃ (f : FuncId) (args : Array Value) (R : World → Prop), (execOp (F J).eval op).run P w' = .ok (.enter f args) w' ∧ Calls P f args w' (fun e w'' => e = .returned v ∧ R w'') ∧ ∀ w'', R w'' → wpOps P full Q (List.range' (p + 1) (full.size - (p + 1))) (F' J) w'') :
    (Code.region id full true).wp P Q a w := by
  subst hpre
  obtain rfl : (fun J => zY J 0 (full.toList.take p) ks a) = F := funext hF
  obtain rfl : (fun J => zY J 0 (full.toList.take p) ks (a.put (some d) v)) = F' := funext hF'
  simp only [Bool.and_eq_true] at hor
  obtain ⟨⟨h1, h2⟩, h3⟩ := hor
  unfold enterly at h3
  rw [hop] at h3
  simp only [Bool.and_eq_true, decide_eq_true_eq, Option.isNone_iff_eq_none, beq_iff_eq] at h3
  obtain ⟨⟨⟨⟨⟨⟨h5, h6⟩, h7⟩, ⟨⟨h8, h9⟩, h10⟩, h11⟩, h12⟩, h13⟩, h14⟩ := h3
  have hsz : (full.toList.take p).toArray.size = p := by simp; omega
  have hfu : ∀ i, i < p → full[i]? = (full.toList.take p).toArray[i]? := fun i hi => by rw [← take_arr]; exact first_full hi
  refine wp_region_any hm (first_enter (ops := (full.toList.take p).toArray) (Orderly.of h1) rfl hL hS hsz h6 hfu (fun ho hg => guarded_spec h2 ho hg) (fun ho e he hb => ?_) hop h8 h13 (fun j oj hj => ?_) h9 (fun cs b => Region.noSelect_spec h7 p op cs b hop) (late := late) (fun j hj => ?_) (fun d hd j oj hj hdj => ?_) (fun ho hi j hj => ?_) hlate hops hend full.size _ (fun _ => 0) a w.drew (by simp) (by simp) (Closed.none _ _) (fun i _ hi => none_listed' hi) (start_agree _ _) (start_mem _ _ (Below.refl _ _).drew))
  · have := Array.all_eq_true_iff_forall_mem.1 (zP h5 ho) e he
    simpa [hb] using this
  · have hj' : j < p := by rw [← hsz]; exact (Array.getElem?_eq_some_iff.1 hj).1
    have := zP h14 (by rw [hfu j hj']; exact hj)
    simp only [Bool.or_eq_true, decide_eq_true_eq, bne_iff_ne, ne_eq] at this
    rcases this with h | h
    · omega
    · exact h
  · have := List.all_eq_true.1 h10 j (List.mem_range.2 hj)
    simpa using this
  · have hj' : j < p := by rw [← hsz]; exact (Array.getElem?_eq_some_iff.1 hj).1
    have := zP (List.all_eq_true.1 h11 d hd) (by rw [hfu j hj']; exact hj)
    simp only [hdj, bne_self_eq_false, Bool.false_or, Bool.or_eq_true, decide_eq_true_eq] at this
    rcases this with h | h
    · exact h
    · omega
  · have := zP h12 ho
    simp only [Bool.or_eq_true, decide_eq_true_eq] at this
    rcases this with h | h
    · omega
    · exact List.all_eq_true.1 h j (List.mem_range.2 hj)
end
end Rg
end Go.Proofs.YtahghpkjkfaieaaGreatDoor
end
section
namespace Go.Proofs.YtahghpkjkfaieaaGreatDoor
open Go.RowKit
namespace Rg
section
variable {P : Program} {ops : Array Oper} {ks : List Kind} {a₀ : Act} {w₀ : World} {Q : Exit → Act → World → Prop}
theorem first_value {full : Array Oper} {n p : Nat} {op : Oper} {d : Nat} (hO : Orderly ops ks n) (hn : n = a₀.tmps.size) (hL : LaidOk ks ks) {S : World → Prop} (hS : ∀ w, Below w₀.heap.size w₀ w → S w)
  (hp : ops.size = p) (hpf : p + 1 ≤ full.size) (hfull : ∀ i, i < p → full[i]? = ops[i]?) (hgd : ∀ {i : Nat} {o : Oper} {g : Nat} {b : Bool}, ops[i]? = some o → o.guard = some (g, b) → g < p)
  (hup : ∀ {i : Nat} {o : Oper}, full[i]? = some o → ∀ e ∈ o.after, Region.binds .any e = true → e.on < i)
  (hop : full[p]? = some op) (hdst : op.dst = some d) (hdn : d < n) (hdo : ∀ (j : Nat) (oj : Oper), ops[j]? = some oj → oj.dst ≠ some d) (hgu : op.guard = none) (hsel : ∀ cs b, op.op ≠ .select cs b)
  {late : List Nat} (hwp : ∀ j, j < p → waitsT full 12 op j = true ∨ j ∈ late) (hlook : ∀ d ∈ op.looksAt full, ∀ j oj, ops[j]? = some oj → oj.dst = some d → waitsT full 12 op j = true)
  (hwt : ∀ {i : Nat} {o : Oper}, full[i]? = some o → p + 1 ≤ i → ∀ j, j < i → waitsT full 12 o j = true)
  (hlate : ∀ v, LateOk P ops ks (fun J => zY J 0 ops.toList ks (a₀.put (some d) v)) late)
  (hops : AllOk P ops S (fun J => zY J 0 ops.toList ks a₀) ops.toList ks)
  (hend : ∀ J w l, Mem ks w₀ l J w → (∀ i, i < p → l.getD i false = true) → ∃ (v : Value) (w' : World), (execOp (zY J 0 ops.toList ks a₀).eval op).run P w = .ok (.value v) w' ∧ wpOps P full Q (List.range' (p + 1) (full.size - (p + 1))) (zY J 0 ops.toList ks (a₀.put (some d) v)) w') :
  ∀ (fuel : Nat) (l : Array Bool) (J : Nat → Nat) (a : Act) (w : World), l.size = full.size → l.toList.count false ≤ fuel → Closed full l → (∀ i, p ≤ i → i < full.size → l.getD i true = false) → Agree ops ks a₀ l J a → Mem ks w₀ l J w → wpAny P .any full Q fuel l a w := by
 intro fuel
 induction fuel with
 | zero =>
  intro l J a w hsz hc hcl ht hA hM
  have := count_set (ht p (Nat.le_refl _) (by omega))
  omega
 | succ fuel ih =>
  intro l J a w hsz hc hcl ht hA hM
  have hpu := ht p (Nat.le_refl _) (by omega)
  refine ⟨fun hr => ?_, fun i hi => ?_⟩
  ·have := ready_all hup hsz hr p (by omega)
   rw [(zV hpu).1] at this
   cases this
  ·obtain ⟨hun, o, ho, hedge⟩ := mem_ready.1 hi
   have hilt : i < full.size := (Array.getElem?_eq_some_iff.1 ho).1
   have hc' := count_set hun
   have hip1 : i < p + 1 := by
    rcases Nat.lt_or_ge i (p + 1) with h' | h'
    ·exact h'
    ·have := waitsT_spec hcl 12 o (hwt ho h' p (by omega)) hedge
     rw [(zV hpu).1] at this
     cases this
   by_cases hip : i = p
   ·subst hip
    have ho2 := ho
    rw [hop] at ho
    injection ho with ho
    subst ho
    have hbefore : ∀ j, j < i → j ∉ late → l.getD j false = true := fun j hj hnl => by
     rcases hwp j hj with h | h
     ·exact waitsT_spec hcl 12 _ h hedge
     ·exact absurd h hnl
    obtain ⟨l', hM', hs', hl1, hl2⟩ := mem_late (hlate undef) hM
    have hfin : ∀ j, j < i → l'.getD j false = true := fun j hj => by
     by_cases h : j ∈ late
     ·exact hl2 j h (by omega)
     ·exact hl1 j (hbefore j hj h)
    obtain ⟨v, w1, hx, hQ⟩ := hend J w l' hM' hfin
    have he := see_all (full := full) hA hsel (fun d hd j oj hj hdj => waitsT_spec hcl 12 _ (hlook d hd j oj hj hdj) hedge)
    refine wpOp_step hop (fun K' hK => ?_)
    have hwn : Region.wanted op (yielded full a.tmps) = true := by unfold Region.wanted; rw [hgu]
    rw [if_pos hwn]
    unfold Oper.wp
    rw [he, hx]
    have hA' : Agree ops ks (a₀.put (some d) v) (l.setIfInBounds i true) J (a.put op.dst v) := by
     rw [hdst]
     refine ⟨by rw [put_defers', put_defers']; exact hA.defers, by rw [put_size, put_size]; exact hA.size, fun t ht => ?_⟩
     by_cases e : t = d
     ·subst e
      rw [fill_off J t ops.toList ks _ 0 (fun j' oj hj => hdo j' oj (by simpa using hj))]
      simp only [Act.put, Array.getElem?_setIfInBounds]
      rw [if_pos trivial, if_pos trivial, hA.size]
     ·have h0 := hA.slots t (fun j oj hj hdj => by
       have h1 := ht j oj hj hdj
       have hj' : j < i := by rw [← hp]; exact (Array.getElem?_eq_some_iff.1 hj).1
       rwa [getD_set_ne false (by omega)] at h1)
      rw [fill_put J d v ops.toList ks a₀ 0 (fun j' oj hj => hdo j' oj (by simpa using hj))]
      simp only [Act.put, Array.getElem?_setIfInBounds]
      rw [if_neg (fun h => e h.symm), if_neg (fun h => e h.symm)]
      exact h0
    refine hK _ _ (after_putU (a₀ := a₀.put (some d) v) hO (by rw [put_size]; exact hn) hp hpf hfull hgd hup hwt (hlate v) hQ fuel _ _ (by simp [hsz]) (by omega) (hcl.step ho2 hedge) (fun j hj hj2 => ?_) (fun j hj hj2 => ?_) hA')
    ·by_cases e : i = j
     ·subst e
      have hi' : i < l.size := by omega
      simp [hi'] at hj2
     ·rw [getD_set_ne true e] at hj2
      apply Classical.byContradiction
      intro hnl
      have := hbefore j (by omega) hnl
      rw [(zV hj2).1] at this
      cases this
    ·rw [getD_set_ne true (by omega)]
     exact ht j (by omega) hj2
   ·have hlt : i < p := by omega
    have ho' : ops[i]? = some o := by rw [← hfull i hlt]; exact ho
    refine kind_step hO hn hL hS hfull hgd hops hA hM hlt ho' hun hedge (fun J' a' w' hA' hM' => ?_)
    exact ih _ J' a' w' (by simp [hsz]) (by omega) (hcl.step ho hedge) (fun j hj hj2 => by rw [getD_set_ne true (by omega)]; exact ht j hj hj2) hA' hM'
theorem walk_value {full : Array Oper} {a : Act} {w : World} {id : Nat} (hm : P.follows .mixedOrders = true) (p : Nat) (late : List Nat) (ks : List Kind) (S : World → Prop) (pre : List Oper) (F : (Nat → Nat) → Act) (F' : Value → (Nat → Nat) → Act) (op : Oper) (d : Nat) (hpre : full.toList.take p = pre)
  (hF : ∀ J, zY J 0 pre ks a = F J) (hF' : ∀ v J, zY J 0 pre ks (a.put (some d) v) = F' v J) (hor : (orderly pre.toArray ks a.tmps.size && guarded pre.toArray p && enterly full p d a.tmps.size late) = true) (hop : full[p]? = some op) (hL : LaidOk ks ks) (hS : ∀ w', Below w.heap.size w w' → S w')
  (hops : AllOk P pre.toArray S F pre ks) (hlate : ∀ v, LateOk P pre.toArray ks (F' v) late)
  (hend : ∀ J w' l, Mem ks w l J w' → (∀ i, i < p → l.getD i false = true) → ∃ (v : Value) (w'' : World), (execOp (F J).eval op).run P w' = .ok (.value v) w'' ∧ wpOps P full Q (List.range' (p + 1) (full.size - (p + 1))) (F' v J) w'') :
  (Code.region id full true).wp P Q a w := by
 subst hpre
 obtain rfl : (fun J => zY J 0 (full.toList.take p) ks a) = F := funext hF
 obtain rfl : (fun v J => zY J 0 (full.toList.take p) ks (a.put (some d) v)) = F' := funext fun v => funext (hF' v)
 simp only [Bool.and_eq_true] at hor
 obtain ⟨⟨h1, h2⟩, h3⟩ := hor
 unfold enterly at h3
 rw [hop] at h3
 simp only [Bool.and_eq_true, decide_eq_true_eq, Option.isNone_iff_eq_none, beq_iff_eq] at h3
 obtain ⟨⟨⟨⟨⟨⟨h5, h6⟩, h7⟩, ⟨⟨h8, h9⟩, h10⟩, h11⟩, h12⟩, h13⟩, h14⟩ := h3
 have hsz : (full.toList.take p).toArray.size = p := by simp; omega
 have hfu : ∀ i, i < p → full[i]? = (full.toList.take p).toArray[i]? := fun i hi => by rw [← take_arr]; exact first_full hi
 refine wp_region_any hm (first_value (ops := (full.toList.take p).toArray) (Orderly.of h1) rfl hL hS hsz h6 hfu (fun ho hg => guarded_spec h2 ho hg) (fun ho e he hb => ?_) hop h8 h13 (fun j oj hj => ?_) h9 (fun cs b => Region.noSelect_spec h7 p op cs b hop) (late := late) (fun j hj => ?_) (fun d hd j oj hj hdj => ?_) (fun ho hi j hj => ?_) hlate hops hend full.size _ (fun _ => 0) a w.drew (by simp) (by simp) (Closed.none _ _) (fun i _ hi => none_listed' hi) (start_agree _ _) (start_mem _ _ (Below.refl _ _).drew))
 ·have := Array.all_eq_true_iff_forall_mem.1 (zP h5 ho) e he
  simpa [hb] using this
 ·have hj' : j < p := by rw [← hsz]; exact (Array.getElem?_eq_some_iff.1 hj).1
  have := zP h14 (by rw [hfu j hj']; exact hj)
  simp only [Bool.or_eq_true, decide_eq_true_eq, bne_iff_ne, ne_eq] at this
  rcases this with h | h
  ·omega
  ·exact h
 ·have := List.all_eq_true.1 h10 j (List.mem_range.2 hj)
  simpa using this
 ·have hj' : j < p := by rw [← hsz]; exact (Array.getElem?_eq_some_iff.1 hj).1
  have := zP (List.all_eq_true.1 h11 d hd) (by rw [hfu j hj']; exact hj)
  simp only [hdj, bne_self_eq_false, Bool.false_or, Bool.or_eq_true, decide_eq_true_eq] at this
  rcases this with h | h
  ·exact h
  ·omega
 ·have := zP h12 ho
  simp only [Bool.or_eq_true, decide_eq_true_eq] at this
  rcases this with h | h
  ·omega
  ·exact List.all_eq_true.1 h j (List.mem_range.2 hj)
end
end Rg
end Go.Proofs.YtahghpkjkfaieaaGreatDoor
end
section
namespace Go.Proofs.YtahghpkjkfaieaaGreatDoor
open Go.RowKit
namespace Rg
section
variable {P : Program} {full : Array Oper} {Q : Exit → Act → World → Prop} {S : World → Prop}
/-- Operations that come behind the chain's last one. -/
def behind (full : Array Oper) (free chain rm : List Nat) : Bool := rm.all fun j => !(free.contains j) && !(chain.contains j) && (match chain.getLast?, full[j]? with | some c, some o => waitsT full 12 o c | _, _ => false)
/-- A frame that lacks just what free operations have still to bring. -/
structure Ag (full : Array Oper) (free : List Nat) (l : Array Bool) (a b : Act) : Prop where
 defers : a.defers = b.defers
 size : a.tmps.size = b.tmps.size
 slots : ∀ d, (∀ i, i ∈ free → ∀ o, full[i]? = some o → o.dst = some d → l.getD i false = true) → a.tmps[d]? = b.tmps[d]?
theorem Ag.whole {free : List Nat} {l : Array Bool} {a b : Act} (h : Ag full free l a b) (hl : ∀ i, i < full.size → l.getD i false = true) : a = b := by
 obtain ⟨t, df⟩ := a
 obtain ⟨t', df'⟩ := b
 have h1 := h.defers
 have h2 : t = t' := by
  apply Array.ext_getElem?
  intro d
  exact h.slots d (fun i _ o ho _ => hl i (Array.getElem?_eq_some_iff.1 ho).1)
 simp only at h1 h2
 rw [h1, h2]
/-- The free operations, each with its slot and its value. -/
def FreeOk (P : Program) (full : Array Oper) (S : World → Prop) (b : Act) : List Nat → List (Nat × Value) → Prop
 | i :: r, (d, v) :: s => (∃ o, full[i]? = some o ∧ o.dst = some d ∧ b.tmps[d]? = some v ∧ ∀ w, S w → (execOp b.eval o).run P w = .ok (.value v) w) ∧ FreeOk P full S b r s
 | [], [] => True
 | _, _ => False
theorem FreeOk.at {b : Act} : ∀ {f : List Nat} {s : List (Nat × Value)}, FreeOk P full S b f s → ∀ {i : Nat}, i ∈ f → ∃ o d v, full[i]? = some o ∧ o.dst = some d ∧ (d, v) ∈ s ∧ b.tmps[d]? = some v ∧ ∀ w, S w → (execOp b.eval o).run P w = .ok (.value v) w
 | [], _, _, i, h => by cases h
 | j :: f, [], h, _, _ => by cases h
 | j :: f, (d, v) :: s, h, i, hi => by
  rcases List.mem_cons.1 hi with e | hi
  ·subst e
   obtain ⟨o, h1, h2, h3, h4⟩ := h.1
   exact ⟨o, d, v, h1, h2, by simp, h3, h4⟩
  ·obtain ⟨o, d', v', h1, h2, h3, h4, h5⟩ := h.2.at hi
   exact ⟨o, d', v', h1, h2, by simp [h3], h4, h5⟩
end
end Rg
end Go.Proofs.YtahghpkjkfaieaaGreatDoor
end
section
namespace Go.Proofs.YtahghpkjkfaieaaGreatDoor
open Go.RowKit
namespace Rg
/-- All that was there is as it was, but block g. -/
structure Kp (g : Nat) (w w' : World) : Prop where
  os : w'.os = w.os
  tape : w'.tape = w.tape
  output : w'.output = w.output
  size : w.heap.size ≤ w'.heap.size
  block : ∀ k, k < w.heap.size → k ≠ g → w'.heap[k]? = w.heap[k]?
theorem Kp.refl (g : Nat) (w : World) : Kp g w w := ⟨rfl, rfl, rfl, Nat.le_refl _, fun _ _ _ => rfl⟩
theorem Kp.trans {g : Nat} {a b c : World} (h : Kp g a b) (k : Below b.heap.size b c) : Kp g a c :=
  ⟨k.os.trans h.os, k.tape.trans h.tape, k.output.trans h.output, Nat.le_trans h.size k.size, fun i hi hg => (k.block i (Nat.lt_of_lt_of_le hi h.size)).trans (h.block i hi hg)⟩
theorem heap_setCells (g : Nat) (k : Nat) (hk : k ≠ g) : ∀ (vs : List Value) (o : Nat) (w : World), (w.setCells g o vs).heap[k]? = w.heap[k]?
  | [], _, _ => rfl
  | v :: r, o, w => by
    rw [World.setCells, heap_setCells g k hk r, Below.heap_setCell _ _ _ _ hk]
theorem Kp.put {g b off : Nat} {vs : List Value} {a w : World} (h : Kp g a w) (hb : b = g ∨ a.heap.size ≤ b) : Kp g a (w.setCells b off vs) := by
  have hB := below_setCells (B := 0) (w0 := w) b (Nat.zero_le _) vs off w (Below.refl _ _)
  refine ⟨hB.os.trans h.os, hB.tape.trans h.tape, hB.output.trans h.output, by rw [size_setCells]; exact h.size, fun k hk hg => ?_⟩
  rw [heap_setCells b k (by rcases hb with e | e <;> omega) vs off w]
  exact h.block k hk hg
theorem sH {Q : Exit → Act → World → Prop} {full : Array Oper} {a : Act} {w w0 : World} {j q g : Nat} {r : List Nat} {o : Oper} {l : List (Nat × List Value)} {off : Nat} {cs vs : List Value} (ho : full[j]? = some o) (hx : Mm w l → (execOp a.eval o).run Tryz.prog w = .ok .skip (w.setCells g off vs)) (k : Nat) (l' : List (Nat × List Value)) (H : Hid (Mm w l ∧ Kp q w0 w)) (hg : g = q ∨ w0.heap.size ≤ g) (h : ∀ w', Hid (Mm w' l' ∧ Kp q w0 w') → wpOps Tryz.prog full Q r a w') (hd : o.dst = none := by exact rfl) (hw : Region.wanted o (yielded full a.tmps) = true := by exact rfl) (hk : l[k]? = some (g, cs) := by exact rfl) (hb : off + vs.length ≤ cs.length := by exact Nat.le_of_ble_eq_true rfl) (hl : l.set k (g, patch cs off vs) = l' := by exact rfl) : wpOps Tryz.prog full Q (j :: r) a w :=
 rest_store ho hd hw (hx H.out.1) (h _ ⟨hl ▸ H.out.1.put k hk hb, H.out.2.put hg⟩)
theorem Below.kp {B g : Nat} {a w w' : World} (h : Below B a w) (k : Kp g w w') (hg : B ≤ g) (hB : B ≤ w.heap.size) : Below B a w' :=
  ⟨k.os.trans h.os, k.tape.trans h.tape, k.output.trans h.output, Nat.le_trans h.size k.size, fun i hi => (k.block i (Nat.lt_of_lt_of_le hi hB) (by omega)).trans (h.block i hi)⟩
theorem Blk.kp {g b : Nat} {cs : List Value} {w w' : World} (h : Blk w b cs) (k : Kp g w w') (hb : b < w.heap.size) (hg : b ≠ g) : Blk w' b cs := fun j v hv => by
  have e := k.block b hb hg
  exact ⟨by rw [World.cell?_of_block (w := w) (a := ⟨b, j, none⟩) e]; exact (h j v hv).1, by rw [World.frozen?_of_block (w := w) (a := ⟨b, j, none⟩) e]; exact (h j v hv).2⟩
theorem Mm.change {w w' : World} {l : List (Nat × List Value)} (h : Mm w l) (k : Nat) {g : Nat} {cs cs' : List Value} (hk : l[k]? = some (g, cs)) (hp : Kp g w w') (hn : Mm w' [(g, cs')]) : Mm w' (l.set k (g, cs')) := by
  have hkl : k < l.length := (List.getElem?_eq_some_iff.1 hk).1
  have hke : l[k] = (g, cs) := (List.getElem?_eq_some_iff.1 hk).2
  have hpw := List.pairwise_iff_getElem.1 h.nd
  refine ⟨fun p hp2 => ?_, ?_⟩
  · obtain ⟨j, hj, e⟩ := List.getElem_of_mem hp2
    rw [List.getElem_set] at e
    have hj' : j < l.length := by simpa using hj
    split at e
    · subst e
      exact hn.blk _ (List.mem_singleton.2 rfl)
    · rename_i hne
      subst e
      have hb := h.blk _ (List.getElem_mem hj')
      refine ⟨Nat.lt_of_lt_of_le hb.1 hp.size, Blk.kp hb.2 hp hb.1 ?_⟩
      rcases Nat.lt_or_ge j k with h' | h'
      · have := hpw j k hj' hkl h'
        rw [hke] at this
        exact this
      · have := hpw k j hkl hj' (by omega)
        rw [hke] at this
        exact this.symm
  · refine List.pairwise_iff_getElem.2 fun i j hi hj hij => ?_
    have hi' : i < l.length := by simpa using hi
    have hj' : j < l.length := by simpa using hj
    have := hpw i j hi' hj' hij
    rw [List.getElem_set, List.getElem_set]
    split
    · rename_i e1
      subst e1
      rw [if_neg (by omega)]
      rw [hke] at this
      exact this
    · split
      · rename_i e2
        subst e2
        rw [hke] at this
        exact this
      · exact this
theorem Mm.two {w : World} {l : List (Nat × List Value)} (h : Mm w l) (i j : Nat) {p q : Nat × List Value} (hi : l[i]? = some p) (hj : l[j]? = some q) (hij : i ≠ j) : Mm w [p, q] := by
  have hpw := List.pairwise_iff_getElem.1 h.nd
  obtain ⟨hi1, hi2⟩ := List.getElem?_eq_some_iff.1 hi
  obtain ⟨hj1, hj2⟩ := List.getElem?_eq_some_iff.1 hj
  have hne : p.1 ≠ q.1 := by
    rcases Nat.lt_or_ge i j with h' | h'
    · have := hpw i j hi1 hj1 h'
      rw [hi2, hj2] at this
      exact this
    · have := hpw j i hj1 hi1 (by omega)
      rw [hi2, hj2] at this
      exact this.symm
  refine ⟨fun r hr => ?_, ?_⟩
  · simp only [List.mem_cons, List.not_mem_nil, or_false] at hr
    rcases hr with e | e
    · rw [e]; exact h.blk p (List.mem_of_getElem? hi)
    · rw [e]; exact h.blk q (List.mem_of_getElem? hj)
  · exact List.Pairwise.cons (fun r hr => by rw [List.mem_singleton.1 hr]; exact hne) (List.pairwise_singleton _ _)
theorem keepK {q : Nat} {w₀ w w' : World} {L : List (Nat × List Value)} (H : Hid (Mm w L ∧ Kp q w₀ w)) (hb : Below w.heap.size w w') : Hid (Mm w' L ∧ Kp q w₀ w') :=
  ⟨H.out.1.below hb, H.out.2.trans hb⟩
theorem growK {ks : List Kind} {q : Nat} {w₀ w w' : World} {l : Array Bool} {J : Nat → Nat} {L : List (Nat × List Value)} (H : Hid (Mm w L ∧ Kp q w₀ w)) (h : Mem ks w l J w') {p : Nat} (hp : ks.length ≤ p) (hl : ∀ i, i < p → l.getD i false = true)
    (is : List Nat) (ha : (is.all fun i => (fresh ks i).isSome) = true) (hn : is.Pairwise (· ≠ ·)) : Hid (Mm w' (is.map (fun i => (J i, fin ks i)) ++ L) ∧ Kp q w₀ w') :=
  ⟨H.out.1.grow h hp hl is ha hn, H.out.2.trans h.below⟩
theorem ownK {ks : List Kind} {q : Nat} {w₀ w w' : World} {l : Array Bool} {J : Nat → Nat} {L : List (Nat × List Value)} (H : Hid (Mm w L ∧ Kp q w₀ w)) (h : Mem ks w l J w') {p : Nat} (hp : ks.length ≤ p) (hl : ∀ i, i < p → l.getD i false = true) {i : Nat} (hi : (fresh ks i).isSome = true) : Hid (w₀.heap.size ≤ J i) :=
  Nat.le_trans H.out.2.size (h.fin hp hl hi).2.1
theorem wK {ks : List Kind} {q : Nat} {w₀ w w' : World} {l : Array Bool} {J : Nat → Nat} {L : List (Nat × List Value)} (H : Hid (Mm w L ∧ Kp q w₀ w)) (h : Mem ks w l J w') {p : Nat} (hl : ∀ i, i < p → l.getD i false = true) (is : List Nat) (hp : ks.length ≤ p := by exact Nat.le_refl _) (ha : (is.all fun i => (fresh ks i).isSome) = true := by exact rfl) (hn : is.Pairwise (· ≠ ·) := by decide) : Hid (Mm w' (is.map (fun i => (J i, fin ks i)) ++ L) ∧ Kp q w₀ w') := growK H h hp hl is ha hn
theorem vK {ks : List Kind} {q : Nat} {w₀ w w' : World} {l : Array Bool} {J : Nat → Nat} {L : List (Nat × List Value)} (H : Hid (Mm w L ∧ Kp q w₀ w)) (h : Mem ks w l J w') {p : Nat} (hl : ∀ i, i < p → l.getD i false = true) (i : Nat) (hp : ks.length ≤ p := by exact Nat.le_refl _) (hi : (fresh ks i).isSome = true := by exact rfl) : Hid (w₀.heap.size ≤ J i) := ownK H h hp hl hi
end Rg
end Go.Proofs.YtahghpkjkfaieaaGreatDoor
end
section
namespace Go.Proofs.YtahghpkjkfaieaaGreatDoor
open Go.RowKit
namespace Rg
section
variable {P : Program} {ops : Array Oper} {ks : List Kind} {a₀ : Act} {w₀ : World} {Q : Exit → Act → World → Prop}
/-- An operation that the store need not wait for: it tells its value behind it. -/
def LateAt (P : Program) (ops : Array Oper) (ks : List Kind) (a : Act) (w : World) : List Nat → Prop
 | [] => True
 | i :: r => (∃ o v, ops[i]? = some o ∧ ks[i]? = some (.q v) ∧ Region.wanted o (yielded ops a.tmps) = true ∧ (execOp a.eval o).run P w = .ok (.value v) w) ∧ LateAt P ops ks a w r
theorem LateAt.at {a : Act} {w : World} : ∀ {late : List Nat}, LateAt P ops ks a w late → ∀ {i : Nat}, i ∈ late → ∃ o v, ops[i]? = some o ∧ ks[i]? = some (.q v) ∧ Region.wanted o (yielded ops a.tmps) = true ∧ (execOp a.eval o).run P w = .ok (.value v) w
 | [], _, _, h => by cases h
 | j :: r, hl, i, h => by
  rcases List.mem_cons.1 h with e | h
  ·subst e; exact hl.1
  ·exact hl.2.at h
def isQuiet : Option Kind → Bool
 | some ((Sum.inl _)) => true
 | _ => false
theorem isQuiet_spec {k : Option Kind} (h : isQuiet k = true) : ∃ v, k = some (.q v) := by
 cases k with
 | none => cases h
 | some k => cases k using Kind.each <;> first | exact ⟨_, rfl⟩ | cases h
theorem mem_late2 {J : Nat → Nat} {w : World} : ∀ {late : List Nat} {l : Array Bool}, (late.all fun i => isQuiet ks[i]?) = true → Mem ks w₀ l J w → ∃ l', Mem ks w₀ l' J w ∧ l'.size = l.size ∧ (∀ i, l.getD i false = true → l'.getD i false = true) ∧ ∀ i ∈ late, i < l.size → l'.getD i false = true
 | [], l, _, h => ⟨l, h, rfl, fun _ h => h, fun _ h => by cases h⟩
 | j :: r, l, hl, h => by
  simp only [List.all_cons, Bool.and_eq_true] at hl
  obtain ⟨v, hk⟩ := isQuiet_spec hl.1
  obtain ⟨l', h1, h2, h3, h4⟩ := mem_late2 (late := r) hl.2 (h.still (Below.refl _ _) hk rfl (fun _ _ _ h => by cases h))
  refine ⟨l', h1, by rw [h2]; simp, fun i hi => h3 i (getD_true hi), fun i hi hlt => ?_⟩
  rcases List.mem_cons.1 hi with e | hi
  ·subst e
   exact h3 i (by simp [hlt])
  ·exact h4 i hi (by simpa using hlt)
theorem after_put2 {full : Array Oper} {n p : Nat} (hO : Orderly ops ks n) (hn : n = a₀.tmps.size) (hp : ops.size = p) (hpf : p + 1 ≤ full.size) (hfull : ∀ i, i < p → full[i]? = ops[i]?) (hgd : ∀ {i : Nat} {o : Oper} {g : Nat} {b : Bool}, ops[i]? = some o → o.guard = some (g, b) → g < p)
  (hup : ∀ {i : Nat} {o : Oper}, full[i]? = some o → ∀ e ∈ o.after, Region.binds .any e = true → e.on < i)
  (hwt : ∀ {i : Nat} {o : Oper}, full[i]? = some o → p + 1 ≤ i → ∀ j, j < i → waitsT full 4 o j = true)
  {late : List Nat} {J : Nat → Nat} {w : World} (hlate : LateAt P ops ks (zY J 0 ops.toList ks a₀) w late) (hQ : wpOps P full Q (List.range' (p + 1) (full.size - (p + 1))) (zY J 0 ops.toList ks a₀) w) :
  ∀ (fuel : Nat) (l : Array Bool) (a : Act), l.size = full.size → l.toList.count false ≤ fuel → Closed full l → (∀ i, i ≤ p → l.getD i true = false → i ∈ late) → (∀ i, p + 1 ≤ i → i < full.size → l.getD i true = false) → Agree ops ks a₀ l J a → wpAny P .any full Q fuel l a w := by
 intro fuel
 induction fuel with
 | zero =>
  intro l a hsz hc hcl hu ht hA
  have hall : ∀ i, i < full.size → l.getD i false = true := fun i hi => by
   cases hb : l.getD i true with
   | false => have := count_set hb; omega
   | true =>
    have hi' : i < l.size := by omega
    simpa [hi'] using hb
  rw [hA.whole (fun i hi => hall i (by omega))]
  have h0 := tail_count full.size (full.size - (p + 1)) l hsz (by omega) (fun i hi1 hi2 => ht i (by omega) hi2)
  exact rest_anyT (p + 1) hup hwt (full.size - (p + 1)) 0 (p + 1) l _ w (by omega) (Nat.le_refl _) hsz (by omega) hcl (fun i hi => hall i (by omega)) ht hQ
 | succ fuel ih =>
  intro l a hsz hc hcl hu ht hA
  by_cases hall : ∀ i, i < p + 1 → l.getD i false = true
  ·rw [hA.whole (fun i hi => hall i (by omega))]
   have h0 := tail_count full.size (full.size - (p + 1)) l hsz (by omega) (fun i hi1 hi2 => ht i (by omega) hi2)
   exact rest_anyT (p + 1) hup hwt (full.size - (p + 1)) (fuel + 1) (p + 1) l _ w (by omega) (Nat.le_refl _) hsz (by omega) hcl hall ht hQ
  ·have hex : ∃ x, x < p + 1 ∧ l.getD x false = false := by
    apply Classical.byContradiction
    intro hno
    apply hall
    intro i hi
    cases hb : l.getD i false with
    | true => rfl
    | false => exact absurd ⟨i, hi, hb⟩ hno
   obtain ⟨x, hx, hxf⟩ := hex
   refine ⟨fun hr => ?_, fun i hi => ?_⟩
   ·have := ready_all hup hsz hr x (by omega)
    rw [hxf] at this
    cases this
   ·obtain ⟨hun, o, ho, hedge⟩ := mem_ready.1 hi
    have hilt : i < full.size := (Array.getElem?_eq_some_iff.1 ho).1
    have hip1 : i < p + 1 := by
     rcases Nat.lt_or_ge i (p + 1) with h' | h'
     ·exact h'
     ·have := waitsT_spec hcl 4 o (hwt ho h' x (by omega)) hedge
      rw [hxf] at this
      cases this
    obtain ⟨o', v, ho', hk, hxq⟩ := hlate.at (hu i (by omega) hun)
    have hip : i < p := by rw [← hp]; exact (Array.getElem?_eq_some_iff.1 ho').1
    have hof := ho
    rw [hfull i hip, ho'] at ho
    injection ho with ho
    subst ho
    obtain ⟨he, hw0⟩ := hA.sees hO ho' hedge
    have hy : ∀ ts, Region.wanted o' (yielded full ts) = Region.wanted o' (yielded ops ts) := fun ts => by
     unfold Region.wanted
     cases hg : o'.guard with
     | none => rfl
     | some gw =>
      obtain ⟨g, want⟩ := gw
      have : yielded full ts g = yielded ops ts g := by unfold yielded; rw [hfull g (hgd ho' hg)]
      simp only [this]
    have hc' := count_set hun
    refine wpOp_step hof (fun K' hK => ?_)
    rw [hy, hw0, if_pos hxq.1]
    unfold Oper.wp
    rw [he, hxq.2]
    refine hK _ _ (ih _ _ (by simp [hsz]) (by omega) (hcl.step hof hedge) (fun j hj hj2 => ?_) (fun j hj hj2 => ?_) (hA.step hO hn ho' hk (fun _ _ _ _ => rfl)))
    ·by_cases e : i = j
     ·subst e
      have hi' : i < l.size := by omega
      simp [hi'] at hj2
     ·rw [getD_set_ne true e] at hj2
      exact hu j hj hj2
    ·rw [getD_set_ne true (by omega)]
     exact ht j hj hj2
theorem first_put2 {full : Array Oper} {n p : Nat} {op : Oper} (hO : Orderly ops ks n) (hn : n = a₀.tmps.size) (hL : LaidOk ks ks) {S : World → Prop} (hS : ∀ w, Below w₀.heap.size w₀ w → S w)
  (hp : ops.size = p) (hpf : p + 1 ≤ full.size) (hfull : ∀ i, i < p → full[i]? = ops[i]?) (hgd : ∀ {i : Nat} {o : Oper} {g : Nat} {b : Bool}, ops[i]? = some o → o.guard = some (g, b) → g < p)
  (hup : ∀ {i : Nat} {o : Oper}, full[i]? = some o → ∀ e ∈ o.after, Region.binds .any e = true → e.on < i)
  (hop : full[p]? = some op) (hdst : op.dst = none) (hgu : op.guard = none) (hsel : ∀ cs b, op.op ≠ .select cs b)
  {late : List Nat} (hwp : ∀ j, j < p → waitsT full 4 op j = true ∨ j ∈ late) (hlook : ∀ d ∈ op.looksAt full, ∀ j oj, ops[j]? = some oj → oj.dst = some d → waitsT full 4 op j = true)
  (hwt : ∀ {i : Nat} {o : Oper}, full[i]? = some o → p + 1 ≤ i → ∀ j, j < i → waitsT full 4 o j = true)
  (hlate : (late.all fun i => isQuiet ks[i]?) = true)
  (hops : AllOk P ops S (fun J => zY J 0 ops.toList ks a₀) ops.toList ks)
  (hend : ∀ J w l, Mem ks w₀ l J w → (∀ i, i < p → l.getD i false = true) → ∃ w', (execOp (zY J 0 ops.toList ks a₀).eval op).run P w = .ok .skip w' ∧ LateAt P ops ks (zY J 0 ops.toList ks a₀) w' late ∧ wpOps P full Q (List.range' (p + 1) (full.size - (p + 1))) (zY J 0 ops.toList ks a₀) w') :
  ∀ (fuel : Nat) (l : Array Bool) (J : Nat → Nat) (a : Act) (w : World), l.size = full.size → l.toList.count false ≤ fuel → Closed full l → (∀ i, p ≤ i → i < full.size → l.getD i true = false) → Agree ops ks a₀ l J a → Mem ks w₀ l J w → wpAny P .any full Q fuel l a w := by
 intro fuel
 induction fuel with
 | zero =>
  intro l J a w hsz hc hcl ht hA hM
  have := count_set (ht p (Nat.le_refl _) (by omega))
  omega
 | succ fuel ih =>
  intro l J a w hsz hc hcl ht hA hM
  have hpu := ht p (Nat.le_refl _) (by omega)
  refine ⟨fun hr => ?_, fun i hi => ?_⟩
  ·have := ready_all hup hsz hr p (by omega)
   rw [(zV hpu).1] at this
   cases this
  ·obtain ⟨hun, o, ho, hedge⟩ := mem_ready.1 hi
   have hilt : i < full.size := (Array.getElem?_eq_some_iff.1 ho).1
   have hc' := count_set hun
   have hip1 : i < p + 1 := by
    rcases Nat.lt_or_ge i (p + 1) with h' | h'
    ·exact h'
    ·have := waitsT_spec hcl 4 o (hwt ho h' p (by omega)) hedge
     rw [(zV hpu).1] at this
     cases this
   by_cases hip : i = p
   ·subst hip
    have ho2 := ho
    rw [hop] at ho
    injection ho with ho
    subst ho
    have hbefore : ∀ j, j < i → j ∉ late → l.getD j false = true := fun j hj hnl => by
     rcases hwp j hj with h | h
     ·exact waitsT_spec hcl 4 _ h hedge
     ·exact absurd h hnl
    obtain ⟨l', hM', hs', hl1, hl2⟩ := mem_late2 hlate hM
    have hfin : ∀ j, j < i → l'.getD j false = true := fun j hj => by
     by_cases h : j ∈ late
     ·exact hl2 j h (by omega)
     ·exact hl1 j (hbefore j hj h)
    obtain ⟨w', hx, hla, hQ⟩ := hend J w l' hM' hfin
    have he := see_all (full := full) hA hsel (fun d hd j oj hj hdj => waitsT_spec hcl 4 _ (hlook d hd j oj hj hdj) hedge)
    refine wpOp_step hop (fun K' hK => ?_)
    have hwn : Region.wanted op (yielded full a.tmps) = true := by unfold Region.wanted; rw [hgu]
    rw [if_pos hwn]
    unfold Oper.wp
    rw [he, hx]
    have hA' : Agree ops ks a₀ (l.setIfInBounds i true) J (a.put op.dst undef) := by
     rw [hdst]
     refine ⟨hA.defers, hA.size, fun d hd => hA.slots d (fun j oj hj hdj => ?_)⟩
     have h1 := hd j oj hj hdj
     have hj' : j < i := by rw [← hp]; exact (Array.getElem?_eq_some_iff.1 hj).1
     rwa [getD_set_ne false (by omega)] at h1
    refine hK _ _ (after_put2 hO hn hp hpf hfull hgd hup hwt hla hQ fuel _ _ (by simp [hsz]) (by omega) (hcl.step ho2 hedge) (fun j hj hj2 => ?_) (fun j hj hj2 => ?_) hA')
    ·by_cases e : i = j
     ·subst e
      have hi' : i < l.size := by omega
      simp [hi'] at hj2
     ·rw [getD_set_ne true e] at hj2
      apply Classical.byContradiction
      intro hnl
      have := hbefore j (by omega) hnl
      rw [(zV hj2).1] at this
      cases this
    ·rw [getD_set_ne true (by omega)]
     exact ht j (by omega) hj2
   ·have hlt : i < p := by omega
    have ho' : ops[i]? = some o := by rw [← hfull i hlt]; exact ho
    refine kind_step hO hn hL hS hfull hgd hops hA hM hlt ho' hun hedge (fun J' a' w' hA' hM' => ?_)
    exact ih _ J' a' w' (by simp [hsz]) (by omega) (hcl.step ho hedge) (fun j hj hj2 => by rw [getD_set_ne true (by omega)]; exact ht j hj hj2) hA' hM'
/-- **The law of such a region.** -/
theorem walk_put2 {full : Array Oper} {a : Act} {w : World} {id : Nat} (hm : P.follows .mixedOrders = true) (p : Nat) (late : List Nat) (ks : List Kind) (S : World → Prop) (pre : List Oper) (F : (Nat → Nat) → Act) (op : Oper) (hpre : full.toList.take p = pre)
  (hF : ∀ J, zY J 0 pre ks a = F J) (hor : (orderly pre.toArray ks a.tmps.size && guarded pre.toArray p && putly full p late) = true) (hop : full[p]? = some op) (hL : LaidOk ks ks) (hS : ∀ w', Below w.heap.size w w' → S w')
  (hops : AllOk P pre.toArray S F pre ks) (hlate : (late.all fun i => isQuiet ks[i]?) = true)
  (hend : ∀ J w' l, Mem ks w l J w' → (∀ i, i < p → l.getD i false = true) → ∃ w'', (execOp (F J).eval op).run P w' = .ok .skip w'' ∧ LateAt P pre.toArray ks (F J) w'' late ∧ wpOps P full Q (List.range' (p + 1) (full.size - (p + 1))) (F J) w'') :
  (Code.region id full true).wp P Q a w := by
 subst hpre
 obtain rfl : (fun J => zY J 0 (full.toList.take p) ks a) = F := funext hF
 simp only [Bool.and_eq_true] at hor
 obtain ⟨⟨h1, h2⟩, h3⟩ := hor
 unfold putly at h3
 rw [hop] at h3
 simp only [Bool.and_eq_true, decide_eq_true_eq, Option.isNone_iff_eq_none] at h3
 obtain ⟨⟨⟨⟨h5, h6⟩, h7⟩, ⟨⟨h8, h9⟩, h10⟩, h11⟩, h12⟩ := h3
 have hsz : (full.toList.take p).toArray.size = p := by simp; omega
 have hfu : ∀ i, i < p → full[i]? = (full.toList.take p).toArray[i]? := fun i hi => by rw [← take_arr]; exact first_full hi
 refine wp_region_any hm (first_put2 (ops := (full.toList.take p).toArray) (Orderly.of h1) rfl hL hS hsz h6 hfu (fun ho hg => guarded_spec h2 ho hg) (fun ho e he hb => ?_) hop h8 h9 (fun cs b => Region.noSelect_spec h7 p op cs b hop) (late := late) (fun j hj => ?_) (fun d hd j oj hj hdj => ?_) (fun ho hi j hj => ?_) hlate hops hend full.size _ (fun _ => 0) a w.drew (by simp) (by simp) (Closed.none _ _) (fun i _ hi => none_listed' hi) (start_agree _ _) (start_mem _ _ (Below.refl _ _).drew))
 ·have := Array.all_eq_true_iff_forall_mem.1 (zP h5 ho) e he
  simpa [hb] using this
 ·have := List.all_eq_true.1 h10 j (List.mem_range.2 hj)
  simpa using this
 ·have hj' : j < p := by rw [← hsz]; exact (Array.getElem?_eq_some_iff.1 hj).1
  have := zP (List.all_eq_true.1 h11 d hd) (by rw [hfu j hj']; exact hj)
  simp only [hdj, bne_self_eq_false, Bool.false_or, Bool.or_eq_true, decide_eq_true_eq] at this
  rcases this with h | h
  ·exact h
  ·omega
 ·have := zP h12 ho
  simp only [Bool.or_eq_true, decide_eq_true_eq] at this
  rcases this with h | h
  ·omega
  ·exact List.all_eq_true.1 h j (List.mem_range.2 hj)
end
end Rg
end Go.Proofs.YtahghpkjkfaieaaGreatDoor
end
section
namespace Go.Proofs.YtahghpkjkfaieaaGreatDoor
open Go.RowKit
namespace Rg
def chained0 (full : Array Oper) (p : Nat) : Bool :=
 eachOp full (fun i o => o.after.all fun e => !Region.binds .any e || decide (e.on < i)) &&
 eachOp full (fun i o => decide (i < p) || (List.range i).all fun j => waits o j)
theorem waitsQ_of {full : Array Oper} {f : Nat} {o : Oper} {j : Nat} (h : waits o j = true) : waitsQ full f o j = true := by
 cases f with
 | zero => exact h
 | succ f => unfold waitsQ; rw [h]; rfl
section
variable {P : Program} {ops : Array Oper} {a₀ : Act} {Q : Exit → Act → World → Prop}
theorem quiet_step {full : Array Oper} {ks : List Kind} {n p : Nat} (hO : Orderly ops ks n) (hn : n = a₀.tmps.size) (hfull : ∀ i, i < p → full[i]? = ops[i]?) (hgd : ∀ {i : Nat} {o : Oper} {g : Nat} {b : Bool}, ops[i]? = some o → o.guard = some (g, b) → g < p)
  {K : Act → World → Prop} {l : Array Bool} {J : Nat → Nat} {a : Act} {w : World} (hA : Agree ops ks a₀ l J a) {i : Nat} {o : Oper} {v : Value} (hip : i < p) (ho : ops[i]? = some o) (hk : ks[i]? = some (.q v))
  (hedge : ∀ e ∈ o.after, Region.binds .any e = true → l.getD e.on false = true) (hok : Region.wanted o (yielded ops (zY J 0 ops.toList ks a₀).tmps) = true ∧ (execOp (zY J 0 ops.toList ks a₀).eval o).run P w = .ok (.value v) w)
  (hnext : Agree ops ks a₀ (l.setIfInBounds i true) J (a.put o.dst v) → K (a.put o.dst v) w) : wpOp P full Q i K a w := by
 obtain ⟨he, hw0⟩ := hA.sees hO ho hedge
 have hy : ∀ ts, Region.wanted o (yielded full ts) = Region.wanted o (yielded ops ts) := fun ts => by
  unfold Region.wanted
  cases hg : o.guard with
  | none => rfl
  | some gw =>
   obtain ⟨g, want⟩ := gw
   have : yielded full ts g = yielded ops ts g := by unfold yielded; rw [hfull g (hgd ho hg)]
   simp only [this]
 refine wpOp_step (by rw [hfull i hip]; exact ho) (fun K' hK => ?_)
 rw [hy, hw0, if_pos hok.1]
 unfold Oper.wp
 rw [he, hok.2]
 exact hK _ _ (hnext (hA.step hO hn ho hk (fun _ _ _ _ => rfl)))
theorem enter_step {full : Array Oper} {ks : List Kind} {n p : Nat} (hO : Orderly ops ks n) (hfull : ∀ i, i < p → full[i]? = ops[i]?) (hgd : ∀ {i : Nat} {o : Oper} {g : Nat} {b : Bool}, ops[i]? = some o → o.guard = some (g, b) → g < p)
  {K : Act → World → Prop} {l : Array Bool} {J : Nat → Nat} {a : Act} {w : World} (hA : Agree ops ks a₀ l J a) {i : Nat} {o : Oper} (hip : i < p) (ho : ops[i]? = some o)
  (hedge : ∀ e ∈ o.after, Region.binds .any e = true → l.getD e.on false = true) {f : FuncId} {args : Array Value} {R : Value → World → Prop} (hw : Region.wanted o (yielded ops (zY J 0 ops.toList ks a₀).tmps) = true) (hx : (execOp (zY J 0 ops.toList ks a₀).eval o).run P w = .ok (.enter f args) w)
  (hc : Calls P f args w (fun e w' => ∃ v, e = .returned v ∧ R v w')) (hnext : ∀ v w', R v w' → K (a.put o.dst v) w') : wpOp P full Q i K a w := by
 obtain ⟨he, hw0⟩ := hA.sees hO ho hedge
 have hy : ∀ ts, Region.wanted o (yielded full ts) = Region.wanted o (yielded ops ts) := fun ts => by
  unfold Region.wanted
  cases hg : o.guard with
  | none => rfl
  | some gw =>
   obtain ⟨g, want⟩ := gw
   have : yielded full ts g = yielded ops ts g := by unfold yielded; rw [hfull g (hgd ho hg)]
   simp only [this]
 refine wpOp_step (by rw [hfull i hip]; exact ho) (fun K' hK => ?_)
 rw [hy, hw0, if_pos hw]
 unfold Oper.wp
 rw [he, hx]
 refine Calls.mono hc ?_
 rintro e w' ⟨v, rfl, hr⟩
 exact hK _ _ (hnext v w' hr)
/-- Others than the first one do not hang on what it will answer. -/
theorem Agree.other {n : Nat} {v v' : Value} {qs : List Kind} (hO : Orderly ops (.call v :: qs) n) (hO' : Orderly ops (.call v' :: qs) n) (hn : n = a₀.tmps.size) {l : Array Bool} {J : Nat → Nat} {a : Act} (h : Agree ops (.call v :: qs) a₀ l J a) (h0 : l.getD 0 false = false) : Agree ops (.call v' :: qs) a₀ l J a := by
 refine ⟨h.defers, h.size, fun d hd => ?_⟩
 rw [h.slots d hd]
 by_cases hw : ∃ (j : Nat) (oj : Oper), ops[j]? = some oj ∧ oj.dst = some d
 ·obtain ⟨j, oj, hj, hdj⟩ := hw
  have hl := hd j oj hj hdj
  cases j with
  | zero => rw [h0] at hl; cases hl
  | succ j =>
   obtain ⟨kj, hkj⟩ := kind_at hO hj
   have hkj' : (Kind.call v' :: qs)[j + 1]? = some kj := by simpa using hkj
   rw [fill_one hO hn J hj hkj hdj, fill_one hO' hn J hj hkj' hdj]
 ·have hno : ∀ o' ∈ ops.toList, o'.dst ≠ some d := fun o' ho' hd' => by
   obtain ⟨j, hj, ej⟩ := List.getElem_of_mem ho'
   exact hw ⟨j, o', by rw [← Array.getElem?_toList, List.getElem?_eq_getElem hj, ej], hd'⟩
  rw [fill_other J d 0 _ _ _ hno, fill_other J d 0 _ _ _ hno]
theorem low_ready {full : Array Oper} {p x : Nat} (hwt : ∀ {i : Nat} {o : Oper}, full[i]? = some o → p ≤ i → ∀ j, j < i → waits o j = true) {l : Array Bool} (hx : x < p) (hxf : l.getD x false = false) : ∀ i ∈ Region.ready .any full l, i < p := fun i hi => by
 obtain ⟨_, o, ho, hedge⟩ := mem_ready.1 hi
 rcases Nat.lt_or_ge i p with h' | h'
 ·exact h'
 ·have := waits_spec (hwt ho h' x (by omega)) hedge
  rw [hxf] at this
  cases this
theorem some_ready {full : Array Oper} {x : Nat} (hup : ∀ {i : Nat} {o : Oper}, full[i]? = some o → ∀ e ∈ o.after, Region.binds .any e = true → e.on < i) {l : Array Bool} (hsz : l.size = full.size) (hx : x < full.size) (hxf : l.getD x false = false) : Region.ready .any full l ≠ [] := fun hr => by
 have : ∀ i, i < full.size → l.getD i false = true := by
  intro i
  induction i using Nat.strongRecOn with
  | _ i ih2 =>
   intro hi
   have hi' : i < l.size := by omega
   cases hl : l.getD i true with
   | true => simpa [hi'] using hl
   | false =>
    exfalso
    have : i ∈ Region.ready .any full l := mem_ready.2 ⟨hl, full[i], Array.getElem?_eq_getElem hi, fun e he hb => by
     have h1 := hup (Array.getElem?_eq_getElem hi) e he hb
     exact ih2 e.on h1 (by omega)⟩
    rw [hr] at this
    cases this
 rw [this x hx] at hxf
 cases hxf
theorem rest_count {full : Array Oper} {p : Nat} {l : Array Bool} (hs : l.size = full.size) (hl : ∀ i, p ≤ i → i < full.size → l.getD i true = false) : full.size - p ≤ l.toList.count false := by
 have h3 : ∀ (m : Nat) (l : Array Bool), l.size = full.size → m ≤ full.size - p → (∀ i, full.size - m ≤ i → i < full.size → l.getD i true = false) → m ≤ l.toList.count false := by
  intro m
  induction m with
  | zero => intro l _ _ _; omega
  | succ m ih =>
   intro l hs hm hl
   have h4 := count_set (hl (full.size - (m + 1)) (Nat.le_refl _) (by omega))
   have h5 := ih (l.setIfInBounds (full.size - (m + 1)) true) (by simp [hs]) (by omega) (fun i hi1 hi2 => by rw [getD_set_ne true (by omega)]; exact hl i (by omega) hi2)
   omega
 exact h3 (full.size - p) l hs (Nat.le_refl _) (fun i hi1 hi2 => hl i (by omega) hi2)
/-- Behind the call: the other ones, in no order, then the rest. -/
theorem open_after {full : Array Oper} {ks : List Kind} {n p : Nat} (hO : Orderly ops ks n) (hn : n = a₀.tmps.size) (hp : ops.size = p) (hpf : p ≤ full.size) (hfull : ∀ i, i < p → full[i]? = ops[i]?) (hgd : ∀ {i : Nat} {o : Oper} {g : Nat} {b : Bool}, ops[i]? = some o → o.guard = some (g, b) → g < p)
  (hup : ∀ {i : Nat} {o : Oper}, full[i]? = some o → ∀ e ∈ o.after, Region.binds .any e = true → e.on < i)
  (hwt : ∀ {i : Nat} {o : Oper}, full[i]? = some o → p ≤ i → ∀ j, j < i → waits o j = true) {J : Nat → Nat} {w : World}
  (hqs : ∀ {i : Nat} {o : Oper}, 0 < i → ops[i]? = some o → ∃ v, ks[i]? = some (.q v) ∧ Region.wanted o (yielded ops (zY J 0 ops.toList ks a₀).tmps) = true ∧ (execOp (zY J 0 ops.toList ks a₀).eval o).run P w = .ok (.value v) w)
  (hend : wpOps P full Q (List.range' p (full.size - p)) (zY J 0 ops.toList ks a₀) w) :
  ∀ (fuel : Nat) (l : Array Bool) (a : Act), l.size = full.size → l.toList.count false ≤ fuel → l.getD 0 false = true → (∀ i, p ≤ i → i < full.size → l.getD i true = false) → Agree ops ks a₀ l J a → wpAny P .any full Q fuel l a w := by
 intro fuel
 induction fuel with
 | zero =>
  intro l a hsz hc h0 hu hA
  have hall : ∀ i, i < p → l.getD i false = true := fun i hi => by
   cases hb : l.getD i true with
   | false => have := count_set hb; omega
   | true =>
    have hi' : i < l.size := by omega
    simpa [hi'] using hb
  have := rest_count hsz hu
  rw [whole_of hp hA hall]
  exact rest_any p hup (fun ho hp j hj => waitsQ_of (hwt ho hp j hj)) (full.size - p) 0 p l _ w (by omega) (Nat.le_refl _) hsz (by omega) hall hu hend
 | succ fuel ih =>
  intro l a hsz hc h0 hu hA
  have hct := rest_count hsz hu
  by_cases hall : ∀ i, i < p → l.getD i false = true
  ·rw [whole_of hp hA hall]
   exact rest_any p hup (fun ho hp j hj => waitsQ_of (hwt ho hp j hj)) (full.size - p) (fuel + 1) p l _ w (by omega) (Nat.le_refl _) hsz (by omega) hall hu hend
  ·have hex : ∃ x, x < p ∧ l.getD x false = false := by
    apply Classical.byContradiction
    intro hno
    apply hall
    intro i hi
    cases hb : l.getD i false with
    | true => rfl
    | false => exact absurd ⟨i, hi, hb⟩ hno
   obtain ⟨x, hx, hxf⟩ := hex
   refine ⟨fun hr => absurd hr (some_ready hup hsz (by omega) hxf), fun i hi => ?_⟩
   have hip := low_ready hwt hx hxf i hi
   obtain ⟨hun, o, ho, hedge⟩ := mem_ready.1 hi
   have ho' : ops[i]? = some o := by rw [← hfull i hip]; exact ho
   have hc' := count_set hun
   have hi0 : 0 < i := by
    rcases Nat.eq_zero_or_pos i with h | h
    ·subst h
     rw [(zV hun).1] at h0
     cases h0
    ·exact h
   obtain ⟨v, hk, hok⟩ := hqs hi0 ho'
   exact quiet_step hO hn hfull hgd hA hip ho' hk hedge hok (fun hA' => ih _ _ (by simp [hsz]) (by omega) (by rw [getD_set_ne false (by omega)]; exact h0) (fun j hj hj2 => by rw [getD_set_ne true (by omega)]; exact hu j hj hj2) hA')
/-- **The law**: the first operation is a call; what it answers, and leaves, is known behind it alone. -/
theorem region_open {full : Array Oper} {id : Nat} {a : Act} {w : World} (hm : P.follows .mixedOrders = true) (p : Nat) (qs : List Kind) (pre : List Oper) (F : Value → Act) (R : Value → World → Prop) (hpre : full.toList.take p = pre)
  (hF : ∀ v J, zY J 0 pre (.call v :: qs) a = F v) (hor : ∀ v, (orderly pre.toArray (.call v :: qs) a.tmps.size && guarded pre.toArray p && chained0 full p && decide (p ≤ full.size) && decide (0 < p)) = true)
  {o0 : Oper} (ho0 : pre[0]? = some o0) (hw0 : Region.wanted o0 (yielded pre.toArray (F undef).tmps) = true)
  (hx0 : ∀ w', Below w.heap.size w w' → ∃ f args, (execOp (F undef).eval o0).run P w' = .ok (.enter f args) w' ∧ Calls P f args w' (fun e w'' => ∃ v, e = .returned v ∧ Below w'.heap.size w' w'' ∧ R v w''))
  (hqs : ∀ v w', Below w.heap.size w w' → ∀ {i : Nat} {o : Oper}, 0 < i → pre[i]? = some o → ∃ u, (Kind.call v :: qs)[i]? = some (.q u) ∧ Region.wanted o (yielded pre.toArray (F v).tmps) = true ∧ (execOp (F v).eval o).run P w' = .ok (.value u) w')
  (hend : ∀ v w', Below w.heap.size w w' → R v w' → wpOps P full Q (List.range' p (full.size - p)) (F v) w') :
  (Code.region id full true).wp P Q a w := by
 subst hpre
 rw [← take_arr] at hor hw0 hqs
 have hor0 := hor undef
 simp only [Bool.and_eq_true, decide_eq_true_eq] at hor0
 obtain ⟨⟨⟨⟨_, h2⟩, h3⟩, h4⟩, hp0⟩ := hor0
 have hOr : ∀ v, Orderly (full.extract 0 p) (.call v :: qs) a.tmps.size := fun v => by
  have h := hor v
  simp only [Bool.and_eq_true, decide_eq_true_eq] at h
  exact Orderly.of h.1.1.1.1
 unfold chained0 at h3
 simp only [Bool.and_eq_true] at h3
 obtain ⟨h5, h6⟩ := h3
 have hup : ∀ {i : Nat} {o : Oper}, full[i]? = some o → ∀ e ∈ o.after, Region.binds .any e = true → e.on < i := fun ho e he hb => by
  have := Array.all_eq_true_iff_forall_mem.1 (zP h5 ho) e he
  simpa [hb] using this
 have hwt : ∀ {i : Nat} {o : Oper}, full[i]? = some o → p ≤ i → ∀ j, j < i → waits o j = true := fun ho hi j hj => by
  have := zP h6 ho
  simp only [Bool.or_eq_true, decide_eq_true_eq] at this
  rcases this with h7 | h7
  ·omega
  ·exact List.all_eq_true.1 h7 j (List.mem_range.2 hj)
 have hgd : ∀ {i : Nat} {o : Oper} {g : Nat} {b : Bool}, (full.extract 0 p)[i]? = some o → o.guard = some (g, b) → g < p := fun ho hg => guarded_spec h2 ho hg
 have hpl : (full.extract 0 p).toList = full.toList.take p := by rw [take_arr]
 have hFe : ∀ v J, zY J 0 (full.extract 0 p).toList (.call v :: qs) a = F v := fun v J => by rw [hpl]; exact hF v J
 have at_ : ∀ {i : Nat} {o : Oper}, (full.extract 0 p)[i]? = some o → (full.toList.take p)[i]? = some o := fun {i o} h => by rw [← hpl, Array.getElem?_toList]; exact h
 have hsz : (full.extract 0 p).size = p := by simp; omega
 have main : ∀ (fuel : Nat) (l : Array Bool) (a' : Act) (w' : World), l.size = full.size → l.toList.count false ≤ fuel → l.getD 0 true = false → (∀ i, p ≤ i → i < full.size → l.getD i true = false) → Agree (full.extract 0 p) (.call undef :: qs) a l (fun _ => 0) a' → Below w.heap.size w w' → wpAny P .any full Q fuel l a' w' := by
  intro fuel
  induction fuel with
  | zero =>
   intro l a' w' hs hc h0 _ _ _
   have := count_set h0
   omega
  | succ fuel ih =>
   intro l a' w' hs hc h0 hu hA hB
   have hf0 : l.getD 0 false = false := (zV h0).1
   refine ⟨fun hr => absurd hr (some_ready hup hs (by omega) hf0), fun i hi => ?_⟩
   have hip := low_ready hwt hp0 hf0 i hi
   obtain ⟨hun, o, ho, hedge⟩ := mem_ready.1 hi
   have ho' : (full.extract 0 p)[i]? = some o := by rw [← first_full hip]; exact ho
   have hc' := count_set hun
   rcases Nat.eq_zero_or_pos i with hi0 | hi0
   ·subst hi0
    have e0 : o = o0 := by
     have := (at_ ho').symm.trans ho0
     injection this
    subst e0
    obtain ⟨f, args, hx, hcl⟩ := hx0 w' hB
    refine enter_step (hOr undef) (fun i hi => first_full hi) hgd hA hip ho' hedge (by rw [hFe]; exact hw0) (by rw [hFe]; exact hx) hcl (fun v w2 hR => ?_)
    have hB2 : Below w.heap.size w w2 := hB.trans (hR.1.mono hB.size)
    have hA2 := (hA.other (hOr undef) (hOr v) rfl hf0).step (hOr v) rfl ho' (k := .call v) rfl (J' := fun _ => 0) (fun _ _ _ _ => rfl)
    refine open_after (hOr v) rfl hsz h4 (fun i hi => first_full hi) hgd hup hwt (J := fun _ => 0) (fun {j oj} hj hoj => ?_) ?_ fuel _ _ (by simp [hs]) (by omega) ((zV hun).2) (fun j hj hj2 => by rw [getD_set_ne true (by omega)]; exact hu j hj hj2) hA2
    ·rw [hFe]
     exact hqs v w2 hB2 hj (at_ hoj)
    ·rw [hFe]
     exact hend v w2 hB2 hR.2
   ·obtain ⟨u, hk, hok⟩ := hqs undef w' hB hi0 (at_ ho')
    exact quiet_step (hOr undef) rfl (fun i hi => first_full hi) hgd hA hip ho' hk hedge (by rw [hFe]; exact hok) (fun hA' => ih _ _ w' (by simp [hs]) (by omega) (by rw [getD_set_ne true (by omega)]; exact h0) (fun j hj hj2 => by rw [getD_set_ne true (by omega)]; exact hu j hj hj2) hA' hB)
 exact wp_region_any hm (main full.size _ a w.drew (by simp) (by simp) (none_listed' (by omega)) (fun i _ hi => none_listed' hi) (start_agree _ _) (Below.refl _ _).drew)
end
end Rg
end Go.Proofs.YtahghpkjkfaieaaGreatDoor
end
