/- Texts of the proof, joined. -/
import Derived.Test.YtiopefgajapapaaGreatDoorProg
import Derived.Below
import Derived.BigQuiet
import Derived.ChangeKeysEq
import Derived.Deep.OwnRows
import Derived.Deep.RegionHeld3
import Derived.Laws.AppendOwn
import Derived.Laws.Bits64b
import Derived.Laws.Build
import Derived.Laws.BytesArg
import Derived.Laws.IdiomCopy
import Derived.Laws.NewBlocks
import Derived.Laws.OwnMore
import Derived.Laws.Pointers
import Derived.Laws.Shifts
import Derived.Laws.Unary
import Derived.Lib.Bytes
import Derived.Lib.SliceRun
import Derived.Lib.Slices
import Derived.Lib.Small
import Derived.Lib.Strings
import Derived.Lib.Walk
import Derived.LoopN
import Derived.Maps.AppendAt
import Derived.Orders
import Derived.RegionTactic
import Derived.WalkKit
import Derived.WalkSmall
import Derived.WalkSpells
import Derived.RangeFuncRecord
section
namespace Go.Proofs.YtiopefgajapapaaGreatDoor
open Go.RowKit
namespace Rg
namespace Wi
set_option maxRecDepth 100000
theorem al_new (u : World) (C : Array Value) (T i : Nat) (v : Value) (h0 : C[i]? = some v) : (u.alloc (.cells C T)).cell? ⟨u.heap.size, i, none⟩ = some v := by
  have h := World.alloc_heap_new u (.cells C T)
  unfold World.cell?
  dsimp only
  rw [h]
  simpa using h0
theorem al_old (u : World) (o : Obj) {p : Addr} (hp : p.block < u.heap.size) : (u.alloc o).cell? p = u.cell? p := ((Below.refl _ u).alloc (Nat.le_refl _) o).cell hp
set_option maxHeartbeats 2000000 in
theorem work_n (w : World) : Calls Tryz.prog 22 #[.pointer none] w fun e w' => e = .returned (.bool false) ∧ w' = w := by
  go_enter Tryz.func22, Tryz.ntmps22
  go_wp2
  go_ret
  exact ⟨rfl, rfl⟩
set_option maxHeartbeats 2000000 in
theorem work_z (g : Nat) (w : World) (h : w.cell? ⟨g, 15, none⟩ = some (.pointer none)) : Calls Tryz.prog 22 #[.pointer (some ⟨g, 0, none⟩)] w fun e w' => e = .returned (.bool false) ∧ w' = w := by
  go_enter Tryz.func22, Tryz.ntmps22
  go_wp2
  go_ret
  exact ⟨rfl, rfl⟩
set_option maxHeartbeats 2000000 in
theorem osub_n (b : Value) (m : Value) (w : World) : Calls Tryz.prog 5 #[.pointer none, b, m] w fun e w' => e = .returned (.tuple #[.slice none 0 0, .int .i64 1]) ∧ w' = w := by
  go_enter Tryz.func5, Tryz.ntmps5
  go_wp2_with (first
    | (go_at_call 22; refine (work_n w).mono ?_; rintro e w1 ⟨rfl, rfl⟩)
    | go_in)
  go_ret2
  exact ⟨rfl, rfl⟩
set_option maxHeartbeats 2000000 in
theorem osub_z (g : Nat) (b : Value) (m : Value) (w : World) (h : w.cell? ⟨g, 15, none⟩ = some (.pointer none)) : Calls Tryz.prog 5 #[.pointer (some ⟨g, 0, none⟩), b, m] w fun e w' => e = .returned (.tuple #[.slice none 0 0, .int .i64 1]) ∧ w' = w := by
  go_enter Tryz.func5, Tryz.ntmps5
  go_wp2_with (first
    | (go_at_call 22; refine (work_z g w h).mono ?_; rintro e w1 ⟨rfl, rfl⟩)
    | go_in)
  go_ret2
  exact ⟨rfl, rfl⟩
set_option maxHeartbeats 2000000 in
theorem otake_n (a : Value) (b : Value) (m : Value) (w : World) : Calls Tryz.prog 6 #[.pointer none, a, b, m] w fun e w' => e = .returned (.tuple #[.slice none 0 0, .int .i64 1]) ∧ w' = w := by
  go_enter Tryz.func6, Tryz.ntmps6
  go_wp2_with (first
    | (go_at_call 22; refine (work_n w).mono ?_; rintro e w1 ⟨rfl, rfl⟩)
    | go_in)
  go_ret2
  exact ⟨rfl, rfl⟩
set_option maxHeartbeats 2000000 in
theorem otake_z (g : Nat) (a : Value) (b : Value) (m : Value) (w : World) (h : w.cell? ⟨g, 15, none⟩ = some (.pointer none)) : Calls Tryz.prog 6 #[.pointer (some ⟨g, 0, none⟩), a, b, m] w fun e w' => e = .returned (.tuple #[.slice none 0 0, .int .i64 1]) ∧ w' = w := by
  go_enter Tryz.func6, Tryz.ntmps6
  go_wp2_with (first
    | (go_at_call 22; refine (work_z g w h).mono ?_; rintro e w1 ⟨rfl, rfl⟩)
    | go_in)
  go_ret2
  exact ⟨rfl, rfl⟩
set_option maxHeartbeats 2000000 in
theorem otick_n (m : Value) (w : World) : Calls Tryz.prog 7 #[.pointer none, m] w fun e w' => e = .returned (.tuple #[.slice none 0 0, .int .i64 1]) ∧ w' = w := by
  go_enter Tryz.func7, Tryz.ntmps7
  go_wp2_with (first
    | (go_at_call 22; refine (work_n w).mono ?_; rintro e w1 ⟨rfl, rfl⟩)
    | go_in)
  go_ret2
  exact ⟨rfl, rfl⟩
set_option maxHeartbeats 2000000 in
theorem otick_z (g : Nat) (m : Value) (w : World) (h : w.cell? ⟨g, 15, none⟩ = some (.pointer none)) : Calls Tryz.prog 7 #[.pointer (some ⟨g, 0, none⟩), m] w fun e w' => e = .returned (.tuple #[.slice none 0 0, .int .i64 1]) ∧ w' = w := by
  go_enter Tryz.func7, Tryz.ntmps7
  go_wp2_with (first
    | (go_at_call 22; refine (work_z g w h).mono ?_; rintro e w1 ⟨rfl, rfl⟩)
    | go_in)
  go_ret2
  exact ⟨rfl, rfl⟩
set_option maxHeartbeats 2000000 in
theorem onext_n (w : World) : Calls Tryz.prog 8 #[.pointer none] w fun e w' => e = .returned (.tuple #[.int .i64 0, .bool false]) ∧ w' = w := by
  go_enter Tryz.func8, Tryz.ntmps8
  go_wp2_with (first
    | (go_at_call 22; refine (work_n w).mono ?_; rintro e w1 ⟨rfl, rfl⟩)
    | go_in)
  go_ret2
  exact ⟨rfl, rfl⟩
set_option maxHeartbeats 2000000 in
theorem onext_z (g : Nat) (w : World) (h : w.cell? ⟨g, 15, none⟩ = some (.pointer none)) : Calls Tryz.prog 8 #[.pointer (some ⟨g, 0, none⟩)] w fun e w' => e = .returned (.tuple #[.int .i64 0, .bool false]) ∧ w' = w := by
  go_enter Tryz.func8, Tryz.ntmps8
  go_wp2_with (first
    | (go_at_call 22; refine (work_z g w h).mono ?_; rintro e w1 ⟨rfl, rfl⟩)
    | go_in)
  go_ret2
  exact ⟨rfl, rfl⟩
set_option maxHeartbeats 2000000 in
theorem odec_n (w : World) : Calls Tryz.prog 34 #[.pointer none, .int .i64 0] w fun e w' => e = .returned (.tuple #[.agg #[.slice none 0 0, .slice none 0 0], .int .i64 1]) ∧ Below w.heap.size w w' := by
  go_enter Tryz.func34, Tryz.ntmps34
  go_wp2_with (first
    | (go_at_call 22; refine (work_n _).mono ?_; rintro e w1 ⟨rfl, rfl⟩)
    | fail)
  refine bodyPost_ret (v := .tuple #[.agg #[.slice none 0 0, .slice none 0 0], .int .i64 1]) (by simp [results, Tryz.results34, go_sem]) rfl ?_
  exact ⟨rfl, (Below.refl _ _).alloc (Nat.le_refl _) _⟩
set_option maxHeartbeats 2000000 in
theorem odec_z (g : Nat) (w : World) (h : w.cell? ⟨g, 15, none⟩ = some (.pointer none)) (hg : g < w.heap.size) : Calls Tryz.prog 34 #[.pointer (some ⟨g, 0, none⟩), .int .i64 0] w fun e w' => e = .returned (.tuple #[.agg #[.slice none 0 0, .slice none 0 0], .int .i64 1]) ∧ Below w.heap.size w w' := by
  go_enter Tryz.func34, Tryz.ntmps34
  go_wp2_with (first
    | (go_at_call 22; refine (work_z g _ (by first | exact h | exact (al_old _ _ hg).trans h)).mono ?_; rintro e w1 ⟨rfl, rfl⟩)
    | fail)
  refine bodyPost_ret (v := .tuple #[.agg #[.slice none 0 0, .slice none 0 0], .int .i64 1]) (by simp [results, Tryz.results34, go_sem]) rfl ?_
  exact ⟨rfl, (Below.refl _ _).alloc (Nat.le_refl _) _⟩
set_option maxHeartbeats 2000000 in
theorem bclone (w : World) : Calls Tryz.prog 27 #[.slice none 0 0] w fun e w' => e = .returned (.slice none 0 0) ∧ w' = w := by
  go_enter Tryz.func27, Tryz.ntmps27
  go_wp2
  rw [show (Sem.run Tryz.prog (binOp BinOp.eql 22 (Value.slice none 0 0) (Value.slice none 0 0)) w) = .ok (.bool true) w from by kernel_rfl]
  go_wp2
  go_ret
  exact ⟨rfl, rfl⟩
set_option maxHeartbeats 2000000 in
theorem oord_n (w : World) : Calls Tryz.prog 9 #[.pointer none, .int .i64 0] w fun e w' => e = .returned (.tuple #[.slice none 0 0, .int .i64 1]) ∧ Below w.heap.size w w' := by
  go_enter Tryz.func9, Tryz.ntmps9
  go_wp2_with (first
    | (go_at_call 34; refine (odec_n _).mono ?_; rintro e w1 ⟨rfl, hb1⟩)
    | (go_at_call 27; refine (bclone _).mono ?_; rintro e w1 ⟨rfl, rfl⟩)
    | fail)
  go_ret2
  have hb0 := (Below.refl _ w).alloc (Nat.le_refl _) (.cells #[.slice none 0 0, .slice none 0 0] 94)
  first
    | exact ⟨rfl, hb1⟩
    | exact ⟨rfl, hb0.trans (hb1.mono hb0.size)⟩
    | exact ⟨rfl, hb1.alloc hb1.size _⟩
    | (refine ⟨rfl, ?_⟩; trace_state; done)
set_option maxHeartbeats 2000000 in
theorem oord_z (g : Nat) (w : World) (h : w.cell? ⟨g, 15, none⟩ = some (.pointer none)) (hg : g < w.heap.size) : Calls Tryz.prog 9 #[.pointer (some ⟨g, 0, none⟩), .int .i64 0] w fun e w' => e = .returned (.tuple #[.slice none 0 0, .int .i64 1]) ∧ Below w.heap.size w w' := by
  go_enter Tryz.func9, Tryz.ntmps9
  go_wp2_with (first
    | (go_at_call 34; refine (odec_z g _ (by first | exact h | exact (al_old _ _ hg).trans h) (by first | exact hg | (simp; omega))).mono ?_; rintro e w1 ⟨rfl, hb1⟩)
    | (go_at_call 27; refine (bclone _).mono ?_; rintro e w1 ⟨rfl, rfl⟩)
    | fail)
  go_ret2
  have hb0 := (Below.refl _ w).alloc (Nat.le_refl _) (.cells #[.slice none 0 0, .slice none 0 0] 94)
  first
    | exact ⟨rfl, hb1⟩
    | exact ⟨rfl, hb0.trans (hb1.mono hb0.size)⟩
    | exact ⟨rfl, hb1.alloc hb1.size _⟩
    | (refine ⟨rfl, ?_⟩; trace_state; done)
set_option maxHeartbeats 2000000 in
theorem odcd_n (w : World) : Calls Tryz.prog 10 #[.pointer none, .int .i64 0] w fun e w' => e = .returned (.tuple #[.slice none 0 0, .int .i64 1]) ∧ Below w.heap.size w w' := by
  go_enter Tryz.func10, Tryz.ntmps10
  go_wp2_with (first
    | (go_at_call 34; refine (odec_n _).mono ?_; rintro e w1 ⟨rfl, hb1⟩)
    | (go_at_call 27; refine (bclone _).mono ?_; rintro e w1 ⟨rfl, rfl⟩)
    | fail)
  go_ret2
  have hb0 := (Below.refl _ w).alloc (Nat.le_refl _) (.cells #[.slice none 0 0, .slice none 0 0] 94)
  first
    | exact ⟨rfl, hb1⟩
    | exact ⟨rfl, hb0.trans (hb1.mono hb0.size)⟩
    | exact ⟨rfl, hb1.alloc hb1.size _⟩
    | (refine ⟨rfl, ?_⟩; trace_state; done)
set_option maxHeartbeats 2000000 in
theorem odcd_z (g : Nat) (w : World) (h : w.cell? ⟨g, 15, none⟩ = some (.pointer none)) (hg : g < w.heap.size) : Calls Tryz.prog 10 #[.pointer (some ⟨g, 0, none⟩), .int .i64 0] w fun e w' => e = .returned (.tuple #[.slice none 0 0, .int .i64 1]) ∧ Below w.heap.size w w' := by
  go_enter Tryz.func10, Tryz.ntmps10
  go_wp2_with (first
    | (go_at_call 34; refine (odec_z g _ (by first | exact h | exact (al_old _ _ hg).trans h) (by first | exact hg | (simp; omega))).mono ?_; rintro e w1 ⟨rfl, hb1⟩)
    | (go_at_call 27; refine (bclone _).mono ?_; rintro e w1 ⟨rfl, rfl⟩)
    | fail)
  go_ret2
  have hb0 := (Below.refl _ w).alloc (Nat.le_refl _) (.cells #[.slice none 0 0, .slice none 0 0] 94)
  first
    | exact ⟨rfl, hb1⟩
    | exact ⟨rfl, hb0.trans (hb1.mono hb0.size)⟩
    | exact ⟨rfl, hb1.alloc hb1.size _⟩
    | (refine ⟨rfl, ?_⟩; trace_state; done)
set_option maxHeartbeats 2000000 in
theorem oplace_n (w : World) : Calls Tryz.prog 11 #[.pointer none] w fun e w' => e = .returned (.int .i64 0) ∧ w' = w := by
  go_enter Tryz.func11, Tryz.ntmps11
  go_wp2_with (first
    | (go_at_call 22; refine (work_n w).mono ?_; rintro e w1 ⟨rfl, rfl⟩)
    | go_in)
  go_ret
  exact ⟨rfl, rfl⟩
set_option maxHeartbeats 2000000 in
theorem oplace_z (g : Nat) (w : World) (h : w.cell? ⟨g, 15, none⟩ = some (.pointer none)) : Calls Tryz.prog 11 #[.pointer (some ⟨g, 0, none⟩)] w fun e w' => e = .returned (.int .i64 0) ∧ w' = w := by
  go_enter Tryz.func11, Tryz.ntmps11
  go_wp2_with (first
    | (go_at_call 22; refine (work_z g w h).mono ?_; rintro e w1 ⟨rfl, rfl⟩)
    | go_in)
  go_ret
  exact ⟨rfl, rfl⟩
set_option maxHeartbeats 2000000 in
theorem oview_n (w : World) : Calls Tryz.prog 12 #[.pointer none] w fun e w' => e = .returned (.int .i64 0) ∧ w' = w := by
  go_enter Tryz.func12, Tryz.ntmps12
  go_wp2_with (first
    | (go_at_call 22; refine (work_n w).mono ?_; rintro e w1 ⟨rfl, rfl⟩)
    | go_in)
  go_ret
  exact ⟨rfl, rfl⟩
set_option maxHeartbeats 2000000 in
theorem oview_z (g : Nat) (w : World) (h : w.cell? ⟨g, 15, none⟩ = some (.pointer none)) : Calls Tryz.prog 12 #[.pointer (some ⟨g, 0, none⟩)] w fun e w' => e = .returned (.int .i64 0) ∧ w' = w := by
  go_enter Tryz.func12, Tryz.ntmps12
  go_wp2_with (first
    | (go_at_call 22; refine (work_z g w h).mono ?_; rintro e w1 ⟨rfl, rfl⟩)
    | go_in)
  go_ret
  exact ⟨rfl, rfl⟩
set_option maxHeartbeats 2000000 in
theorem owait_n (w : World) : Calls Tryz.prog 13 #[.pointer none] w fun e w' => e = .returned (.int .i64 0) ∧ w' = w := by
  go_enter Tryz.func13, Tryz.ntmps13
  go_wp2_with (first
    | (go_at_call 22; refine (work_n w).mono ?_; rintro e w1 ⟨rfl, rfl⟩)
    | go_in)
  go_ret
  exact ⟨rfl, rfl⟩
set_option maxHeartbeats 2000000 in
theorem owait_z (g : Nat) (w : World) (h : w.cell? ⟨g, 15, none⟩ = some (.pointer none)) : Calls Tryz.prog 13 #[.pointer (some ⟨g, 0, none⟩)] w fun e w' => e = .returned (.int .i64 0) ∧ w' = w := by
  go_enter Tryz.func13, Tryz.ntmps13
  go_wp2_with (first
    | (go_at_call 22; refine (work_z g w h).mono ?_; rintro e w1 ⟨rfl, rfl⟩)
    | go_in)
  go_ret
  exact ⟨rfl, rfl⟩
set_option maxHeartbeats 2000000 in
theorem osave_n (w : World) : Calls Tryz.prog 14 #[.pointer none] w fun e w' => e = .returned (.slice none 0 0) ∧ w' = w := by
  go_enter Tryz.func14, Tryz.ntmps14
  go_wp2_with (first
    | (go_at_call 22; refine (work_n w).mono ?_; rintro e w1 ⟨rfl, rfl⟩)
    | go_in)
  go_ret
  exact ⟨rfl, rfl⟩
set_option maxHeartbeats 2000000 in
theorem osave_z (g : Nat) (w : World) (h : w.cell? ⟨g, 15, none⟩ = some (.pointer none)) : Calls Tryz.prog 14 #[.pointer (some ⟨g, 0, none⟩)] w fun e w' => e = .returned (.slice none 0 0) ∧ w' = w := by
  go_enter Tryz.func14, Tryz.ntmps14
  go_wp2_with (first
    | (go_at_call 22; refine (work_z g w h).mono ?_; rintro e w1 ⟨rfl, rfl⟩)
    | go_in)
  go_ret
  exact ⟨rfl, rfl⟩
set_option maxHeartbeats 2000000 in
theorem odoub_n (w : World) : Calls Tryz.prog 15 #[.pointer none] w fun e w' => e = .returned (.slice none 0 0) ∧ w' = w := by
  go_enter Tryz.func15, Tryz.ntmps15
  go_wp2_with (first
    | (go_at_call 22; refine (work_n w).mono ?_; rintro e w1 ⟨rfl, rfl⟩)
    | go_in)
  go_ret
  exact ⟨rfl, rfl⟩
set_option maxHeartbeats 2000000 in
theorem odoub_z (g : Nat) (w : World) (h : w.cell? ⟨g, 15, none⟩ = some (.pointer none)) : Calls Tryz.prog 15 #[.pointer (some ⟨g, 0, none⟩)] w fun e w' => e = .returned (.slice none 0 0) ∧ w' = w := by
  go_enter Tryz.func15, Tryz.ntmps15
  go_wp2_with (first
    | (go_at_call 22; refine (work_z g w h).mono ?_; rintro e w1 ⟨rfl, rfl⟩)
    | go_in)
  go_ret
  exact ⟨rfl, rfl⟩
structure Cf (w wr : World) : Prop where
  b : Below w.heap.size w wr
  c : wr.cell? ⟨w.heap.size, 15, none⟩ = some (.pointer none)
  k0 : wr.cell? ⟨w.heap.size + 1, 0, none⟩ = some (.pointer none)
  k1 : wr.cell? ⟨w.heap.size + 1, 1, none⟩ = some (.pointer (some ⟨w.heap.size, 0, none⟩))
theorem Cf.lt {w u : World} (h : Cf w u) : w.heap.size + 1 < u.heap.size := World.block_lt_of_cell? u ⟨w.heap.size + 1, 0, none⟩ h.k0
theorem Cf.step {w u u' : World} (h : Cf w u) (hb : Below u.heap.size u u') : Cf w u' :=
  ⟨h.b.trans (hb.mono h.b.size), (hb.cell (p := ⟨_, 15, none⟩) (by have := h.lt; show w.heap.size < _; omega)).trans h.c, (hb.cell (p := ⟨_, 0, none⟩) h.lt).trans h.k0, (hb.cell (p := ⟨_, 1, none⟩) h.lt).trans h.k1⟩
theorem cf_start (w : World) (C : Array Value) (h1 : C[15]? = some (.pointer none)) :
    Cf w ((w.alloc (.cells C 48)).alloc (.cells #[.pointer none, .pointer (some ⟨w.heap.size, 0, none⟩)] 23)) := by
  have s1 : (w.alloc (.cells C 48)).heap.size = w.heap.size + 1 := by simp
  have n1 := al_new w C 48 15 _ h1
  have n2 := al_new (w.alloc (.cells C 48)) #[.pointer none, .pointer (some ⟨w.heap.size, 0, none⟩)] 23
  rw [s1] at n2
  refine ⟨((Below.refl _ w).alloc (Nat.le_refl _) _).alloc (by omega) _, ?_, n2 0 _ rfl, n2 1 _ rfl⟩
  rw [al_old _ _ (show w.heap.size < _ by omega)]
  exact n1
set_option maxHeartbeats 4000000 in
theorem orderNil_any (v0 v1 v2 : Value) (w : World) : Calls Tryz.prog 3 #[v0, v1, v2] w fun e w' => e = .returned (.bool true) ∧ Below w.heap.size w w' := by
  go_enter Tryz.func3, Tryz.ntmps3
  go_wp2
  go_loopw [8] (fun v wr => ∃ i : Nat, v = .int .i64 (i : Int) ∧ i ≤ 2 ∧ Cf w wr)
    (fun v _ => 2 - (RowKit.intOf v).toNat)
  case atStart => exact ⟨0, rfl, by omega, cf_start w _ (by kernel_rfl)⟩
  case round =>
    obtain ⟨i, rfl, hi, hb, hc, hk0, hk1⟩ := hrel
    obtain rfl | rfl | rfl : i = 0 ∨ i = 1 ∨ i = 2 := by omega
    · have hf : Hid (Cf w wr) := ⟨hb, hc, hk0, hk1⟩
      go_wp2_with (first
        | (go_at_call 5; refine (osub_n _ _ _).mono ?_; rintro e w5 ⟨rfl, rfl⟩)
        | (go_at_call 6; refine (otake_n _ _ _ _).mono ?_; rintro e w6 ⟨rfl, rfl⟩)
        | (go_at_call 7; refine (otick_n _ _).mono ?_; rintro e w7 ⟨rfl, rfl⟩)
        | (go_at_call 8; refine (onext_n _).mono ?_; rintro e w8 ⟨rfl, rfl⟩)
        | (go_at_call 9; refine (oord_n _).mono ?_; rintro e w9 ⟨rfl, hb9⟩; have hf9 : Hid (Cf w w9) := hf.out.step hb9)
        | (go_at_call 10; refine (odcd_n _).mono ?_; rintro e w10 ⟨rfl, hb10⟩; have hf10 : Hid (Cf w w10) := hf9.out.step hb10)
        | (go_at_call 11; refine (oplace_n _).mono ?_; rintro e w11 ⟨rfl, rfl⟩)
        | (go_at_call 12; refine (oview_n _).mono ?_; rintro e w12 ⟨rfl, rfl⟩)
        | (go_at_call 13; refine (owait_n _).mono ?_; rintro e w13 ⟨rfl, rfl⟩)
        | (go_at_call 14; refine (osave_n _).mono ?_; rintro e w14 ⟨rfl, rfl⟩)
        | (go_at_call 15; refine (odoub_n _).mono ?_; rintro e w15 ⟨rfl, rfl⟩)
        | fail)
      go_roundw
      case rel => exact ⟨1, rfl, by omega, hf10.out⟩
      case measure => simp [RowKit.intOf]
    · have hf : Hid (Cf w wr) := ⟨hb, hc, hk0, hk1⟩
      go_wp2_with (first
        | (go_at_call 5; refine (osub_z _ _ _ _ hf.out.c).mono ?_; rintro e w5 ⟨rfl, rfl⟩)
        | (go_at_call 6; refine (otake_z _ _ _ _ _ hf.out.c).mono ?_; rintro e w6 ⟨rfl, rfl⟩)
        | (go_at_call 7; refine (otick_z _ _ _ hf.out.c).mono ?_; rintro e w7 ⟨rfl, rfl⟩)
        | (go_at_call 8; refine (onext_z _ _ hf.out.c).mono ?_; rintro e w8 ⟨rfl, rfl⟩)
        | (go_at_call 9; refine (oord_z _ _ hf.out.c (by have := hf.out.lt; omega)).mono ?_; rintro e w9 ⟨rfl, hb9⟩; have hf9 : Hid (Cf w w9) := hf.out.step hb9)
        | (go_at_call 10; refine (odcd_z _ _ hf9.out.c (by have := hf9.out.lt; omega)).mono ?_; rintro e w10 ⟨rfl, hb10⟩; have hf10 : Hid (Cf w w10) := hf9.out.step hb10)
        | (go_at_call 11; refine (oplace_z _ _ hf10.out.c).mono ?_; rintro e w11 ⟨rfl, rfl⟩)
        | (go_at_call 12; refine (oview_z _ _ hf10.out.c).mono ?_; rintro e w12 ⟨rfl, rfl⟩)
        | (go_at_call 13; refine (owait_z _ _ hf10.out.c).mono ?_; rintro e w13 ⟨rfl, rfl⟩)
        | (go_at_call 14; refine (osave_z _ _ hf10.out.c).mono ?_; rintro e w14 ⟨rfl, rfl⟩)
        | (go_at_call 15; refine (odoub_z _ _ hf10.out.c).mono ?_; rintro e w15 ⟨rfl, rfl⟩)
        | fail)
      go_roundw
      case rel => exact ⟨2, rfl, by omega, hf10.out⟩
      case measure => simp [RowKit.intOf]
    · go_wp2
      go_ret
      exact ⟨rfl, hb⟩
end Wi
end Rg
end Go.Proofs.YtiopefgajapapaaGreatDoor
end
