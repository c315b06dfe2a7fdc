/- Texts of the proof, joined. -/
import Derived.Test.YtmcpagjhpfbpgaaGreatDoorProg
import Derived.Below
import Derived.BigQuiet
import Derived.ChangeKeysEq
import Derived.Deep.OwnRows
import Derived.Deep.RegionHeld3
import Derived.Laws.AppendOwn
import Derived.Laws.Bits64b
import Derived.Laws.Build
import Derived.Laws.BytesArg
import Derived.Laws.IdiomCopy
import Derived.Laws.NewBlocks
import Derived.Laws.OwnMore
import Derived.Laws.Pointers
import Derived.Laws.Shifts
import Derived.Laws.Unary
import Derived.Lib.Bytes
import Derived.Lib.SliceRun
import Derived.Lib.Slices
import Derived.Lib.Small
import Derived.Lib.Strings
import Derived.Lib.Walk
import Derived.LoopN
import Derived.Maps.AppendAt
import Derived.Orders
import Derived.RegionTactic
import Derived.WalkKit
import Derived.WalkSmall
import Derived.WalkSpells
import Derived.RangeFuncRecord
section
namespace Go.Proofs.YtmcpagjhpfbpgaaGreatDoor
open Go.RowKit
namespace Rg
namespace Wi
set_option maxRecDepth 100000
set_option maxHeartbeats 2000000 in
theorem made_n (w : World) : Calls Tryz.prog 42 #[.pointer none] w fun e w' => e = .returned (.bool false) ∧ w' = w := by
  go_enter Tryz.func42, Tryz.ntmps42
  go_wp2
  go_ret
  exact ⟨rfl, rfl⟩
set_option maxHeartbeats 2000000 in
theorem made_z (g : Nat) (w : World) (h : w.cell? ⟨g, 2, none⟩ = some (.pointer none)) : Calls Tryz.prog 42 #[.pointer (some ⟨g, 0, none⟩)] w fun e w' => e = .returned (.bool false) ∧ w' = w := by
  go_enter Tryz.func42, Tryz.ntmps42
  go_wp2
  go_ret
  exact ⟨rfl, rfl⟩
set_option maxHeartbeats 2000000 in
theorem sget_n (k : Value) (w : World) : Calls Tryz.prog 12 #[.pointer none, k] w fun e w' => e = .returned (.tuple #[.slice none 0 0, .bool false]) ∧ w' = w := by
  go_enter Tryz.func12, Tryz.ntmps12
  go_wp2_with (first
    | (go_at_call 42; refine (made_n w).mono ?_; rintro e w1 ⟨rfl, rfl⟩)
    | fail)
  go_ret2
  exact ⟨rfl, rfl⟩
set_option maxHeartbeats 2000000 in
theorem sget_z (g : Nat) (k : Value) (w : World) (h : w.cell? ⟨g, 2, none⟩ = some (.pointer none)) : Calls Tryz.prog 12 #[.pointer (some ⟨g, 0, none⟩), k] w fun e w' => e = .returned (.tuple #[.slice none 0 0, .bool false]) ∧ w' = w := by
  go_enter Tryz.func12, Tryz.ntmps12
  go_wp2_with (first
    | (go_at_call 42; refine (made_z g w h).mono ?_; rintro e w1 ⟨rfl, rfl⟩)
    | fail)
  go_ret2
  exact ⟨rfl, rfl⟩
set_option maxHeartbeats 2000000 in
theorem scommit_n (l : Value) (w : World) : Calls Tryz.prog 13 #[.pointer none, l] w fun e w' => e = .returned (.int .i64 1) ∧ w' = w := by
  go_enter Tryz.func13, Tryz.ntmps13
  go_wp2_with (first
    | (go_at_call 42; refine (made_n w).mono ?_; rintro e w1 ⟨rfl, rfl⟩)
    | fail)
  go_ret
  exact ⟨rfl, rfl⟩
set_option maxHeartbeats 2000000 in
theorem scommit_z (g : Nat) (l : Value) (w : World) (h : w.cell? ⟨g, 2, none⟩ = some (.pointer none)) : Calls Tryz.prog 13 #[.pointer (some ⟨g, 0, none⟩), l] w fun e w' => e = .returned (.int .i64 1) ∧ w' = w := by
  go_enter Tryz.func13, Tryz.ntmps13
  go_wp2_with (first
    | (go_at_call 42; refine (made_z g w h).mono ?_; rintro e w1 ⟨rfl, rfl⟩)
    | fail)
  go_ret
  exact ⟨rfl, rfl⟩
set_option maxHeartbeats 2000000 in
theorem ssync_n (w : World) : Calls Tryz.prog 14 #[.pointer none] w fun e w' => e = .returned (.int .i64 1) ∧ w' = w := by
  go_enter Tryz.func14, Tryz.ntmps14
  go_wp2_with (first
    | (go_at_call 42; refine (made_n w).mono ?_; rintro e w1 ⟨rfl, rfl⟩)
    | fail)
  go_ret
  exact ⟨rfl, rfl⟩
set_option maxHeartbeats 2000000 in
theorem ssync_z (g : Nat) (w : World) (h : w.cell? ⟨g, 2, none⟩ = some (.pointer none)) : Calls Tryz.prog 14 #[.pointer (some ⟨g, 0, none⟩)] w fun e w' => e = .returned (.int .i64 1) ∧ w' = w := by
  go_enter Tryz.func14, Tryz.ntmps14
  go_wp2_with (first
    | (go_at_call 42; refine (made_z g w h).mono ?_; rintro e w1 ⟨rfl, rfl⟩)
    | fail)
  go_ret
  exact ⟨rfl, rfl⟩
set_option maxHeartbeats 2000000 in
theorem scheck_n (w : World) : Calls Tryz.prog 15 #[.pointer none] w fun e w' => e = .returned (.int .i64 1) ∧ w' = w := by
  go_enter Tryz.func15, Tryz.ntmps15
  go_wp2_with (first
    | (go_at_call 42; refine (made_n w).mono ?_; rintro e w1 ⟨rfl, rfl⟩)
    | fail)
  go_ret
  exact ⟨rfl, rfl⟩
set_option maxHeartbeats 2000000 in
theorem scheck_z (g : Nat) (w : World) (h : w.cell? ⟨g, 2, none⟩ = some (.pointer none)) : Calls Tryz.prog 15 #[.pointer (some ⟨g, 0, none⟩)] w fun e w' => e = .returned (.int .i64 1) ∧ w' = w := by
  go_enter Tryz.func15, Tryz.ntmps15
  go_wp2_with (first
    | (go_at_call 42; refine (made_z g w h).mono ?_; rintro e w1 ⟨rfl, rfl⟩)
    | fail)
  go_ret
  exact ⟨rfl, rfl⟩
set_option maxHeartbeats 2000000 in
theorem spairs_n (w : World) : Calls Tryz.prog 16 #[.pointer none] w fun e w' => e = .returned (.slice none 0 0) ∧ w' = w := by
  go_enter Tryz.func16, Tryz.ntmps16
  go_wp2_with (first
    | (go_at_call 42; refine (made_n w).mono ?_; rintro e w1 ⟨rfl, rfl⟩)
    | fail)
  go_ret
  exact ⟨rfl, rfl⟩
set_option maxHeartbeats 2000000 in
theorem spairs_z (g : Nat) (w : World) (h : w.cell? ⟨g, 2, none⟩ = some (.pointer none)) : Calls Tryz.prog 16 #[.pointer (some ⟨g, 0, none⟩)] w fun e w' => e = .returned (.slice none 0 0) ∧ w' = w := by
  go_enter Tryz.func16, Tryz.ntmps16
  go_wp2_with (first
    | (go_at_call 42; refine (made_z g w h).mono ?_; rintro e w1 ⟨rfl, rfl⟩)
    | fail)
  go_ret
  exact ⟨rfl, rfl⟩
set_option maxHeartbeats 2000000 in
theorem slen_n (w : World) : Calls Tryz.prog 17 #[.pointer none] w fun e w' => e = .returned (.int .i64 0) ∧ w' = w := by
  go_enter Tryz.func17, Tryz.ntmps17
  go_wp2_with (first
    | (go_at_call 42; refine (made_n w).mono ?_; rintro e w1 ⟨rfl, rfl⟩)
    | fail)
  go_ret
  exact ⟨rfl, rfl⟩
set_option maxHeartbeats 2000000 in
theorem slen_z (g : Nat) (w : World) (h : w.cell? ⟨g, 2, none⟩ = some (.pointer none)) : Calls Tryz.prog 17 #[.pointer (some ⟨g, 0, none⟩)] w fun e w' => e = .returned (.int .i64 0) ∧ w' = w := by
  go_enter Tryz.func17, Tryz.ntmps17
  go_wp2_with (first
    | (go_at_call 42; refine (made_z g w h).mono ?_; rintro e w1 ⟨rfl, rfl⟩)
    | fail)
  go_ret
  exact ⟨rfl, rfl⟩
set_option maxHeartbeats 2000000 in
theorem sgen_n (w : World) : Calls Tryz.prog 18 #[.pointer none] w fun e w' => e = .returned (.int .i64 0) ∧ w' = w := by
  go_enter Tryz.func18, Tryz.ntmps18
  go_wp2_with (first
    | (go_at_call 42; refine (made_n w).mono ?_; rintro e w1 ⟨rfl, rfl⟩)
    | fail)
  go_ret
  exact ⟨rfl, rfl⟩
set_option maxHeartbeats 2000000 in
theorem sgen_z (g : Nat) (w : World) (h : w.cell? ⟨g, 2, none⟩ = some (.pointer none)) : Calls Tryz.prog 18 #[.pointer (some ⟨g, 0, none⟩)] w fun e w' => e = .returned (.int .i64 0) ∧ w' = w := by
  go_enter Tryz.func18, Tryz.ntmps18
  go_wp2_with (first
    | (go_at_call 42; refine (made_z g w h).mono ?_; rintro e w1 ⟨rfl, rfl⟩)
    | fail)
  go_ret
  exact ⟨rfl, rfl⟩
set_option maxHeartbeats 2000000 in
theorem dmade_n (w : World) : Calls Tryz.prog 61 #[.pointer none] w fun e w' => e = .returned (.bool false) ∧ w' = w := by
  go_enter Tryz.func61, Tryz.ntmps61
  go_wp2
  go_ret
  exact ⟨rfl, rfl⟩
theorem mapnil (w : World) : (binOp .neq 59 (.map none) (.map none)).run Tryz.prog w = .ok (.bool false) w := by kernel_rfl
set_option maxHeartbeats 2000000 in
theorem dmade_z (g : Nat) (w : World) (h : w.cell? ⟨g, 0, none⟩ = some (.map none)) : Calls Tryz.prog 61 #[.pointer (some ⟨g, 0, none⟩)] w fun e w' => e = .returned (.bool false) ∧ w' = w := by
  go_enter Tryz.func61, Tryz.ntmps61
  go_wp2
  rw [mapnil, Result.andThen_ok]
  go_wp2
  go_ret
  exact ⟨rfl, rfl⟩
set_option maxHeartbeats 2000000 in
theorem dfind_n (k : Value) (w : World) : Calls Tryz.prog 139 #[.pointer none, k] w fun e w' => e = .returned (.tuple #[.pointer none, .int .i64 1]) ∧ w' = w := by
  go_enter Tryz.func139, Tryz.ntmps139
  go_wp2_with (first
    | (go_at_call 61; refine (dmade_n w).mono ?_; rintro e w1 ⟨rfl, rfl⟩)
    | fail)
  go_ret2
  exact ⟨rfl, rfl⟩
set_option maxHeartbeats 2000000 in
theorem dfind_z (g : Nat) (k : Value) (w : World) (h : w.cell? ⟨g, 0, none⟩ = some (.map none)) : Calls Tryz.prog 139 #[.pointer (some ⟨g, 0, none⟩), k] w fun e w' => e = .returned (.tuple #[.pointer none, .int .i64 1]) ∧ w' = w := by
  go_enter Tryz.func139, Tryz.ntmps139
  go_wp2_with (first
    | (go_at_call 61; refine (dmade_z g w h).mono ?_; rintro e w1 ⟨rfl, rfl⟩)
    | fail)
  go_ret2
  exact ⟨rfl, rfl⟩
set_option maxHeartbeats 2000000 in
theorem dread_n (k : Value) (w : World) : Calls Tryz.prog 100 #[.pointer none, k] w fun e w' => e = .returned (.tuple #[.slice none 0 0, .int .i64 1]) ∧ w' = w := by
  go_enter Tryz.func100, Tryz.ntmps100
  go_wp2_with (first
    | (go_at_call 139; refine (dfind_n k w).mono ?_; rintro e w1 ⟨rfl, rfl⟩)
    | fail)
  go_ret2
  exact ⟨rfl, rfl⟩
set_option maxHeartbeats 2000000 in
theorem dread_z (g : Nat) (k : Value) (w : World) (h : w.cell? ⟨g, 0, none⟩ = some (.map none)) : Calls Tryz.prog 100 #[.pointer (some ⟨g, 0, none⟩), k] w fun e w' => e = .returned (.tuple #[.slice none 0 0, .int .i64 1]) ∧ w' = w := by
  go_enter Tryz.func100, Tryz.ntmps100
  go_wp2_with (first
    | (go_at_call 139; refine (dfind_z g k w h).mono ?_; rintro e w1 ⟨rfl, rfl⟩)
    | fail)
  go_ret2
  exact ⟨rfl, rfl⟩
set_option maxHeartbeats 2000000 in
theorem dwork_n (w : World) : Calls Tryz.prog 55 #[.pointer none] w fun e w' => e = .returned (.bool false) ∧ w' = w := by
  go_enter Tryz.func55, Tryz.ntmps55
  go_wp2_with (first
    | (go_at_call 100; refine (dread_n _ w).mono ?_; rintro e w1 ⟨rfl, rfl⟩)
    | fail)
  go_ret
  exact ⟨rfl, rfl⟩
set_option maxHeartbeats 2000000 in
theorem dwork_z (g : Nat) (w : World) (h : w.cell? ⟨g, 0, none⟩ = some (.map none)) : Calls Tryz.prog 55 #[.pointer (some ⟨g, 0, none⟩)] w fun e w' => e = .returned (.bool false) ∧ w' = w := by
  go_enter Tryz.func55, Tryz.ntmps55
  go_wp2_with (first
    | (go_at_call 100; refine (dread_z g _ w h).mono ?_; rintro e w1 ⟨rfl, rfl⟩)
    | fail)
  go_ret
  exact ⟨rfl, rfl⟩
set_option maxHeartbeats 2000000 in
theorem sopen_n (k : Value) (w : World) : Calls Tryz.prog 19 #[.pointer none, k] w fun e w' => e = .returned (.tuple #[.pointer none, .int .i64 1]) ∧ w' = w := by
  go_enter Tryz.func19, Tryz.ntmps19
  go_wp2_with (first
    | (go_at_call 55; refine (dwork_n w).mono ?_; rintro e w1 ⟨rfl, rfl⟩)
    | fail)
  go_ret2
  exact ⟨rfl, rfl⟩
set_option maxHeartbeats 2000000 in
theorem sopen_z (g : Nat) (k : Value) (w : World) (h : w.cell? ⟨g, 0, none⟩ = some (.map none)) : Calls Tryz.prog 19 #[.pointer (some ⟨g, 0, none⟩), k] w fun e w' => e = .returned (.tuple #[.pointer none, .int .i64 1]) ∧ w' = w := by
  go_enter Tryz.func19, Tryz.ntmps19
  go_wp2_with (first
    | (go_at_call 55; refine (dwork_z g w h).mono ?_; rintro e w1 ⟨rfl, rfl⟩)
    | fail)
  go_ret2
  exact ⟨rfl, rfl⟩
theorem zero_disk (u : World) : (u.alloc (.cells #[.map none, .map none, .int .i64 0] 62)).cell? ⟨u.heap.size, 0, none⟩ = some (.map none) := by
  have h := World.alloc_heap_new u (.cells #[.map none, .map none, .int .i64 0] 62)
  unfold World.cell?
  dsimp only
  rw [h]
  rfl
set_option maxHeartbeats 1000000 in
theorem storeNil_any (v0 v1 v2 : Value) (w : World) : Calls Tryz.prog 4 #[v0, v1, v2] w fun e w' => e = .returned (.bool true) ∧ Below w.heap.size w w' := by
  go_enter Tryz.func4, Tryz.ntmps4
  go_wp2
  have hs0 : (w.alloc (.cells #[.pointer none, .string ⟨#[]⟩, .pointer none, .int .i64 0, .map none] 48)).heap.size = w.heap.size + 1 := by simp
  generalize hA : (w.alloc (.cells #[.pointer none, .string ⟨#[]⟩, .pointer none, .int .i64 0, .map none] 48)) = wa
  have hba : Below w.heap.size w wa := by rw [← hA]; exact (Below.refl _ w).alloc (Nat.le_refl _) _
  have hca : wa.cell? ⟨w.heap.size, 2, none⟩ = some (.pointer none) := by
    rw [← hA]
    have h := World.alloc_heap_new w (.cells #[.pointer none, .string ⟨#[]⟩, .pointer none, .int .i64 0, .map none] 48)
    unfold World.cell?
    dsimp only
    rw [h]
    rfl
  have hsa : wa.heap.size = w.heap.size + 1 := by rw [← hA]; exact hs0
  clear hA hs0
  generalize hB : (wa.alloc (.cells #[.pointer none, .pointer (some ⟨w.heap.size, 0, none⟩)] 33)) = wb
  have hbb : Below w.heap.size w wb := by rw [← hB]; exact hba.trans (((Below.refl _ wa).alloc (Nat.le_refl _) _).mono hba.size)
  have hcb : wb.cell? ⟨w.heap.size, 2, none⟩ = some (.pointer none) := by
    rw [← hB, ((Below.refl _ wa).alloc (Nat.le_refl _) _).cell (p := ⟨w.heap.size, 2, none⟩) (show w.heap.size < wa.heap.size by omega)]
    exact hca
  have hc0 : wb.cell? ⟨w.heap.size + 1, 0, none⟩ = some (.pointer none) ∧ wb.cell? ⟨w.heap.size + 1, 1, none⟩ = some (.pointer (some ⟨w.heap.size, 0, none⟩)) := by
    rw [← hB]
    have h := World.alloc_heap_new wa (.cells #[.pointer none, .pointer (some ⟨w.heap.size, 0, none⟩)] 33)
    rw [hsa] at h
    constructor <;> (unfold World.cell?; dsimp only; rw [h]; rfl)
  have hsb : w.heap.size + 2 ≤ wb.heap.size := by rw [← hB]; simp; omega
  clear hB hca hba
  obtain ⟨hc0, hc1⟩ := hc0
  go_loopw [8] (fun v wr => ∃ i : Nat, v = .int .i64 (i : Int) ∧ i ≤ 2 ∧ wr = wb)
    (fun v _ => 2 - (RowKit.intOf v).toNat)
  case atStart => exact ⟨0, rfl, by omega, rfl⟩
  case round =>
    obtain ⟨i, rfl, hi, rfl⟩ := hrel
    obtain rfl | rfl | rfl : i = 0 ∨ i = 1 ∨ i = 2 := by omega
    · go_wp2_with (first
        | (go_at_call 12; refine (sget_n _ _).mono ?_; rintro e w1 ⟨rfl, rfl⟩)
        | (go_at_call 13; refine (scommit_n _ _).mono ?_; rintro e w1 ⟨rfl, rfl⟩)
        | (go_at_call 14; refine (ssync_n _).mono ?_; rintro e w1 ⟨rfl, rfl⟩)
        | (go_at_call 15; refine (scheck_n _).mono ?_; rintro e w1 ⟨rfl, rfl⟩)
        | (go_at_call 16; refine (spairs_n _).mono ?_; rintro e w1 ⟨rfl, rfl⟩)
        | (go_at_call 17; refine (slen_n _).mono ?_; rintro e w1 ⟨rfl, rfl⟩)
        | (go_at_call 18; refine (sgen_n _).mono ?_; rintro e w1 ⟨rfl, rfl⟩)
        | fail)
      go_roundw
      case rel => exact ⟨1, rfl, by omega, trivial⟩
      case measure => simp [RowKit.intOf]
    · go_wp2_with (first
        | (go_at_call 12; refine (sget_z _ _ _ hcb).mono ?_; rintro e w1 ⟨rfl, rfl⟩)
        | (go_at_call 13; refine (scommit_z _ _ _ hcb).mono ?_; rintro e w1 ⟨rfl, rfl⟩)
        | (go_at_call 14; refine (ssync_z _ _ hcb).mono ?_; rintro e w1 ⟨rfl, rfl⟩)
        | (go_at_call 15; refine (scheck_z _ _ hcb).mono ?_; rintro e w1 ⟨rfl, rfl⟩)
        | (go_at_call 16; refine (spairs_z _ _ hcb).mono ?_; rintro e w1 ⟨rfl, rfl⟩)
        | (go_at_call 17; refine (slen_z _ _ hcb).mono ?_; rintro e w1 ⟨rfl, rfl⟩)
        | (go_at_call 18; refine (sgen_z _ _ hcb).mono ?_; rintro e w1 ⟨rfl, rfl⟩)
        | fail)
      go_roundw
      case rel => exact ⟨2, rfl, by omega, trivial⟩
      case measure => simp [RowKit.intOf]
    · go_wp2_with (first
        | (go_at_call 19; refine (sopen_z _ _ _ hcd).mono ?_; rintro e w2 ⟨rfl, rfl⟩)
        | (go_at_call 19; refine (sopen_n _ _).mono ?_; rintro e w1 ⟨rfl, rfl⟩; have hcd := zero_disk w1)
        | fail)
      go_ret
      exact ⟨rfl, hbb.trans (((Below.refl _ _).alloc (Nat.le_refl _) _).mono hbb.size)⟩
end Wi
end Rg
end Go.Proofs.YtmcpagjhpfbpgaaGreatDoor
end
