/- Texts of the proof, joined. -/
import Derived.Test.YtnpbliikjlocjaaGreatDoorProg
import Derived.Below
import Derived.BigQuiet
import Derived.ChangeKeysEq
import Derived.Deep.OwnRows
import Derived.Deep.RegionHeld3
import Derived.Laws.AppendOwn
import Derived.Laws.Bits64b
import Derived.Laws.Build
import Derived.Laws.BytesArg
import Derived.Laws.IdiomCopy
import Derived.Laws.NewBlocks
import Derived.Laws.OwnMore
import Derived.Laws.Pointers
import Derived.Laws.Shifts
import Derived.Laws.Unary
import Derived.Lib.Bytes
import Derived.Lib.SliceRun
import Derived.Lib.Slices
import Derived.Lib.Small
import Derived.Lib.Strings
import Derived.Lib.Walk
import Derived.LoopN
import Derived.Maps.AppendAt
import Derived.Orders
import Derived.RegionTactic
import Derived.WalkKit
import Derived.WalkSmall
import Derived.WalkSpells
import Derived.RangeFuncRecord
section
namespace Go.Proofs.YtnpbliikjlocjaaGreatDoor
open Go.RowKit
namespace Rg
namespace Wi
set_option maxRecDepth 100000
set_option maxHeartbeats 2000000 in
theorem work_n (w : World) : Calls Tryz.prog 22 #[.pointer none] w fun e w' => e = .returned (.bool false) ∧ w' = w := by
  go_enter Tryz.func22, Tryz.ntmps22
  go_wp2
  go_ret
  exact ⟨rfl, rfl⟩
set_option maxHeartbeats 2000000 in
theorem work_z (g : Nat) (w : World) (h : w.cell? ⟨g, 0, none⟩ = some (.bool false)) : Calls Tryz.prog 22 #[.pointer (some ⟨g, 0, none⟩)] w fun e w' => e = .returned (.bool false) ∧ w' = w := by
  go_enter Tryz.func22, Tryz.ntmps22
  go_wp2
  go_ret
  exact ⟨rfl, rfl⟩
set_option maxHeartbeats 2000000 in
theorem fin_n (v : Value) (w : World) : Calls Tryz.prog 5 #[.pointer none, v] w fun e w' => e = .returned (.tuple #[.pointer none, .int .i64 1]) ∧ w' = w := by
  go_enter Tryz.func5, Tryz.ntmps5
  go_wp2
  go_ret2
  exact ⟨rfl, rfl⟩
set_option maxHeartbeats 2000000 in
theorem fin_z (g : Nat) (v : Value) (w : World) (h : w.cell? ⟨g, 0, none⟩ = some (.int .i64 0)) : Calls Tryz.prog 5 #[.pointer (some ⟨g, 0, none⟩), v] w fun e w' => e = .returned (.tuple #[.pointer none, .int .i64 1]) ∧ w' = w := by
  go_enter Tryz.func5, Tryz.ntmps5
  go_wp2
  go_ret2
  exact ⟨rfl, rfl⟩
set_option maxHeartbeats 2000000 in
theorem cseal_n (b : Value) (m : Value) (w : World) : Calls Tryz.prog 6 #[.pointer none, b, m] w fun e w' => e = .returned (.tuple #[.slice none 0 0, .int .i64 1]) ∧ w' = w := by
  go_enter Tryz.func6, Tryz.ntmps6
  go_wp2_with (first
    | (go_at_call 22; refine (work_n w).mono ?_; rintro e w1 ⟨rfl, rfl⟩)
    | fail)
  go_ret2
  exact ⟨rfl, rfl⟩
set_option maxHeartbeats 2000000 in
theorem cseal_z (g : Nat) (b : Value) (m : Value) (w : World) (h : w.cell? ⟨g, 0, none⟩ = some (.bool false)) : Calls Tryz.prog 6 #[.pointer (some ⟨g, 0, none⟩), b, m] w fun e w' => e = .returned (.tuple #[.slice none 0 0, .int .i64 1]) ∧ w' = w := by
  go_enter Tryz.func6, Tryz.ntmps6
  go_wp2_with (first
    | (go_at_call 22; refine (work_z g w h).mono ?_; rintro e w1 ⟨rfl, rfl⟩)
    | fail)
  go_ret2
  exact ⟨rfl, rfl⟩
set_option maxHeartbeats 2000000 in
theorem copen_n (b : Value) (m : Value) (w : World) : Calls Tryz.prog 7 #[.pointer none, b, m] w fun e w' => e = .returned (.tuple #[.slice none 0 0, .int .i64 1]) ∧ w' = w := by
  go_enter Tryz.func7, Tryz.ntmps7
  go_wp2_with (first
    | (go_at_call 22; refine (work_n w).mono ?_; rintro e w1 ⟨rfl, rfl⟩)
    | fail)
  go_ret2
  exact ⟨rfl, rfl⟩
set_option maxHeartbeats 2000000 in
theorem copen_z (g : Nat) (b : Value) (m : Value) (w : World) (h : w.cell? ⟨g, 0, none⟩ = some (.bool false)) : Calls Tryz.prog 7 #[.pointer (some ⟨g, 0, none⟩), b, m] w fun e w' => e = .returned (.tuple #[.slice none 0 0, .int .i64 1]) ∧ w' = w := by
  go_enter Tryz.func7, Tryz.ntmps7
  go_wp2_with (first
    | (go_at_call 22; refine (work_z g w h).mono ?_; rintro e w1 ⟨rfl, rfl⟩)
    | fail)
  go_ret2
  exact ⟨rfl, rfl⟩
set_option maxHeartbeats 2000000 in
theorem csent_n (w : World) : Calls Tryz.prog 8 #[.pointer none] w fun e w' => e = .returned (.int .i64 0) ∧ w' = w := by
  go_enter Tryz.func8, Tryz.ntmps8
  go_wp2_with (first
    | (go_at_call 22; refine (work_n w).mono ?_; rintro e w1 ⟨rfl, rfl⟩)
    | fail)
  go_ret
  exact ⟨rfl, rfl⟩
set_option maxHeartbeats 2000000 in
theorem csent_z (g : Nat) (w : World) (h : w.cell? ⟨g, 0, none⟩ = some (.bool false)) : Calls Tryz.prog 8 #[.pointer (some ⟨g, 0, none⟩)] w fun e w' => e = .returned (.int .i64 0) ∧ w' = w := by
  go_enter Tryz.func8, Tryz.ntmps8
  go_wp2_with (first
    | (go_at_call 22; refine (work_z g w h).mono ?_; rintro e w1 ⟨rfl, rfl⟩)
    | fail)
  go_ret
  exact ⟨rfl, rfl⟩
set_option maxHeartbeats 2000000 in
theorem chigh_n (w : World) : Calls Tryz.prog 9 #[.pointer none] w fun e w' => e = .returned (.int .i64 0) ∧ w' = w := by
  go_enter Tryz.func9, Tryz.ntmps9
  go_wp2_with (first
    | (go_at_call 22; refine (work_n w).mono ?_; rintro e w1 ⟨rfl, rfl⟩)
    | fail)
  go_ret
  exact ⟨rfl, rfl⟩
set_option maxHeartbeats 2000000 in
theorem chigh_z (g : Nat) (w : World) (h : w.cell? ⟨g, 0, none⟩ = some (.bool false)) : Calls Tryz.prog 9 #[.pointer (some ⟨g, 0, none⟩)] w fun e w' => e = .returned (.int .i64 0) ∧ w' = w := by
  go_enter Tryz.func9, Tryz.ntmps9
  go_wp2_with (first
    | (go_at_call 22; refine (work_z g w h).mono ?_; rintro e w1 ⟨rfl, rfl⟩)
    | fail)
  go_ret
  exact ⟨rfl, rfl⟩
theorem al_new (u : World) (C : Array Value) (T i : Nat) (v : Value) (h0 : C[i]? = some v) : (u.alloc (.cells C T)).cell? ⟨u.heap.size, i, none⟩ = some v := by
  have h := World.alloc_heap_new u (.cells C T)
  unfold World.cell?
  dsimp only
  rw [h]
  simpa using h0
theorem al_old (u : World) (o : Obj) {p : Addr} (hp : p.block < u.heap.size) : (u.alloc o).cell? p = u.cell? p := ((Below.refl _ u).alloc (Nat.le_refl _) o).cell hp
structure Cf (w wr : World) : Prop where
  b : Below w.heap.size w wr
  o : wr.cell? ⟨w.heap.size, 0, none⟩ = some (.int .i64 0)
  l0 : wr.cell? ⟨w.heap.size + 1, 0, none⟩ = some (.pointer none)
  l1 : wr.cell? ⟨w.heap.size + 1, 1, none⟩ = some (.pointer (some ⟨w.heap.size, 0, none⟩))
  c : wr.cell? ⟨w.heap.size + 1 + 1, 0, none⟩ = some (.bool false)
  k0 : wr.cell? ⟨w.heap.size + 1 + 1 + 1, 0, none⟩ = some (.pointer none)
  k1 : wr.cell? ⟨w.heap.size + 1 + 1 + 1, 1, none⟩ = some (.pointer (some ⟨w.heap.size + 1 + 1, 0, none⟩))
theorem cf_start (w : World) (C D : Array Value) (h1 : C[0]? = some (.int .i64 0)) (h3 : D[0]? = some (.bool false)) :
    Cf w ((((w.alloc (.cells C 38)).alloc (.cells #[.pointer none, .pointer (some ⟨w.heap.size, 0, none⟩)] 23)).alloc (.cells D 45)).alloc (.cells #[.pointer none, .pointer (some ⟨w.heap.size + 1 + 1, 0, none⟩)] 40)) := by
  have s1 : (w.alloc (.cells C 38)).heap.size = w.heap.size + 1 := by simp
  have s2 : ((w.alloc (.cells C 38)).alloc (.cells #[.pointer none, .pointer (some ⟨w.heap.size, 0, none⟩)] 23)).heap.size = w.heap.size + 1 + 1 := by simp
  have s3 : (((w.alloc (.cells C 38)).alloc (.cells #[.pointer none, .pointer (some ⟨w.heap.size, 0, none⟩)] 23)).alloc (.cells D 45)).heap.size = w.heap.size + 1 + 1 + 1 := by simp
  have n1 := al_new w C 38 0 _ h1
  have n2 := al_new (w.alloc (.cells C 38)) #[.pointer none, .pointer (some ⟨w.heap.size, 0, none⟩)] 23
  rw [s1] at n2
  have n3 := al_new ((w.alloc (.cells C 38)).alloc (.cells #[.pointer none, .pointer (some ⟨w.heap.size, 0, none⟩)] 23)) D 45 0 _ h3
  rw [s2] at n3
  have n4 := al_new (((w.alloc (.cells C 38)).alloc (.cells #[.pointer none, .pointer (some ⟨w.heap.size, 0, none⟩)] 23)).alloc (.cells D 45)) #[.pointer none, .pointer (some ⟨w.heap.size + 1 + 1, 0, none⟩)] 40
  rw [s3] at n4
  refine ⟨((((Below.refl _ w).alloc (Nat.le_refl _) _).alloc (by omega) _).alloc (by omega) _).alloc (by omega) _, ?_, ?_, ?_, ?_, n4 0 _ rfl, n4 1 _ rfl⟩
  · rw [al_old _ _ (show w.heap.size < _ by omega), al_old _ _ (show w.heap.size < _ by omega), al_old _ _ (show w.heap.size < _ by omega)]; exact n1
  · rw [al_old _ _ (show w.heap.size + 1 < _ by omega), al_old _ _ (show w.heap.size + 1 < _ by omega)]; exact n2 0 _ rfl
  · rw [al_old _ _ (show w.heap.size + 1 < _ by omega), al_old _ _ (show w.heap.size + 1 < _ by omega)]; exact n2 1 _ rfl
  · rw [al_old _ _ (show w.heap.size + 1 + 1 < _ by omega)]; exact n3
set_option maxHeartbeats 1000000 in
theorem channelNil_any (v0 v1 : Value) (w : World) : Calls Tryz.prog 3 #[v0, v1] w fun e w' => e = .returned (.bool true) ∧ Below w.heap.size w w' := by
  go_enter Tryz.func3, Tryz.ntmps3
  go_wp2
  go_loopw [7] (fun v wr => ∃ i : Nat, v = .int .i64 (i : Int) ∧ i ≤ 2 ∧ Cf w wr)
    (fun v _ => 2 - (RowKit.intOf v).toNat)
  case atStart => exact ⟨0, rfl, by omega, cf_start w _ _ rfl rfl⟩
  case round =>
    obtain ⟨i, rfl, hi, hb, ho, hl0, hl1, hc, hk0, hk1⟩ := hrel
    obtain rfl | rfl | rfl : i = 0 ∨ i = 1 ∨ i = 2 := by omega
    · have hf : Hid (Cf w wr) := ⟨hb, ho, hl0, hl1, hc, hk0, hk1⟩
      go_wp2_with (first
        | (go_at_call 5; refine (fin_n _ _).mono ?_; rintro e w1 ⟨rfl, rfl⟩)
        | (go_at_call 6; refine (cseal_n _ _ _).mono ?_; rintro e w1 ⟨rfl, rfl⟩)
        | (go_at_call 7; refine (copen_n _ _ _).mono ?_; rintro e w1 ⟨rfl, rfl⟩)
        | (go_at_call 8; refine (csent_n _).mono ?_; rintro e w1 ⟨rfl, rfl⟩)
        | (go_at_call 9; refine (chigh_n _).mono ?_; rintro e w1 ⟨rfl, rfl⟩)
        | fail)
      go_roundw
      case rel => exact ⟨1, rfl, by omega, hf.out⟩
      case measure => simp [RowKit.intOf]
    · have hf : Hid (Cf w wr) := ⟨hb, ho, hl0, hl1, hc, hk0, hk1⟩
      go_wp2_with (first
        | (go_at_call 5; refine (fin_z _ _ _ ho).mono ?_; rintro e w1 ⟨rfl, rfl⟩)
        | (go_at_call 6; refine (cseal_z _ _ _ _ hc).mono ?_; rintro e w1 ⟨rfl, rfl⟩)
        | (go_at_call 7; refine (copen_z _ _ _ _ hc).mono ?_; rintro e w1 ⟨rfl, rfl⟩)
        | (go_at_call 8; refine (csent_z _ _ hc).mono ?_; rintro e w1 ⟨rfl, rfl⟩)
        | (go_at_call 9; refine (chigh_z _ _ hc).mono ?_; rintro e w1 ⟨rfl, rfl⟩)
        | fail)
      go_roundw
      case rel => exact ⟨2, rfl, by omega, hf.out⟩
      case measure => simp [RowKit.intOf]
    · go_wp2
      go_ret
      exact ⟨rfl, hb⟩
end Wi
end Rg
end Go.Proofs.YtnpbliikjlocjaaGreatDoor
end
