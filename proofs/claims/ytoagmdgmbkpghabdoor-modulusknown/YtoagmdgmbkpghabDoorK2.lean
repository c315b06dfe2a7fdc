/- The law ModulusKnown -/
import Derived.Test.YtoagmdgmbkpghabDoorK1
import Derived.Test.YtoagmdgmbkpghabDoorF2
import Derived.Test.YtoagmdgmbkpghabDoorA24
namespace Go.Proofs.YtoagmdgmbkpghabDoor
open Go.RowKit
namespace Rg

theorem ok9 : Ok 9 := ⟨by decide, by decide, Nat.lt_of_le_of_lt (by decide : 4 * 9 ≤ 36) (small_big 36 (by decide))⟩
theorem ok13 : Ok 13 := ⟨by decide, by decide, Nat.lt_of_le_of_lt (by decide : 4 * 13 ≤ 52) (small_big 52 (by decide))⟩
theorem txt_pB : txt pB = tpL := by decide +kernel
theorem txt_rB : txt rB = trL := by decide +kernel
theorem wide7 : (0 + 1 * big) % 7 = 1 := by decide +kernel
theorem known_any (w : World) (hm : Mm w [(0, dtab)]) : Calls Tryd.prog 4 #[] w fun e w' => e = .returned (.bool true) ∧ Below w.heap.size w w' := by
  have s := fun n (h : n < 1000) => small_ok n h
  have of := fun n (h : n < 1000) w => of_any n (by omega) w
  have hb := bdN_lt
  have hbb := bdN_bad
  have hbd : ∀ w, Calls Tryd.prog 8 #[N bdN] w fun e w' => e = .returned (.tuple #[.pointer none, .int .i64 2]) ∧ Below w.heap.size w w' := fun w => new_bad hb (fun ok => hbb ok.top) w
  have c1 := fun g w hm => inv_bad (g := g) (n := 7) (a := 7) ok7 (s 7 (by decide)) (by decide) w hm
  have c2 := fun g w hm => root_any (g := g) (n := 7) (a := 2) ok7 (s 2 (by decide)) w hm
  have c3 := fun g w hm => root_any (g := g) (n := 7) (a := 3) ok7 (s 3 (by decide)) w hm
  have c4 := fun g w hm => inv_bad (g := g) (n := 9) (a := 3) ok9 (s 3 (by decide)) (by decide) w hm
  have c5 := fun g w hm => inv_ok (g := g) (n := 9) (a := 2) ok9 (s 2 (by decide)) (by decide) w hm
  have c6 := fun g w hm => root_any (g := g) (n := 13) (a := 4) ok13 (s 4 (by decide)) w hm
  rw [show rtv 7 2 = 3 from by decide, show rte 7 2 = 0 from by decide] at c2
  rw [show rtv 7 3 = 0 from by decide, show rte 7 3 = 6 from by decide] at c3
  rw [invm_eq (n := 9) (a := 2) (x := 5) (by decide) (by decide)] at c5
  rw [show rtv 13 4 = 0 from by decide, show rte 13 4 = 2 from by decide] at c6
  have c7 := fun w => text_any pB pB_lt w
  have c8 := fun w => text_any rB rB_lt w
  rw [txt_pB] at c7
  rw [txt_rB] at c8
  have c9 := fun g w hm => wide_any (g := g) (n := 7) (a := 0) (b := 1) ok7 (s 0 (by decide)) (s 1 (by decide)) w hm
  rw [wide7] at c9
  have c10 := fun g w hm => negm_any (g := g) (n := 7) (a := 0) ok7 (s 0 (by decide)) w hm
  rw [show subm 7 0 0 = 0 from by decide] at c10
  exact known_gen pB rB 0 1 2 3 4 5 7 8 7 9 13 0 0 0 0 (fun w => eq_same 3 (by decide) w) (fun w => eq_same 5 (by decide) w) (fun w => eq_same 1 (by decide) w) (fun w => eq_same 0 (by decide) w)
    awake_any base_pB base_rB (of 0 (by decide)) (of 1 (by decide)) (of 2 (by decide)) (of 3 (by decide)) (of 4 (by decide)) (of 5 (by decide)) (of 7 (by decide)) (of 8 (by decide))
    (fun w => new_bad (s 8 (by decide)) (fun ok => absurd ok.odd (by decide)) w) (fun w => new_bad (s 1 (by decide)) (fun ok => absurd ok.three (by decide)) w) hbd
    (fun w => by_any (c := 7) (by decide) ok7 w) (fun w => by_any (c := 9) (by decide) ok9 w) (fun w => by_any (c := 13) (by decide) ok13 w)
    c1 c2 c3 c4 c5 c6 c7 c8 c9 c10 w hm
end Rg
end Go.Proofs.YtoagmdgmbkpghabDoor
