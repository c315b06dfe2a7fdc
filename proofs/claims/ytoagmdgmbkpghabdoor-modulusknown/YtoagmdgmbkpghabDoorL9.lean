/- by, awake -/
import Derived.Test.YtoagmdgmbkpghabDoorL8
namespace Go.Proofs.YtoagmdgmbkpghabDoor
open Go.RowKit
namespace Rg
theorem by_any {c : Nat} (hc : c < 18446744073709551616) (ok : Ok c) (w : World) : Calls Tryd.prog 17 #[.int .u64 ((c : Nat) : Int)] w fun e w' => Below w.heap.size w w' ∧ ∃ g, e = .returned (PT g 0) ∧ w.heap.size ≤ g ∧ g < w'.heap.size ∧ Blk w' g (modc c) :=
  by_gen c c (fun w => of_any c hc w) (fun w => new_ok ok w) w
theorem awake_any (w : World) (hm : Mm w [(0, dtab)]) : Calls Tryd.prog 5 #[] w fun e w' => e = .returned (.bool true) ∧ Below w.heap.size w w' := by
  have s := fun n (h : n < 1000) => small_ok n h
  have c8 := fun g w hm => inv_ok (g := g) (n := 7) (a := 3) ok7 (s 3 (by decide)) (by decide) w hm
  rw [invm_eq (n := 7) (a := 3) (x := 5) (by decide) (by decide)] at c8
  have c9 := fun g w hm => addm_any (g := g) ok7 (s 5 (by decide)) (s 6 (by decide)) w hm
  have c10 := fun g w hm => subm_any (g := g) ok7 (s 2 (by decide)) (s 5 (by decide)) w hm
  have c11 := fun g w hm => mulm_any (g := g) ok7 (s 4 (by decide)) (s 5 (by decide)) w hm
  have c12 := fun g w hm => powm_any (g := g) ok7 (s 3 (by decide)) (s 6 (by decide)) w hm
  rw [show (5 + 6) % 7 = 4 from rfl] at c9
  rw [show subm 7 2 5 = 4 from rfl] at c10
  rw [show 4 * 5 % 7 = 6 from rfl] at c11
  rw [show 3 ^ 6 % 7 = 1 from rfl] at c12
  exact awake_gen 1 2 3 4 5 6 7 (fun w => eq_same 1 (by decide) w) (fun w => eq_same 4 (by decide) w) (fun w => eq_same 5 (by decide) w) (fun w => eq_same 6 (by decide) w)
    (fun w => by_any (c := 7) (by decide) ok7 w) (fun w => of_any 1 (by decide) w) (fun w => of_any 2 (by decide) w) (fun w => of_any 3 (by decide) w) (fun w => of_any 4 (by decide) w) (fun w => of_any 5 (by decide) w) (fun w => of_any 6 (by decide) w) c8 c9 c10 c11 c12 w hm
end Rg
end Go.Proofs.YtoagmdgmbkpghabDoor
