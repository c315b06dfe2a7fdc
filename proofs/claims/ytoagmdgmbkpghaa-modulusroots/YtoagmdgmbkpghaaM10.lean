/- trailing, halve, subtract -/
import Derived.Test.YtoagmdgmbkpghaaM9
import Derived.Test.YtoagmdgmbkpghaaPR
namespace Go.Proofs.Ytoagmdgmbkpghaa
open Go.RowKit
namespace Rg
theorem call18 : ∀ args w, (callFunc 18 args).run Try.prog w = .ok (.enter 18 args) w := by intro args w; go_simp
theorem ex_loadI {ρ : Operand → Value} {o : Oper} {x : Operand} {g off : Nat} {v : Value} {cs : List Value} {w : World} {l : List (Nat × List Value)} (h : Mm w l) (k : Nat) (hk : l[k]? = some (g, cs)) (ho : o.op = .load 3 x) (hx : ρ x = PT g off) (hc : cs[off]? = some v) :
    (execOp ρ o).run Try.prog w = .ok (.value v) w := by
  have c0 := h.cell (List.mem_of_getElem? hk) hc
  clear h hk hc
  simp only [execOp, ho, hx]
  go_simp
theorem ex_loadB {ρ : Operand → Value} {o : Oper} {x : Operand} {g off : Nat} {v : Value} {cs : List Value} {w : World} {l : List (Nat × List Value)} (h : Mm w l) (k : Nat) (hk : l[k]? = some (g, cs)) (ho : o.op = .load 4 x) (hx : ρ x = PT g off) (hc : cs[off]? = some v) :
    (execOp ρ o).run Try.prog w = .ok (.value v) w := by
  have c0 := h.cell (List.mem_of_getElem? hk) hc
  clear h hk hc
  simp only [execOp, ho, hx]
  go_simp
/-- The table of math/bits. -/
def dtab : List Value := Lib.deBruijn64tab.map fun k => .int .u8 ((k : Nat) : Int)
theorem tab_at {w : World} (h : Mm w [(0, dtab)]) : TabAt 0 Lib.deBruijn64tab w := fun j hj => by
  refine h.get 0 rfl j ?_
  unfold dtab
  rw [List.getElem?_map, List.getElem?_eq_getElem hj, Option.map_some, List.getD_eq_getElem?_getD, List.getElem?_eq_getElem hj, Option.getD_some]
/-- What stands in memory of a walk. -/
abbrev wkc (o r u v : Nat) (h : Int) (t : Bool) : List Value := [.int .u64 (wd o 0), .int .u64 (wd o 1), .int .u64 (wd o 2), .int .u64 (wd o 3), .int .u64 (wd o 4), .int .u64 (wd o 5), .int .u64 (wd r 0), .int .u64 (wd r 1), .int .u64 (wd r 2), .int .u64 (wd r 3), .int .u64 (wd r 4), .int .u64 (wd r 5), .int .u64 (wd u 0), .int .u64 (wd u 1), .int .u64 (wd u 2), .int .u64 (wd u 3), .int .u64 (wd u 4), .int .u64 (wd u 5), .int .u64 (wd v 0), .int .u64 (wd v 1), .int .u64 (wd v 2), .int .u64 (wd v 3), .int .u64 (wd v 4), .int .u64 (wd v 5), .int .i64 h, .bool t]
end Rg
end Go.Proofs.Ytoagmdgmbkpghaa
