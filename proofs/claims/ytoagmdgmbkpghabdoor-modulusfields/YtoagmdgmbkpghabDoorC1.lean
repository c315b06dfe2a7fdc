/- Comparing numbers, as operations of a region. -/
import Derived.Test.YtoagmdgmbkpghabDoorC0
import Derived.Test.YtoagmdgmbkpghabDoorA19
namespace Go.Proofs.YtoagmdgmbkpghabDoor
open Go.RowKit

theorem exec_eq6 {ρ : Operand → Value} {o : Oper} {i j : Tmp} {v v' : Nat} {t : Bool} {w : World} (he : ∀ w, (Op.equalIn 10000 24 (N v) (N v')).run Tryd.prog w = .ok t w) (ho : o.op = .binOp .eql 24 (.tmp i) (.tmp j) 24) (hx : ρ (.tmp i) = N v) (hy : ρ (.tmp j) = N v') :
    (execOp ρ o).run Tryd.prog w = .ok (.value (.bool t)) w := by
  simp only [execOp, ho, hx, hy]
  clear hx hy
  go_simp
theorem exec_neq6 {ρ : Operand → Value} {o : Oper} {i j : Tmp} {v v' : Nat} {t : Bool} {w : World} (he : ∀ w, (Op.equalIn 10000 24 (N v) (N v')).run Tryd.prog w = .ok t w) (ho : o.op = .binOp .neq 24 (.tmp i) (.tmp j) 24) (hx : ρ (.tmp i) = N v) (hy : ρ (.tmp j) = N v') :
    (execOp ρ o).run Tryd.prog w = .ok (.value (.bool !t)) w := by
  simp only [execOp, ho, hx, hy]
  clear hx hy
  go_simp
end Go.Proofs.YtoagmdgmbkpghabDoor
