/- Calls -/
import Derived.Test.YtoagmdgmbkpghabDoorM14
namespace Go.Proofs.YtoagmdgmbkpghabDoor
open Go.RowKit
namespace Rg
theorem call3 : ∀ args w, (callFunc 3 args).run Tryd.prog w = .ok (.enter 3 args) w := by intro args w; go_simp
theorem call4 : ∀ args w, (callFunc 4 args).run Tryd.prog w = .ok (.enter 4 args) w := by intro args w; go_simp
theorem call5 : ∀ args w, (callFunc 5 args).run Tryd.prog w = .ok (.enter 5 args) w := by intro args w; go_simp
theorem call6 : ∀ args w, (callFunc 6 args).run Tryd.prog w = .ok (.enter 6 args) w := by intro args w; go_simp
theorem call7 : ∀ args w, (callFunc 7 args).run Tryd.prog w = .ok (.enter 7 args) w := by intro args w; go_simp
theorem call15 : ∀ args w, (callFunc 15 args).run Tryd.prog w = .ok (.enter 15 args) w := by intro args w; go_simp
theorem call18 : ∀ args w, (callFunc 18 args).run Tryd.prog w = .ok (.enter 18 args) w := by intro args w; go_simp
theorem call19 : ∀ args w, (callFunc 19 args).run Tryd.prog w = .ok (.enter 19 args) w := by intro args w; go_simp
theorem call24 : ∀ args w, (callFunc 24 args).run Tryd.prog w = .ok (.enter 24 args) w := by intro args w; go_simp
theorem call35 : ∀ args w, (callFunc 35 args).run Tryd.prog w = .ok (.enter 35 args) w := by intro args w; go_simp
theorem call37 : ∀ args w, (callFunc 37 args).run Tryd.prog w = .ok (.enter 37 args) w := by intro args w; go_simp
theorem call43 : ∀ args w, (callFunc 43 args).run Tryd.prog w = .ok (.enter 43 args) w := by intro args w; go_simp
theorem call44 : ∀ args w, (callFunc 44 args).run Tryd.prog w = .ok (.enter 44 args) w := by intro args w; go_simp
theorem call45 : ∀ args w, (callFunc 45 args).run Tryd.prog w = .ok (.enter 45 args) w := by intro args w; go_simp
theorem call47 : ∀ args w, (callFunc 47 args).run Tryd.prog w = .ok (.enter 47 args) w := by intro args w; go_simp
theorem call48 : ∀ args w, (callFunc 48 args).run Tryd.prog w = .ok (.enter 48 args) w := by intro args w; go_simp
theorem call49 : ∀ args w, (callFunc 49 args).run Tryd.prog w = .ok (.enter 49 args) w := by intro args w; go_simp
end Rg
end Go.Proofs.YtoagmdgmbkpghabDoor
