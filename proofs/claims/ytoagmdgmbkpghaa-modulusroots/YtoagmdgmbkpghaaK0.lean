/- Calls -/
import Derived.Test.YtoagmdgmbkpghaaM14
namespace Go.Proofs.Ytoagmdgmbkpghaa
open Go.RowKit
namespace Rg
theorem call3 : ∀ args w, (callFunc 3 args).run Try.prog w = .ok (.enter 3 args) w := by intro args w; go_simp
theorem call5 : ∀ args w, (callFunc 5 args).run Try.prog w = .ok (.enter 5 args) w := by intro args w; go_simp
theorem call7 : ∀ args w, (callFunc 7 args).run Try.prog w = .ok (.enter 7 args) w := by intro args w; go_simp
theorem call8 : ∀ args w, (callFunc 8 args).run Try.prog w = .ok (.enter 8 args) w := by intro args w; go_simp
theorem call14 : ∀ args w, (callFunc 14 args).run Try.prog w = .ok (.enter 14 args) w := by intro args w; go_simp
theorem call24 : ∀ args w, (callFunc 24 args).run Try.prog w = .ok (.enter 24 args) w := by intro args w; go_simp
theorem call25 : ∀ args w, (callFunc 25 args).run Try.prog w = .ok (.enter 25 args) w := by intro args w; go_simp
theorem call31 : ∀ args w, (callFunc 31 args).run Try.prog w = .ok (.enter 31 args) w := by intro args w; go_simp
theorem call35 : ∀ args w, (callFunc 35 args).run Try.prog w = .ok (.enter 35 args) w := by intro args w; go_simp
theorem call36 : ∀ args w, (callFunc 36 args).run Try.prog w = .ok (.enter 36 args) w := by intro args w; go_simp
theorem call43 : ∀ args w, (callFunc 43 args).run Try.prog w = .ok (.enter 43 args) w := by intro args w; go_simp
theorem call50 : ∀ args w, (callFunc 50 args).run Try.prog w = .ok (.enter 50 args) w := by intro args w; go_simp
theorem call51 : ∀ args w, (callFunc 51 args).run Try.prog w = .ok (.enter 51 args) w := by intro args w; go_simp
theorem call52 : ∀ args w, (callFunc 52 args).run Try.prog w = .ok (.enter 52 args) w := by intro args w; go_simp
end Rg
end Go.Proofs.Ytoagmdgmbkpghaa
