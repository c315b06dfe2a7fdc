/- by, awake -/
import Derived.Test.YtoagmdgmbkpghaaM13
namespace Go.Proofs.Ytoagmdgmbkpghaa
open Go.RowKit
namespace Rg
theorem call6 : ∀ args w, (callFunc 6 args).run Try.prog w = .ok (.enter 6 args) w := by intro args w; go_simp
theorem call19 : ∀ args w, (callFunc 19 args).run Try.prog w = .ok (.enter 19 args) w := by intro args w; go_simp
theorem call17 : ∀ args w, (callFunc 17 args).run Try.prog w = .ok (.enter 17 args) w := by intro args w; go_simp
/-- The number that makes 1 with a. -/
def invm (n a : Nat) : Nat := ((List.range n).find? fun x => x * a % n == 1).getD 0
theorem inv_unique {n a x y : Nat} (hx : x < n) (hy : y < n) (h1 : x * a % n = 1) (h2 : y * a % n = 1) : x = y := by
  have hn : 1 < n := by
    rcases Nat.lt_or_ge 1 n with h | h
    · exact h
    · have : x * a % n < 1 := Nat.lt_of_lt_of_le (Nat.mod_lt _ (by omega)) h
      omega
  have e1 : Cg n (x * a) 1 := by unfold Cg; rw [h1, Nat.mod_eq_of_lt hn]
  have e2 : Cg n (y * a) 1 := by unfold Cg; rw [h2, Nat.mod_eq_of_lt hn]
  have s1 := e2.mulL x
  have s2 := e1.mulL y
  rw [Nat.mul_one] at s1 s2
  have e3 : x * (y * a) = y * (x * a) := Nat.mul_left_comm ..
  rw [e3] at s1
  exact (s1.symm.trans s2).eq_of_lt hx hy
theorem invm_eq {n a x : Nat} (hx : x < n) (h1 : x * a % n = 1) : invm n a = x := by
  unfold invm
  cases hf : (List.range n).find? fun x => x * a % n == 1 with
  | none =>
    have := List.find?_eq_none.1 hf x (List.mem_range.2 hx)
    simp [h1] at this
  | some y =>
    have h2 := List.find?_some hf
    have h3 := List.mem_range.1 (List.mem_of_find?_eq_some hf)
    exact inv_unique h3 hx (by simpa using h2) h1
theorem ok7 : Ok 7 := ⟨by decide, by decide, Nat.lt_of_le_of_lt (by decide : 4 * 7 ≤ 28) (small_big 28 (by decide))⟩
theorem small_ok (n : Nat) (h : n < 1000) : n < big := small_big n (by omega)
end Rg
end Go.Proofs.Ytoagmdgmbkpghaa
