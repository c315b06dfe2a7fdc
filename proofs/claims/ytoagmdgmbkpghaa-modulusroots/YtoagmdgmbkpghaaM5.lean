/- oneOf, squareOfOne -/
import Derived.Test.YtoagmdgmbkpghaaM4
namespace Go.Proofs.Ytoagmdgmbkpghaa
open Go.RowKit
namespace Rg
theorem call11 : ∀ args w, (callFunc 11 args).run Try.prog w = .ok (.enter 11 args) w := by intro args w; go_simp
theorem call33 : ∀ args w, (callFunc 33 args).run Try.prog w = .ok (.enter 33 args) w := by intro args w; go_simp
theorem call16 : ∀ args w, (callFunc 16 args).run Try.prog w = .ok (.enter 16 args) w := by intro args w; go_simp

theorem one_eq {n : Nat} (ok : Ok n) : (big - 1) % n + 1 = big % n := by
  have h0 : big % n ≠ 0 := fun h => by
    have h1 := ri_big n ok.odd
    unfold Cg at h1
    rw [Nat.mul_mod, h, Nat.zero_mul, Nat.zero_mod, Nat.mod_eq_of_lt (by have := ok.three; omega)] at h1
    cases h1
  have h1 := Nat.div_add_mod big n
  have h2 := Nat.mod_lt big ok.pos
  have e : big - 1 = n * (big / n) + (big % n - 1) := by omega
  rw [e, Nat.mul_add_mod, Nat.mod_eq_of_lt (by omega)]
  omega
theorem okLt {n : Nat} (ok : Ok n) (x : Nat) : x % n < big := Nat.lt_trans (Nat.mod_lt _ ok.pos) ok.big
theorem dbl_eq {n : Nat} (ok : Ok n) (x : Nat) : (if x % n + x % n < n then x % n + x % n else x % n + x % n - n) = 2 * x % n := by
  refine low_cut n _ _ ?_ (by have := Nat.mod_lt x ok.pos; omega) (Nat.mod_lt _ ok.pos)
  rw [← Nat.two_mul]
  exact ((Cg.mod n x).mulL 2).trans (Cg.mod _ _).symm
theorem sq_eq {n : Nat} (ok : Ok n) (k : Nat) : mont n (2 ^ (3 * 2 ^ k) * big % n) (2 ^ (3 * 2 ^ k) * big % n) = 2 ^ (3 * 2 ^ (k + 1)) * big % n := by
  refine Cg.eq_mod (n := n) ?_ (mont_lt _ _ _ ok.pos)
  refine (mont_cg n _ _).trans ?_
  have h1 := ((Cg.mod n (2 ^ (3 * 2 ^ k) * big)).mul (Cg.mod n (2 ^ (3 * 2 ^ k) * big))).mulR (ri n)
  refine h1.trans ?_
  have h2 := (ri_big n ok.odd).mulL (2 ^ (3 * 2 ^ k) * 2 ^ (3 * 2 ^ k) * big)
  rw [Nat.mul_one] at h2
  have e1 : 2 ^ (3 * 2 ^ k) * big * (2 ^ (3 * 2 ^ k) * big) * ri n = 2 ^ (3 * 2 ^ k) * 2 ^ (3 * 2 ^ k) * big * (big * ri n) := by
    simp only [Nat.mul_comm, Nat.mul_left_comm, Nat.mul_assoc]
  have e2 : 2 ^ (3 * 2 ^ (k + 1)) = 2 ^ (3 * 2 ^ k) * 2 ^ (3 * 2 ^ k) := by
    rw [← Nat.pow_add]
    congr 1
    rw [Nat.pow_succ]; omega
  rw [e1, e2]
  exact h2
theorem pow_is (k : Nat) (h : k = 64 * 6) : 2 ^ k = big := by subst h; exact big_eq.symm
end Rg
end Go.Proofs.Ytoagmdgmbkpghaa
