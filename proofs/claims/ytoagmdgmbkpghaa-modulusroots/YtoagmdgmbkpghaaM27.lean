/- The law ModulusTells for any arguments -/
import Derived.Test.YtoagmdgmbkpghaaM25
namespace Go.Proofs.Ytoagmdgmbkpghaa
open Go.RowKit
namespace Rg
theorem wd_zero_nat (n : Nat) : wd n 0 = ((n % 18446744073709551616 : Nat) : Int) := by unfold wd; rw [Nat.mul_zero, Nat.pow_zero, Nat.div_one]
theorem low_bit (n : Nat) : bits BinOp.and IntKind.u64 (wd n 0) 1 = ((n % 2 : Nat) : Int) := by
  have h := bits_and_u64_nat (n % 18446744073709551616) 1 (Nat.mod_lt _ (by decide)) (by decide)
  rw [Nat.and_one_is_mod, show n % 18446744073709551616 % 2 = n % 2 by omega] at h
  rw [wd_zero_nat]
  exact h
theorem mask40 (b : Nat) : bits BinOp.and IntKind.u64 (wd b 0) 1099511627775 = ((b % 18446744073709551616 % 1099511627776 : Nat) : Int) := by
  have h := bits_and_u64_nat (b % 18446744073709551616) 1099511627775 (Nat.mod_lt _ (by decide)) (by decide)
  have e : b % 18446744073709551616 &&& 1099511627775 = b % 18446744073709551616 % 1099511627776 := Nat.and_two_pow_sub_one_eq_mod _ 40
  rw [e] at h
  rw [wd_zero_nat]
  exact h
theorem cmp_three {n : Nat} (h : 3 ≤ n) : 0 ≤ cmpv n 3 := by
  unfold cmpv
  split
  · exact Int.le_refl _
  · rw [if_neg (by omega)]; decide
theorem may_ok {n : Nat} (ok : Ok n) (w : World) : Calls Try.prog 5 #[N n] w fun e w' => e = .returned (.bool true) ∧ Below w.heap.size w w' := by
  have hb := low_bit n
  rw [ok.odd] at hb
  exact may_4 n 3 _ _ rfl hb (by have := len_ok ok; omega) (fun w => len_ref n ok.big w) (cmp_three ok.three) (fun w => compare_ref n 3 ok.big (small_big 3 (by decide)) w) w
theorem may_no {n : Nat} (hn : n < big) (bad : ¬ Ok n) (w : World) : Calls Try.prog 5 #[N n] w fun e w' => e = .returned (.bool false) ∧ Below w.heap.size w w' := by
  have hb := low_bit n
  by_cases h : n % 2 = 1
  · rw [h] at hb
    by_cases h3 : (382 : Int) < (bl n : Nat)
    · exact may_2 n _ hb (by omega) (fun w => len_ref n hn w) w
    · have h2 : n = 1 := Classical.byContradiction fun h2 => bad (ok_len h h2 h3)
      have hc : cmpv n 3 = -1 := by
        rw [h2]; decide
      exact may_3 n 3 _ _ rfl hb (by omega) (fun w => len_ref n hn w) (by rw [hc]; decide) (fun w => compare_ref n 3 hn (small_big 3 (by decide)) w) w
  · rw [show n % 2 = 0 by omega] at hb
    exact may_1 n hb w
end Rg
end Go.Proofs.Ytoagmdgmbkpghaa
