/- The document's functions of a modulus: their answers -/
import Derived.Test.YtoagmdgmbkpghaaM23
import Derived.Test.YtoagmdgmbkpghaaD3
import Derived.Test.YtoagmdgmbkpghaaD6
import Derived.Test.YtoagmdgmbkpghaaD9
namespace Go.Proofs.Ytoagmdgmbkpghaa
open Go.RowKit
namespace Rg
theorem rreduce_any {n a : Nat} (ok : Ok n) (ha : a < big) (w : World) : Calls Try.prog 27 #[N n, N a] w fun e w' => e = .returned (N (a % n)) ∧ Below w.heap.size w w' :=
  rreduce_gen n a (a / n) (a % n) (fun w => divide_ref_some a n ha ok.big (by have := ok.pos; omega) w) w
theorem rneg_any {n a : Nat} (ok : Ok n) (ha : a < big) (w : World) : Calls Try.prog 28 #[N n, N a] w fun e w' => e = .returned (N (subm n 0 a)) ∧ Below w.heap.size w w' := by
  have h1 := Nat.mod_lt a ok.pos
  have hn := ok.big
  have c2 := fun w => sub_ref n (a % n) hn (okLt ok a) w
  rw [decide_eq_false (by omega), show n + big - a % n = n - a % n + big by omega, Nat.add_mod_right, Nat.mod_eq_of_lt (show n - a % n < big by omega)] at c2
  have c3 := fun w => rreduce_any ok (show n - a % n < big by omega) w
  have e : (n - a % n) % n = subm n 0 a := by unfold subm; rw [Nat.zero_add]
  rw [e] at c3
  exact rneg_gen n a _ _ _ (fun w => rreduce_any ok ha w) c2 c3 w
theorem rmul_any {n a b : Nat} (ok : Ok n) (ha : a < big) (hb : b < big) (w : World) : Calls Try.prog 26 #[N n, N a, N b] w fun e w' => e = .returned (N (a * b % n)) ∧ Below w.heap.size w w' := by
  have hd : a * b / big < big := Nat.div_lt_of_lt_mul (Nat.mul_lt_mul'' ha hb)
  have c := fun w => rwide_any ok (Nat.mod_lt (a * b) big_pos) hd w
  rw [Nat.mul_comm (a * b / big) big, Nat.mod_add_div] at c
  exact rmul_gen n a b _ _ _ (fun w => mul_ref a b ha hb w) c w
theorem rpow_any {n a e : Nat} (ok : Ok n) (ha : a < big) (he : e < big) (w : World) : Calls Try.prog 24 #[N n, N a, N e] w fun r w' => r = .returned (N (a ^ e % n)) ∧ Below w.heap.size w w' := by
  have hl : bl e ≤ 384 := by
    obtain ⟨m, hm, h⟩ := big_pow
    rw [h] at he
    have := bl_le_of e _ he
    omega
  have h := rpow_gen n a e 1 (1 % n) (bl e) rfl hl (fun k => a ^ (e / 2 ^ k) % n) (fun k => a ^ (2 * (e / 2 ^ (k + 1))) % n) (fun k => bitv e k) ?_ (bit_cases e) (fun k hk => ?_) (fun w => rreduce_any ok (small_big 1 (by decide)) w) (fun w => len_ref e he w) (fun k w => ?_) (fun k w hk => ?_) (fun k hk w => ?_) w
  · rw [Nat.pow_zero, Nat.div_one] at h
    exact h
  · simp only [Nat.div_eq_of_lt (bl_lt e), Nat.pow_zero]
  · have h2 : e / 2 ^ k % 2 = 0 := by unfold bitv at hk; omega
    have h3 := half_step e k
    rw [h2, Nat.add_zero] at h3
    simp only [← h3]
  · have h := rmul_any ok (okLt ok (a ^ (e / 2 ^ (k + 1)))) (okLt ok (a ^ (e / 2 ^ (k + 1)))) w
    rw [← Nat.mul_mod, ← Nat.pow_add, ← Nat.two_mul] at h
    exact h
  · have h := bit_ref_in e k (by omega) w
    rw [show (((k + 1 : Nat) : Int) - 1) = ((k : Nat) : Int) by omega]
    exact h
  · have h := rmul_any ok (okLt ok (a ^ (2 * (e / 2 ^ (k + 1))))) ha w
    have h2 : e / 2 ^ k % 2 = 1 := by unfold bitv at hk; omega
    have h3 := half_step e k
    rw [h2] at h3
    have h4 : a ^ (2 * (e / 2 ^ (k + 1))) * a = a ^ (e / 2 ^ k) := by rw [h3]; exact (Nat.pow_succ ..).symm
    rw [Nat.mod_mul_mod, h4] at h
    exact h
end Rg
end Go.Proofs.Ytoagmdgmbkpghaa
