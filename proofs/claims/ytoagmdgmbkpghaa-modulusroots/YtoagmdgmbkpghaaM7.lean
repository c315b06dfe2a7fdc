/- The ring's functions: what they tell -/
import Derived.Test.YtoagmdgmbkpghaaM6
namespace Go.Proofs.Ytoagmdgmbkpghaa
open Go.RowKit
namespace Rg

theorem mont_one {n : Nat} (ok : Ok n) (x : Nat) : mont n x (big % n) = x % n := by
  refine Cg.eq_mod (n := n) ((mont_cg n _ _).trans ?_) (mont_lt _ _ _ ok.pos)
  have h1 := ((Cg.mod n big).mulL x).mulR (ri n)
  refine h1.trans ?_
  have h2 := (ri_big n ok.odd).mulL x
  rw [Nat.mul_one, ← Nat.mul_assoc] at h2
  exact h2
theorem mont_big {n : Nat} (ok : Ok n) (x y : Nat) : mont n x (y * big % n) = x * y % n := by
  refine Cg.eq_mod (n := n) ((mont_cg n _ _).trans ?_) (mont_lt _ _ _ ok.pos)
  have h1 := ((Cg.mod n (y * big)).mulL x).mulR (ri n)
  refine h1.trans ?_
  have h2 := (ri_big n ok.odd).mulL (x * y)
  rw [Nat.mul_one] at h2
  have e : x * (y * big) * ri n = x * y * (big * ri n) := by simp only [Nat.mul_assoc]
  rw [e]
  exact h2
/-- What is left of a difference. -/
def subm (n a b : Nat) : Nat := (a + (n - b % n)) % n
theorem subm_ge {n a b : Nat} (hn : 0 < n) (h : b ≤ a) : (a - b) % n = subm n a b := by
  unfold subm
  have h1 := Nat.div_add_mod b n
  have h2 := Nat.mod_lt b hn
  have e : a + (n - b % n) = (a - b) + n * (b / n + 1) := by rw [Nat.mul_add]; omega
  rw [e, Nat.add_mul_mod_self_left]
theorem subm_lt {n a b : Nat} (hn : 0 < n) (h : a < b) (h2 : b ≤ a + n) : a + n - b = subm n a b := by
  unfold subm
  have h1 := Nat.div_add_mod b n
  have h3 := Nat.mod_lt b hn
  have e : a + (n - b % n) = (a + n - b) + n * (b / n) := by omega
  rw [e, Nat.add_mul_mod_self_left, Nat.mod_eq_of_lt (by omega)]
theorem subm_lt_n {n : Nat} (hn : 0 < n) (a b : Nat) : subm n a b < n := Nat.mod_lt _ hn
theorem cmp_ge {a n : Nat} (h : ¬ a < n) : ¬ cmpv a n < 0 := by unfold cmpv; rw [if_neg h]; split <;> omega
theorem cmp_lt {a n : Nat} (h : a < n) : cmpv a n = -1 := by unfold cmpv; rw [if_neg (by omega), if_pos h]
theorem madeC {g n : Nat} (ok : Ok n) (w : World) (hm : Mm w [(g, modc n)]) : Calls Try.prog 15 #[PT g 0] w fun e w' => e = .returned (.bool true) ∧ Below w.heap.size w w' := made_any g n _ _ ok w hm
theorem reduce_any {g n : Nat} (ok : Ok n) {a : Nat} (ha : a < big) (w : World) (hm : Mm w [(g, modc n)]) : Calls Try.prog 20 #[PT g 0, N a] w fun e w' => e = .returned (N (a % n)) ∧ Below w.heap.size w w' := by
  have hn := ok.big
  by_cases h : a < n
  · have c := fun w => compare_any a n ha hn w
    rw [cmp_lt h] at c
    rw [Nat.mod_eq_of_lt h]
    exact reduce_1 g n _ _ a (fun w hm => madeC ok w hm) c w hm
  · have c := fun w => compare_any a n ha hn w
    have cs := fun w => sub_any a n ha hn w
    rw [decide_eq_false h, show a + big - n = a - n + big by omega, Nat.add_mod_right, Nat.mod_eq_of_lt (show a - n < big by omega)] at cs
    have e : a % n = (a - n) % n := Nat.mod_eq_sub_mod (by omega)
    have c2 := fun w => compare_any (a - n) n (by omega) hn w
    by_cases h2 : a - n < n
    · rw [cmp_lt h2] at c2
      rw [e, Nat.mod_eq_of_lt h2]
      exact reduce_2 g n _ _ a _ _ (cmp_ge h) (fun w hm => madeC ok w hm) c cs c2 w hm
    · have cp := fun w hm => product_any g n (big % n) (big * big % n) (a - n) (big % n) ok (by omega) (Nat.mod_lt _ ok.pos) w hm
      rw [mont_one ok] at cp
      rw [e]
      exact reduce_3 g n _ _ a _ _ _ _ (cmp_ge h) (cmp_ge h2) (fun w hm => madeC ok w hm) c cs c2 cp w hm
theorem addm_any {g n : Nat} (ok : Ok n) {a b : Nat} (ha : a < big) (hb : b < big) (w : World) (hm : Mm w [(g, modc n)]) : Calls Try.prog 47 #[PT g 0, N a, N b] w fun e w' => e = .returned (N ((a + b) % n)) ∧ Below w.heap.size w w' := by
  have c := fun w => add_any a b ha hb w
  by_cases h : big ≤ a + b
  · rw [decide_eq_true h] at c
    have h1 := Nat.mod_lt a ok.pos
    have h2 := Nat.mod_lt b ok.pos
    have h3 := ok.top
    have c2 := fun w => add_any (a % n) (b % n) (okLt ok a) (okLt ok b) w
    rw [decide_eq_false (by omega), Nat.mod_eq_of_lt (show a % n + b % n < big by omega)] at c2
    have c3 := fun w hm => reduce_any (g := g) ok (show a % n + b % n < big by omega) w hm
    rw [← Nat.add_mod] at c3
    exact add_2 g n _ _ a b _ _ _ _ _ (fun w hm => madeC ok w hm) c (fun w hm => reduce_any ok ha w hm) (fun w hm => reduce_any ok hb w hm) c2 c3 w hm
  · rw [decide_eq_false h, Nat.mod_eq_of_lt (show a + b < big by omega)] at c
    exact add_1 g n _ _ a b _ _ (fun w hm => madeC ok w hm) c (fun w hm => reduce_any ok (by omega) w hm) w hm
theorem mulm_any {g n : Nat} (ok : Ok n) {a b : Nat} (ha : a < big) (hb : b < big) (w : World) (hm : Mm w [(g, modc n)]) : Calls Try.prog 19 #[PT g 0, N a, N b] w fun e w' => e = .returned (N (a * b % n)) ∧ Below w.heap.size w w' := by
  have cp := fun w hm => product_any g n (big % n) (big * big % n) a (big * big % n) ok ha (Nat.mod_lt _ ok.pos) w hm
  rw [mont_big ok] at cp
  have c := fun w hm => product_any g n (big % n) (big * big % n) b (a * big % n) ok hb (Nat.mod_lt _ ok.pos) w hm
  rw [mont_big ok, Nat.mul_comm b a] at c
  exact mul_gen g n _ _ a b _ _ (fun w hm => madeC ok w hm) cp c w hm
theorem subm_any {g n : Nat} (ok : Ok n) {a b : Nat} (ha : a < big) (hb : b < big) (w : World) (hm : Mm w [(g, modc n)]) : Calls Try.prog 37 #[PT g 0, N a, N b] w fun e w' => e = .returned (N (subm n a b)) ∧ Below w.heap.size w w' := by
  have c := fun w => sub_any a b ha hb w
  have hn := ok.big
  have h3 := ok.top
  by_cases h : a < b
  · rw [decide_eq_true h, Nat.mod_eq_of_lt (show a + big - b < big by omega)] at c
    have c2 := fun w => add_any (a + big - b) n (by omega) hn w
    by_cases h2 : b ≤ a + n
    · rw [decide_eq_true (show big ≤ a + big - b + n by omega), show a + big - b + n = (a + n - b) + big by omega, Nat.add_mod_right, Nat.mod_eq_of_lt (show a + n - b < big by omega), subm_lt ok.pos h h2] at c2
      exact sub_2 g n _ _ a b _ _ (fun w hm => madeC ok w hm) c c2 w hm
    · rw [decide_eq_false (show ¬ big ≤ a + big - b + n by omega)] at c2
      have h1 := Nat.mod_lt b ok.pos
      have c3 := fun w => sub_any n (b % n) hn (okLt ok b) w
      rw [decide_eq_false (by omega), show n + big - b % n = n - b % n + big by omega, Nat.add_mod_right, Nat.mod_eq_of_lt (show n - b % n < big by omega)] at c3
      exact sub_3 g n _ _ a b _ _ _ _ _ (fun w hm => madeC ok w hm) c c2 (fun w hm => reduce_any ok hb w hm) c3 (fun w hm => addm_any ok ha (by omega) w hm) w hm
  · rw [decide_eq_false h, show a + big - b = a - b + big by omega, Nat.add_mod_right, Nat.mod_eq_of_lt (show a - b < big by omega)] at c
    have c2 := fun w hm => reduce_any (g := g) ok (show a - b < big by omega) w hm
    rw [subm_ge ok.pos (by omega)] at c2
    exact sub_1 g n _ _ a b _ _ (fun w hm => madeC ok w hm) c c2 w hm
theorem negm_any {g n : Nat} (ok : Ok n) {a : Nat} (ha : a < big) (w : World) (hm : Mm w [(g, modc n)]) : Calls Try.prog 21 #[PT g 0, N a] w fun e w' => e = .returned (N (subm n 0 a)) ∧ Below w.heap.size w w' :=
  neg_gen g n _ _ a _ (fun w hm => subm_any ok big_pos ha w hm) w hm
end Rg
end Go.Proofs.Ytoagmdgmbkpghaa
