/- words.divideStep -/
import Derived.Test.YtoagmdgmbkpghabDoorA10
import Derived.Test.YtoagmdgmbkpghabDoorA12
import Derived.Test.YtoagmdgmbkpghabDoorA16
namespace Go.Proofs.YtoagmdgmbkpghabDoor
open Go.RowKit

theorem Row.store6 {w : World} {g : Nat} {f0 : Nat → Int} (h : Row w g 6 f0) (f : Nat → Int) : Row ((((((w.setCell ⟨g, 0, none⟩ (.int .u64 (f 0))).setCell ⟨g, 1, none⟩ (.int .u64 (f 1))).setCell ⟨g, 2, none⟩ (.int .u64 (f 2))).setCell ⟨g, 3, none⟩ (.int .u64 (f 3))).setCell ⟨g, 4, none⟩ (.int .u64 (f 4))).setCell ⟨g, 5, none⟩ (.int .u64 (f 5))) g 6 f := by
  refine ((((((h.set (k := 0) (f 0)).set (k := 1) (f 1)).set (k := 2) (f 2)).set (k := 3) (f 3)).set (k := 4) (f 4)).set (k := 5) (f 5)).congr ?_
  intro j hj
  match j, hj with
  | 0, _ | 1, _ | 2, _ | 3, _ | 4, _ | 5, _ => simp [upd]
theorem Row.store7 {w : World} {g : Nat} {f0 : Nat → Int} (h : Row w g 7 f0) (f : Nat → Int) : Row (((((((w.setCell ⟨g, 0, none⟩ (.int .u64 (f 0))).setCell ⟨g, 1, none⟩ (.int .u64 (f 1))).setCell ⟨g, 2, none⟩ (.int .u64 (f 2))).setCell ⟨g, 3, none⟩ (.int .u64 (f 3))).setCell ⟨g, 4, none⟩ (.int .u64 (f 4))).setCell ⟨g, 5, none⟩ (.int .u64 (f 5))).setCell ⟨g, 6, none⟩ (.int .u64 (f 6))) g 7 f := by
  refine (((((((h.set (k := 0) (f 0)).set (k := 1) (f 1)).set (k := 2) (f 2)).set (k := 3) (f 3)).set (k := 4) (f 4)).set (k := 5) (f 5)).set (k := 6) (f 6)).congr ?_
  intro j hj
  match j, hj with
  | 0, _ | 1, _ | 2, _ | 3, _ | 4, _ | 5, _ | 6, _ => simp [upd]
theorem Row.past7 {w : World} {g g' n : Nat} {f : Nat → Int} (h : Row w g' n f) (hne : g ≠ g') (v0 v1 v2 v3 v4 v5 v6 : Value) : Row (((((((w.setCell ⟨g, 0, none⟩ v0).setCell ⟨g, 1, none⟩ v1).setCell ⟨g, 2, none⟩ v2).setCell ⟨g, 3, none⟩ v3).setCell ⟨g, 4, none⟩ v4).setCell ⟨g, 5, none⟩ v5).setCell ⟨g, 6, none⟩ v6) g' n f :=
  ((((((h.set_other (a := ⟨g, 0, none⟩) _ hne).set_other (a := ⟨g, 1, none⟩) _ hne).set_other (a := ⟨g, 2, none⟩) _ hne).set_other (a := ⟨g, 3, none⟩) _ hne).set_other (a := ⟨g, 4, none⟩) _ hne).set_other (a := ⟨g, 5, none⟩) _ hne).set_other (a := ⟨g, 6, none⟩) _ hne
theorem Row.past6 {w : World} {g g' n : Nat} {f : Nat → Int} (h : Row w g' n f) (hne : g ≠ g') (v0 v1 v2 v3 v4 v5 : Value) : Row ((((((w.setCell ⟨g, 0, none⟩ v0).setCell ⟨g, 1, none⟩ v1).setCell ⟨g, 2, none⟩ v2).setCell ⟨g, 3, none⟩ v3).setCell ⟨g, 4, none⟩ v4).setCell ⟨g, 5, none⟩ v5) g' n f :=
  (((((h.set_other (a := ⟨g, 0, none⟩) _ hne).set_other (a := ⟨g, 1, none⟩) _ hne).set_other (a := ⟨g, 2, none⟩) _ hne).set_other (a := ⟨g, 3, none⟩) _ hne).set_other (a := ⟨g, 4, none⟩) _ hne).set_other (a := ⟨g, 5, none⟩) _ hne
theorem size7 (w : World) (g : Nat) (v0 v1 v2 v3 v4 v5 v6 : Value) : (((((((w.setCell ⟨g, 0, none⟩ v0).setCell ⟨g, 1, none⟩ v1).setCell ⟨g, 2, none⟩ v2).setCell ⟨g, 3, none⟩ v3).setCell ⟨g, 4, none⟩ v4).setCell ⟨g, 5, none⟩ v5).setCell ⟨g, 6, none⟩ v6).heap.size = w.heap.size := by simp [World.setCell]
theorem size6 (w : World) (g : Nat) (v0 v1 v2 v3 v4 v5 : Value) : ((((((w.setCell ⟨g, 0, none⟩ v0).setCell ⟨g, 1, none⟩ v1).setCell ⟨g, 2, none⟩ v2).setCell ⟨g, 3, none⟩ v3).setCell ⟨g, 4, none⟩ v4).setCell ⟨g, 5, none⟩ v5).heap.size = w.heap.size := by simp [World.setCell]

/-- The guess is not too small. -/
theorem gs_ge (X d s : Nat) (hd0 : 0 < d) (hd : d < 2 ^ (64 * (s + 1))) (hX : X < d * 18446744073709551616) : X / d ≤ gs (wn X (s + 1)) (wn X s) (wn d s) := by
  unfold gs
  have hq : X / d < 18446744073709551616 := (Nat.div_lt_iff_lt_mul hd0).2 (by rw [Nat.mul_comm]; exact hX)
  by_cases c : wn d s ≤ wn X (s + 1)
  · rw [if_pos c]; omega
  · rw [if_neg c]
    rw [Nat.le_div_iff_mul_le (by omega)]
    have hp := pow_pos' s
    -- the divisor's top word
    have td : wn d s = d / 2 ^ (64 * s) := by
      unfold wn
      rw [Nat.mod_eq_of_lt]
      rw [Nat.div_lt_iff_lt_mul hp, Nat.mul_comm, ← pow_step]; exact hd
    have tX : wn X (s + 1) * 18446744073709551616 + wn X s = X / 2 ^ (64 * s) := by
      unfold wn
      rw [pow_step, ← Nat.div_div_eq_div_mul]
      have hlt : X / 2 ^ (64 * s) / 18446744073709551616 < 18446744073709551616 := by
        rw [Nat.div_div_eq_div_mul, ← pow_step, Nat.div_lt_iff_lt_mul (pow_pos' _)]
        calc X < d * 18446744073709551616 := hX
          _ ≤ 2 ^ (64 * (s + 1)) * 18446744073709551616 := Nat.mul_le_mul_right _ (Nat.le_of_lt hd)
          _ = 18446744073709551616 * 2 ^ (64 * (s + 1)) := Nat.mul_comm _ _
      rw [Nat.mod_eq_of_lt hlt]
      omega
    rw [tX, td, Nat.le_div_iff_mul_le hp]
    calc X / d * (d / 2 ^ (64 * s)) * 2 ^ (64 * s) = X / d * (d / 2 ^ (64 * s) * 2 ^ (64 * s)) := Nat.mul_assoc _ _ _
      _ ≤ X / d * d := Nat.mul_le_mul_left _ (Nat.div_mul_le_self _ _)
      _ ≤ X := Nat.div_mul_le_self _ _

/-- What a step of mending does. -/
theorem mend (X d o M : Nat) (hX : X < (o + 1) * d) (ho : (o + 1) * d ≤ M) :
    (X + M - (o + 1) * d) % M = X + M - (o + 1) * d ∧ (X + M - (o + 1) * d + d) % M = (X + M - o * d) % M ∧ decide (M ≤ X + M - (o + 1) * d + d) = decide (o * d ≤ X) := by
  rw [Nat.add_mul, Nat.one_mul] at hX ho ⊢
  refine ⟨Nat.mod_eq_of_lt (by omega), by congr 1; omega, ?_⟩
  by_cases c : o * d ≤ X
  · rw [decide_eq_true c]; exact decide_eq_true (by omega)
  · rw [decide_eq_false c]; exact decide_eq_false (by omega)
theorem mended (X d o M : Nat) (hd0 : 0 < d) (hle : o * d ≤ X) (hge : X / d ≤ o) (hXM : X < M) : o = X / d ∧ (X + M - o * d) % M = X % d := by
  have h1 : o ≤ X / d := (Nat.le_div_iff_mul_le hd0).2 hle
  have h2 : o = X / d := by omega
  refine ⟨h2, ?_⟩
  have e : X + M - o * d = (X - o * d) + M := by omega
  rw [e, Nat.add_mod_right, Nat.mod_eq_of_lt (by omega)]
  have := Nat.div_add_mod X d
  rw [Nat.mul_comm, ← h2] at this
  omega
end Go.Proofs.YtoagmdgmbkpghabDoor
