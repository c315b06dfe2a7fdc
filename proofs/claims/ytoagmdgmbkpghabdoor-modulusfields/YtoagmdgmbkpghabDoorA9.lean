/- The plain arithmetic of words.takeTimes, words.putBack. -/
import Derived.Test.YtoagmdgmbkpghabDoorA4
import Derived.Test.YtoagmdgmbkpghabDoorA6
namespace Go.Proofs.YtoagmdgmbkpghabDoor
open Go.RowKit

theorem wd_off (r i k : Nat) : wd r (i + k) = wd (r / 2 ^ (64 * i)) k := by
  unfold wd; rw [pow_add', Nat.div_div_eq_div_mul]
theorem wd_modp (v m j : Nat) (h : j < m) : wd (v % 2 ^ (64 * m)) j = wd v j := by
  unfold wd
  have e : 2 ^ (64 * m) = 2 ^ (64 * j) * (18446744073709551616 * 2 ^ (64 * (m - j - 1))) := by
    have : 64 * m = 64 * j + (64 + 64 * (m - j - 1)) := by omega
    rw [this, Nat.pow_add, Nat.pow_add]
  rw [e, Nat.mod_mul_right_div_self, Nat.mod_mul_right_mod]
theorem sub_word' (a b k m : Nat) (hk : k < m) (hb : b < 2 ^ (64 * m)) : subLo (wd a k) (wd b k) (brw a b k) = wd (a + 2 ^ (64 * m) - b) k := by
  unfold subLo wd brw
  have e : 2 ^ (64 * m) = 2 ^ (64 * k) * (18446744073709551616 * 2 ^ (64 * (m - k - 1))) := by
    have : 64 * m = 64 * k + (64 + 64 * (m - k - 1)) := by omega
    rw [this, Nat.pow_add, Nat.pow_add]
  have hp := pow_pos' k
  rw [e] at hb ⊢
  generalize 2 ^ (64 * (m - k - 1)) = R at hb ⊢
  generalize 2 ^ (64 * k) = B at hp hb ⊢
  have hbh : b / B < 18446744073709551616 * R := (Nat.div_lt_iff_lt_mul hp).2 (by rw [Nat.mul_comm]; exact hb)
  have da := Nat.div_add_mod a B
  have db := Nat.div_add_mod b B
  have la := Nat.mod_lt a hp
  have lb := Nat.mod_lt b hp
  generalize a / B = x at da ⊢
  generalize b / B = y at db hbh ⊢
  generalize a % B = p at da la ⊢
  generalize b % B = q at db lb ⊢
  by_cases h : p < q
  · have e2 : a + B * (18446744073709551616 * R) - b = (p + B - q) + B * (x + 18446744073709551616 * R - y - 1) := by
      have h3 : B * (x + 18446744073709551616 * R - y - 1) = B * x + B * (18446744073709551616 * R) - B * y - B := by
        rw [Nat.mul_sub, Nat.mul_sub, Nat.mul_add, Nat.mul_one]
      have h4 : B * y + B ≤ B * (18446744073709551616 * R) := by rw [← Nat.mul_succ]; exact Nat.mul_le_mul_left B hbh
      rw [h3]; omega
    rw [e2, Nat.add_mul_div_left _ _ hp, Nat.div_eq_of_lt (by omega : p + B - q < B), if_pos h]
    omega
  · have e2 : a + B * (18446744073709551616 * R) - b = (p - q) + B * (x + 18446744073709551616 * R - y) := by
      have h3 : B * (x + 18446744073709551616 * R - y) = B * x + B * (18446744073709551616 * R) - B * y := by
        rw [Nat.mul_sub, Nat.mul_add]
      have h4 : B * y + B ≤ B * (18446744073709551616 * R) := by rw [← Nat.mul_succ]; exact Nat.mul_le_mul_left B hbh
      rw [h3]; omega
    rw [e2, Nat.add_mul_div_left _ _ hp, Nat.div_eq_of_lt (by omega : p - q < B), if_neg h]
    omega

/-- The carry of q times the lowest k words of d. -/
def tc (d q k : Nat) : Int := ((q * (d % 2 ^ (64 * k)) / 2 ^ (64 * k) : Nat) : Int)
theorem tc_zero (d q : Nat) : tc d q 0 = 0 := by unfold tc; simp [Nat.mod_one]
theorem tc_bd (d q k : Nat) (hq : q < 18446744073709551616) : 0 ≤ tc d q k ∧ tc d q k < 18446744073709551616 := by
  refine ⟨Int.natCast_nonneg _, Int.ofNat_lt.2 ?_⟩
  have hp := pow_pos' k
  rw [Nat.div_lt_iff_lt_mul hp]
  exact Nat.lt_of_le_of_lt (Nat.mul_le_mul_left q (Nat.le_of_lt (Nat.mod_lt d hp))) (Nat.mul_lt_mul_of_pos_right hq hp)
theorem tm_core (d q k : Nat) : (wn d k * q + q * (d % 2 ^ (64 * k)) / 2 ^ (64 * k)) / 18446744073709551616 = q * (d % 2 ^ (64 * (k + 1))) / 2 ^ (64 * (k + 1)) ∧
    (wn d k * q + q * (d % 2 ^ (64 * k)) / 2 ^ (64 * k)) % 18446744073709551616 = wn (q * d) k := by
  have hp := pow_pos' k
  constructor
  · rw [mod_step, pow_step, ← Nat.div_div_eq_div_mul, Nat.mul_add]
    congr 1
    rw [Nat.mul_left_comm, Nat.add_mul_div_left _ _ hp, Nat.mul_comm (wn d k) q, Nat.add_comm]
  · unfold wn
    have e : q * d = q * (d % 2 ^ (64 * k)) + 2 ^ (64 * k) * (q * (d / 2 ^ (64 * k))) := by
      have := Nat.div_add_mod d (2 ^ (64 * k))
      rw [Nat.mul_left_comm, ← Nat.mul_add]
      congr 1
      omega
    rw [e, Nat.add_mul_div_left _ _ hp]
    generalize q * (d % 2 ^ (64 * k)) / 2 ^ (64 * k) = c
    generalize d / 2 ^ (64 * k) = x
    rw [Nat.add_comm, Nat.add_mod, Nat.mod_mul_mod, Nat.mul_comm x q, ← Nat.add_mod]
theorem tm_lo (d q k : Nat) : mulLo (wd d k) q 0 (tc d q k) = wd (q * d) k := by
  unfold mulLo tc
  rw [wd_wn, wd_wn, ← (tm_core d q k).2, Int.add_zero, ← Int.natCast_mul, ← Int.natCast_add]
  rfl
theorem tm_hi (d q k : Nat) : mulHi (wd d k) q 0 (tc d q k) = tc d q (k + 1) := by
  unfold mulHi tc
  rw [wd_wn, ← (tm_core d q k).1, Int.add_zero, ← Int.natCast_mul, ← Int.natCast_add]
  rfl
theorem tc_end (d q s : Nat) (hd : d < 2 ^ (64 * s)) (hq : q < 18446744073709551616) : tc d q s = wd (q * d) s := by
  have h := (tc_bd d q s hq).2
  unfold tc at h ⊢
  rw [Nat.mod_eq_of_lt hd] at h ⊢
  unfold wd
  rw [Nat.mod_eq_of_lt (Int.ofNat_lt.1 h)]

/-- The lowest i words of r, and Y above them. -/
def glue (r i Y : Nat) : Nat := r % 2 ^ (64 * i) + 2 ^ (64 * i) * Y
theorem glue_div (r i Y : Nat) : glue r i Y / 2 ^ (64 * i) = Y := by
  unfold glue
  rw [Nat.add_mul_div_left _ _ (pow_pos' i), Nat.div_eq_of_lt (Nat.mod_lt _ (pow_pos' i)), Nat.zero_add]
theorem glue_mod (r i Y : Nat) : glue r i Y % 2 ^ (64 * i) = r % 2 ^ (64 * i) := by
  unfold glue
  rw [Nat.add_mul_mod_self_left, Nat.mod_mod]
theorem glue_glue (r i Y Z : Nat) : glue (glue r i Y) i Z = glue r i Z := by
  rw [glue, glue_mod]; rfl
theorem glue_self (r i : Nat) : glue r i (r / 2 ^ (64 * i)) = r := by
  unfold glue
  have := Nat.div_add_mod r (2 ^ (64 * i))
  omega
theorem glue_lt (r i s Y : Nat) (h : Y < 2 ^ (64 * s)) : glue r i Y < 2 ^ (64 * (i + s)) := by
  unfold glue
  have h1 := Nat.mod_lt r (pow_pos' i)
  have h2 : 2 ^ (64 * i) * (Y + 1) ≤ 2 ^ (64 * i) * 2 ^ (64 * s) := Nat.mul_le_mul_left _ h
  rw [pow_add']
  rw [Nat.mul_add, Nat.mul_one] at h2
  omega
/-- While words i to i + k - 1 have been written. -/
def gl (r Y i k j : Nat) : Int := if i ≤ j ∧ j < i + k then wd Y (j - i) else wd r j
theorem gl_zero (r Y i j : Nat) : gl r Y i 0 j = wd r j := by unfold gl; rw [if_neg (by omega)]
theorem gl_at (r Y i k : Nat) : gl r Y i k (i + k) = wd r (i + k) := by unfold gl; rw [if_neg (by omega)]
theorem gl_step (r Y i k j : Nat) {x : Int} (h : x = wd Y k) : upd (gl r Y i k) (i + k) x j = gl r Y i (k + 1) j := by
  unfold upd gl
  by_cases h1 : j = i + k
  · subst h1; rw [if_pos rfl, if_pos (by omega), h, Nat.add_sub_cancel_left]
  · rw [if_neg h1]
    by_cases h2 : i ≤ j ∧ j < i + k
    · rw [if_pos h2, if_pos (by omega)]
    · rw [if_neg h2, if_neg (by omega)]
theorem gl_end (r Y i m j : Nat) (hr : r < 2 ^ (64 * (i + m))) : gl r Y i m j = wd (glue r i (Y % 2 ^ (64 * m))) j := by
  unfold gl
  by_cases h2 : i ≤ j ∧ j < i + m
  · rw [if_pos h2]
    obtain ⟨k, rfl⟩ : ∃ k, j = i + k := ⟨j - i, by omega⟩
    rw [wd_off, glue_div, wd_modp _ _ _ (by omega), Nat.add_sub_cancel_left]
  · rw [if_neg h2]
    by_cases h3 : j < i
    · rw [← wd_modp r i j h3, ← wd_modp (glue r i _) i j h3, glue_mod]
    · rw [wd_top' r (i + m) j hr (by omega), wd_top' _ (i + m) j (glue_lt r i m _ (Nat.mod_lt _ (pow_pos' m))) (by omega)]
theorem brw_fin (X P m : Nat) (hX : X < 2 ^ (64 * m)) (hP : P < 2 ^ (64 * m)) : (brw X P m != 0) = decide (X < P) := by
  unfold brw
  rw [Nat.mod_eq_of_lt hX, Nat.mod_eq_of_lt hP]
  by_cases h : X < P
  · rw [if_pos h, decide_eq_true h]; rfl
  · rw [if_neg h, decide_eq_false h]; rfl
theorem cry_fin (a b m : Nat) (ha : a < 2 ^ (64 * m)) (hb : b < 2 ^ (64 * m)) : (cry a b m != 0) = decide (2 ^ (64 * m) ≤ a + b) := by
  have h := cry_nat a b m
  unfold cry
  rw [Nat.mod_eq_of_lt ha, Nat.mod_eq_of_lt hb] at h ⊢
  have hp := pow_pos' m
  by_cases hs : 2 ^ (64 * m) ≤ a + b
  · have : 1 ≤ (a + b) / 2 ^ (64 * m) := (Nat.le_div_iff_mul_le hp).2 (by omega)
    rw [decide_eq_true hs, bne_iff_ne]
    intro h0
    have := Int.ofNat.inj h0
    omega
  · have : (a + b) / 2 ^ (64 * m) = 0 := Nat.div_eq_of_lt (by omega)
    rw [decide_eq_false hs, this]; rfl
theorem tq_lt (d q s : Nat) (hd : d < 2 ^ (64 * s)) (hq : q < 18446744073709551616) : q * d < 2 ^ (64 * (s + 1)) := by
  rw [pow_step, Nat.mul_comm]
  exact Nat.mul_lt_mul'' hd hq
theorem off_lt (r i m : Nat) (h : r < 2 ^ (64 * (i + m))) : r / 2 ^ (64 * i) < 2 ^ (64 * m) := by
  rw [Nat.div_lt_iff_lt_mul (pow_pos' i), Nat.mul_comm, ← pow_add']; exact h

/-- A number as the seven words of a long. -/
abbrev L7 (v : Nat) : Value := .agg #[.int .u64 (wd v 0), .int .u64 (wd v 1), .int .u64 (wd v 2), .int .u64 (wd v 3), .int .u64 (wd v 4), .int .u64 (wd v 5), .int .u64 (wd v 6)]
theorem seven_lt {f : Nat → Int} {c : Array Value} (h : c = #[.int .u64 (f 0), .int .u64 (f 1), .int .u64 (f 2), .int .u64 (f 3), .int .u64 (f 4), .int .u64 (f 5), .int .u64 (f 6)]) : ∀ j, j < 7 → c[j]? = some (.int .u64 (f j)) := by
  subst h
  intro j hj
  match j, hj with
  | 0, _ | 1, _ | 2, _ | 3, _ | 4, _ | 5, _ | 6, _ => rfl
theorem Row.reads7 {w : World} {g : Nat} {f : Nat → Int} (h : Row w g 7 f) : w.cell? ⟨g, 0, none⟩ = some (.int .u64 (f 0)) ∧ w.cell? ⟨g, 1, none⟩ = some (.int .u64 (f 1)) ∧ w.cell? ⟨g, 2, none⟩ = some (.int .u64 (f 2)) ∧ w.cell? ⟨g, 3, none⟩ = some (.int .u64 (f 3)) ∧ w.cell? ⟨g, 4, none⟩ = some (.int .u64 (f 4)) ∧ w.cell? ⟨g, 5, none⟩ = some (.int .u64 (f 5)) ∧ w.cell? ⟨g, 6, none⟩ = some (.int .u64 (f 6)) :=
  ⟨(h 0 (by omega)).1, (h 1 (by omega)).1, (h 2 (by omega)).1, (h 3 (by omega)).1, (h 4 (by omega)).1, (h 5 (by omega)).1, (h 6 (by omega)).1⟩
theorem Row.writes7 {w : World} {g : Nat} {f : Nat → Int} (h : Row w g 7 f) : w.frozen? ⟨g, 0, none⟩ = false ∧ w.frozen? ⟨g, 1, none⟩ = false ∧ w.frozen? ⟨g, 2, none⟩ = false ∧ w.frozen? ⟨g, 3, none⟩ = false ∧ w.frozen? ⟨g, 4, none⟩ = false ∧ w.frozen? ⟨g, 5, none⟩ = false ∧ w.frozen? ⟨g, 6, none⟩ = false :=
  ⟨(h 0 (by omega)).2, (h 1 (by omega)).2, (h 2 (by omega)).2, (h 3 (by omega)).2, (h 4 (by omega)).2, (h 5 (by omega)).2, (h 6 (by omega)).2⟩
theorem below7 {B g : Nat} {w wr : World} (h : Below B w wr) (hg : B ≤ g) (v0 v1 v2 v3 v4 v5 v6 : Value) : Below B w (((((((wr.setCell ⟨g, 0, none⟩ v0).setCell ⟨g, 1, none⟩ v1).setCell ⟨g, 2, none⟩ v2).setCell ⟨g, 3, none⟩ v3).setCell ⟨g, 4, none⟩ v4).setCell ⟨g, 5, none⟩ v5).setCell ⟨g, 6, none⟩ v6) :=
  (below6 h hg v0 v1 v2 v3 v4 v5).setCell (p := ⟨g, 6, none⟩) hg _
end Go.Proofs.YtoagmdgmbkpghabDoor
