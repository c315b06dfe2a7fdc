/- Plain arithmetic of words, and rows of words in memory. -/
import Derived.WalkKit
namespace Go.Proofs.Ytjmbgchoioepjaa
open Go.RowKit

/-- Word i of a number. -/
def wd (v i : Nat) : Int := ((v / 2 ^ (64 * i) % 18446744073709551616 : Nat) : Int)
theorem wd_bd (v i : Nat) : 0 ≤ wd v i ∧ wd v i < 18446744073709551616 := by unfold wd; omega
def big : Nat := 2 ^ (64 * 6)
theorem pow_step (k : Nat) : 2 ^ (64 * (k + 1)) = 2 ^ (64 * k) * 18446744073709551616 := by
  rw [Nat.mul_add, Nat.pow_add]
theorem big_eq : big = 2 ^ (64 * 6) := by rw [big]
theorem pow_pos' (k : Nat) : 0 < 2 ^ (64 * k) := Nat.two_pow_pos _

/-- A number as the six words of an array. -/
abbrev N (v : Nat) : Value := .agg #[.int .u64 (wd v 0), .int .u64 (wd v 1), .int .u64 (wd v 2), .int .u64 (wd v 3), .int .u64 (wd v 4), .int .u64 (wd v 5)]

/-- The words of v below place k, noughts from there on. -/
def part (v k j : Nat) : Int := if j < k then wd v j else 0
def upd (f : Nat → Int) (k : Nat) (v : Int) (j : Nat) : Int := if j = k then v else f j
theorem part_step {v k : Nat} {x : Int} (h : x = wd v k) (j : Nat) : upd (part v k) k x j = part v (k + 1) j := by
  unfold upd part
  by_cases h1 : j = k
  · subst h1; simp [h]
  · rw [if_neg h1]
    by_cases h2 : j < k
    · rw [if_pos h2, if_pos (by omega)]
    · rw [if_neg h2, if_neg (by omega)]
theorem part_lt {v k j : Nat} (h : j < k) : part v k j = wd v j := if_pos h
theorem part_zero (v j : Nat) : part v 0 j = 0 := rfl

theorem wd_mod (v j : Nat) (h : j < 6) : wd (v % big) j = wd v j := by
  unfold wd
  have e : big = 2 ^ (64 * j) * (18446744073709551616 * 2 ^ (64 * (5 - j))) := by
    have : 64 * 6 = 64 * j + (64 + 64 * (5 - j)) := by omega
    rw [big, this, Nat.pow_add, Nat.pow_add]
  rw [e, Nat.mod_mul_right_div_self, Nat.mod_mul_right_mod]

/-! Sums. -/
def cry (a b k : Nat) : Int := (((a % 2 ^ (64 * k) + b % 2 ^ (64 * k)) / 2 ^ (64 * k) : Nat) : Int)
theorem cry_nat (a b k : Nat) : (a % 2 ^ (64 * k) + b % 2 ^ (64 * k)) / 2 ^ (64 * k) ≤ 1 := by
  have hp := pow_pos' k
  have h1 := Nat.mod_lt a hp
  have h2 := Nat.mod_lt b hp
  have h3 : (a % 2 ^ (64 * k) + b % 2 ^ (64 * k)) / 2 ^ (64 * k) < 2 := (Nat.div_lt_iff_lt_mul hp).2 (by omega)
  omega
theorem cry_bd (a b k : Nat) : 0 ≤ cry a b k ∧ cry a b k ≤ 1 := by
  exact ⟨Int.natCast_nonneg _, Int.ofNat_le.2 (cry_nat a b k)⟩
def addLo (x y c : Int) : Int := (x + y + c) % 18446744073709551616
def addHi (x y c : Int) : Int := (x + y + c) / 18446744073709551616
theorem div_split (a b B : Nat) (hB : 0 < B) : (a + b) / B = a / B + b / B + (a % B + b % B) / B := by
  have ha := Nat.div_add_mod a B
  have hb := Nat.div_add_mod b B
  have e : a + b = (a % B + b % B) + B * (a / B + b / B) := by rw [Nat.mul_add]; omega
  rw [e, Nat.add_mul_div_left _ _ hB]; omega
theorem add_word (a b k : Nat) : addLo (wd a k) (wd b k) (cry a b k) = wd (a + b) k := by
  unfold addLo wd cry
  rw [div_split a b _ (pow_pos' k)]
  omega
theorem add_cry (a b k : Nat) : addHi (wd a k) (wd b k) (cry a b k) = cry a b (k + 1) := by
  unfold addHi wd cry
  rw [pow_step, ← Nat.div_div_eq_div_mul, Nat.mod_mul, Nat.mod_mul]
  have hp := pow_pos' k
  generalize 2 ^ (64 * k) = B at hp ⊢
  have e : a % B + B * (a / B % 18446744073709551616) + (b % B + B * (b / B % 18446744073709551616)) = (a % B + b % B) + B * (a / B % 18446744073709551616 + b / B % 18446744073709551616) := by rw [Nat.mul_add]; omega
  rw [e, Nat.add_mul_div_left _ _ hp]
  generalize (a % B + b % B) / B = c
  omega
theorem cry_end (a b : Nat) (ha : a < big) (hb : b < big) : (cry a b 6 != 0) = decide (big ≤ a + b) := by
  have h := cry_nat a b 6
  unfold cry
  rw [← big_eq] at h ⊢
  rw [Nat.mod_eq_of_lt ha, Nat.mod_eq_of_lt hb] at h ⊢
  by_cases hs : big ≤ a + b
  · have : 1 ≤ (a + b) / big := (Nat.le_div_iff_mul_le (by decide +kernel)).2 (by omega)
    rw [decide_eq_true hs, bne_iff_ne]; omega
  · have : (a + b) / big = 0 := Nat.div_eq_of_lt (by omega)
    rw [decide_eq_false hs, this]; rfl

/-! Differences. -/
def bor (x y : Int) : Int := if x < y then 1 else 0
def subLo (x y b : Int) : Int := (x - y - b) % 18446744073709551616
def brw (a b k : Nat) : Int := if a % 2 ^ (64 * k) < b % 2 ^ (64 * k) then 1 else 0
theorem brw_bd (a b k : Nat) : 0 ≤ brw a b k ∧ brw a b k ≤ 1 := by unfold brw; split <;> omega
theorem sub_cry (a b k : Nat) : bor (wd a k) (wd b k + brw a b k) = brw a b (k + 1) := by
  unfold bor wd brw
  rw [pow_step, Nat.mod_mul, Nat.mod_mul]
  have hp := pow_pos' k
  generalize 2 ^ (64 * k) = B at hp ⊢
  have ha := Nat.mod_lt a hp
  have hb := Nat.mod_lt b hp
  generalize a / B % 18446744073709551616 = x
  generalize b / B % 18446744073709551616 = y
  generalize a % B = p at ha ⊢
  generalize b % B = q at hb ⊢
  by_cases h1 : x < y
  · have h2 : B * (x + 1) ≤ B * y := Nat.mul_le_mul_left B h1
    rw [Nat.mul_add] at h2
    rw [if_pos (by split <;> omega), if_pos (by omega)]
  · by_cases h3 : x = y
    · subst h3
      by_cases h4 : p < q
      · rw [if_pos (by rw [if_pos h4]; omega), if_pos (by omega)]
      · rw [if_neg (by rw [if_neg h4]; omega), if_neg (by omega)]
    · have h2 : B * (y + 1) ≤ B * x := Nat.mul_le_mul_left B (by omega)
      rw [Nat.mul_add] at h2
      rw [if_neg (by split <;> omega), if_neg (by omega)]
theorem sub_word (a b k : Nat) (hk : k < 6) (hb : b < big) : subLo (wd a k) (wd b k) (brw a b k) = wd (a + big - b) k := by
  unfold subLo wd brw
  have e : big = 2 ^ (64 * k) * (18446744073709551616 * 2 ^ (64 * (5 - k))) := by
    have : 64 * 6 = 64 * k + (64 + 64 * (5 - k)) := by omega
    rw [big, this, Nat.pow_add, Nat.pow_add]
  have hp := pow_pos' k
  rw [e] at hb ⊢
  generalize 2 ^ (64 * (5 - k)) = R at hb ⊢
  generalize 2 ^ (64 * k) = B at hp hb ⊢
  have hbh : b / B < 18446744073709551616 * R := (Nat.div_lt_iff_lt_mul hp).2 (by rw [Nat.mul_comm]; exact hb)
  have da := Nat.div_add_mod a B
  have db := Nat.div_add_mod b B
  have la := Nat.mod_lt a hp
  have lb := Nat.mod_lt b hp
  generalize a / B = x at da ⊢
  generalize b / B = y at db hbh ⊢
  generalize a % B = p at da la ⊢
  generalize b % B = q at db lb ⊢
  by_cases h : p < q
  · have e2 : a + B * (18446744073709551616 * R) - b = (p + B - q) + B * (x + 18446744073709551616 * R - y - 1) := by
      have h3 : B * (x + 18446744073709551616 * R - y - 1) = B * x + B * (18446744073709551616 * R) - B * y - B := by
        rw [Nat.mul_sub, Nat.mul_sub, Nat.mul_add, Nat.mul_one]
      have h4 : B * y + B ≤ B * (18446744073709551616 * R) := by rw [← Nat.mul_succ]; exact Nat.mul_le_mul_left B hbh
      rw [h3]; omega
    rw [e2, Nat.add_mul_div_left _ _ hp, Nat.div_eq_of_lt (by omega : p + B - q < B), if_pos h]
    omega
  · have e2 : a + B * (18446744073709551616 * R) - b = (p - q) + B * (x + 18446744073709551616 * R - y) := by
      have h3 : B * (x + 18446744073709551616 * R - y) = B * x + B * (18446744073709551616 * R) - B * y := by
        rw [Nat.mul_sub, Nat.mul_add]
      have h4 : B * y + B ≤ B * (18446744073709551616 * R) := by rw [← Nat.mul_succ]; exact Nat.mul_le_mul_left B hbh
      rw [h3]; omega
    rw [e2, Nat.add_mul_div_left _ _ hp, Nat.div_eq_of_lt (by omega : p - q < B), if_neg h]
    omega
theorem brw_end (a b : Nat) (ha : a < big) (hb : b < big) : (brw a b 6 != 0) = decide (a < b) := by
  unfold brw
  rw [← big_eq, Nat.mod_eq_of_lt ha, Nat.mod_eq_of_lt hb]
  by_cases h : a < b
  · rw [if_pos h, decide_eq_true h]; rfl
  · rw [if_neg h, decide_eq_false h]; rfl

/-! Rows of words in memory. -/
/-- Block g of w holds n words, as f tells them, and may be written. -/
def Row (w : World) (g n : Nat) (f : Nat → Int) : Prop := ∀ j, j < n → w.cell? ⟨g, j, none⟩ = some (.int .u64 (f j)) ∧ w.frozen? ⟨g, j, none⟩ = false
theorem Row.drew {w : World} {g n : Nat} {f : Nat → Int} (h : Row w g n f) : Row w.drew g n f := fun j hj => ⟨by rw [World.cell?_drew]; exact (h j hj).1, by rw [World.frozen?_drew]; exact (h j hj).2⟩
theorem Row.drew_iff {w : World} {g n : Nat} {f : Nat → Int} : Row w.drew g n f ↔ Row w g n f := Iff.rfl
theorem Row.congr {w : World} {g n : Nat} {f f' : Nat → Int} (h : Row w g n f) (e : ∀ j, j < n → f j = f' j) : Row w g n f' := fun j hj => by rw [← e j hj]; exact h j hj
theorem Row.set {w : World} {g n : Nat} {f : Nat → Int} (h : Row w g n f) {k : Nat} (v : Int) : Row (w.setCell ⟨g, k, none⟩ (.int .u64 v)) g n (upd f k v) := by
  intro j hj
  obtain ⟨h1, h2⟩ := h j hj
  refine ⟨?_, by rw [World.frozen?_setCell]; exact h2⟩
  unfold upd
  by_cases e : j = k
  · subst e; rw [if_pos rfl]; exact World.cell?_setCell_same _ _ _ h1
  · rw [if_neg e, World.cell?_setCell_other _ _ _ _ (by intro h; injection h with h1 h2; exact e h2.symm)]; exact h1
theorem Row.set_other {w : World} {g n : Nat} {f : Nat → Int} (h : Row w g n f) {a : Addr} (v : Value) (hne : a.block ≠ g) : Row (w.setCell a v) g n f := by
  intro j hj
  obtain ⟨h1, h2⟩ := h j hj
  exact ⟨by rw [World.cell?_setCell_other _ _ _ _ (by intro h; apply hne; rw [h])]; exact h1, by rw [World.frozen?_setCell]; exact h2⟩
theorem Row.alloc {w : World} {g n : Nat} {f : Nat → Int} (h : Row w g n f) (hg : g < w.heap.size) (o : Obj) : Row (w.alloc o) g n f := by
  intro j hj
  obtain ⟨h1, h2⟩ := h j hj
  exact ⟨by rw [World.cell?_alloc_past _ _ _ hg]; exact h1, by rw [World.frozen?_alloc_past _ _ _ hg]; exact h2⟩
theorem Row.new (w : World) (c : Array Value) (t : TypeId) {g n : Nat} (hg : g = w.heap.size) {f : Nat → Int} (h : ∀ j, j < n → c[j]? = some (.int .u64 (f j))) : Row (w.alloc (.cells c t)) g n f := by
  intro j hj
  exact ⟨by rw [World.cell?_alloc_at _ _ _ _ hg]; exact h j hj, World.frozen?_alloc_at _ _ _ _ hg⟩
theorem Row.below {B : Nat} {w w' : World} (hb : Below B w w') {g n : Nat} {f : Nat → Int} (h : Row w g n f) (hg : g < B) : Row w' g n f := by
  intro j hj
  obtain ⟨h1, h2⟩ := h j hj
  exact ⟨by rw [hb.cell (p := ⟨g, j, none⟩) hg]; exact h1, by rw [hb.frozen (p := ⟨g, j, none⟩) hg]; exact h2⟩
theorem six_lt {f : Nat → Int} {c : Array Value} (h : c = #[.int .u64 (f 0), .int .u64 (f 1), .int .u64 (f 2), .int .u64 (f 3), .int .u64 (f 4), .int .u64 (f 5)]) : ∀ j, j < 6 → c[j]? = some (.int .u64 (f j)) := by
  subst h
  intro j hj
  match j, hj with
  | 0, _ => rfl
  | 1, _ => rfl
  | 2, _ => rfl
  | 3, _ => rfl
  | 4, _ => rfl
  | 5, _ => rfl
/-- Six words may be read and written. -/
theorem Row.reads {w : World} {g : Nat} {f : Nat → Int} (h : Row w g 6 f) : w.cell? ⟨g, 0, none⟩ = some (.int .u64 (f 0)) ∧ w.cell? ⟨g, 1, none⟩ = some (.int .u64 (f 1)) ∧ w.cell? ⟨g, 2, none⟩ = some (.int .u64 (f 2)) ∧ w.cell? ⟨g, 3, none⟩ = some (.int .u64 (f 3)) ∧ w.cell? ⟨g, 4, none⟩ = some (.int .u64 (f 4)) ∧ w.cell? ⟨g, 5, none⟩ = some (.int .u64 (f 5)) :=
  ⟨(h 0 (by omega)).1, (h 1 (by omega)).1, (h 2 (by omega)).1, (h 3 (by omega)).1, (h 4 (by omega)).1, (h 5 (by omega)).1⟩
theorem Row.writes {w : World} {g : Nat} {f : Nat → Int} (h : Row w g 6 f) : w.frozen? ⟨g, 0, none⟩ = false ∧ w.frozen? ⟨g, 1, none⟩ = false ∧ w.frozen? ⟨g, 2, none⟩ = false ∧ w.frozen? ⟨g, 3, none⟩ = false ∧ w.frozen? ⟨g, 4, none⟩ = false ∧ w.frozen? ⟨g, 5, none⟩ = false :=
  ⟨(h 0 (by omega)).2, (h 1 (by omega)).2, (h 2 (by omega)).2, (h 3 (by omega)).2, (h 4 (by omega)).2, (h 5 (by omega)).2⟩
/-- Six stores into one of the call's own blocks. -/
theorem below6 {B g : Nat} {w wr : World} (h : Below B w wr) (hg : B ≤ g) (v0 v1 v2 v3 v4 v5 : Value) : Below B w ((((((wr.setCell ⟨g, 0, none⟩ v0).setCell ⟨g, 1, none⟩ v1).setCell ⟨g, 2, none⟩ v2).setCell ⟨g, 3, none⟩ v3).setCell ⟨g, 4, none⟩ v4).setCell ⟨g, 5, none⟩ v5) :=
  (((((h.setCell (p := ⟨g, 0, none⟩) hg _).setCell (p := ⟨g, 1, none⟩) hg _).setCell (p := ⟨g, 2, none⟩) hg _).setCell (p := ⟨g, 3, none⟩) hg _).setCell (p := ⟨g, 4, none⟩) hg _).setCell (p := ⟨g, 5, none⟩) hg _
end Go.Proofs.Ytjmbgchoioepjaa
