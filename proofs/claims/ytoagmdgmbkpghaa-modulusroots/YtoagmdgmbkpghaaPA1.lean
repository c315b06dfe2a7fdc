/- A0, AS, A1, A2, A3, A4, A6, A7, A9, A10 in one text -/
import Derived.WalkKit
import Derived.Shelf.Bits.Mul64
import Derived.Shelf.Spec.BitsCarry
import Derived.Shelf.Spec.TrailingZeros
import Derived.Test.YtoagmdgmbkpghaaProg
import Derived.WalkSpells
import Derived.Laws.Externs
import Derived.Laws.Bits64b
import Derived.BigRegion
import Derived.Deep.RegionWith
/- Plain arithmetic of words, and rows of words in memory. -/
namespace Go.Proofs.Ytoagmdgmbkpghaa
open Go.RowKit

/-- Word i of a number. -/
def wd (v i : Nat) : Int := ((v / 2 ^ (64 * i) % 18446744073709551616 : Nat) : Int)
theorem wd_bd (v i : Nat) : 0 ≤ wd v i ∧ wd v i < 18446744073709551616 := by unfold wd; omega
def big : Nat := 2 ^ (64 * 6)
theorem pow_step (k : Nat) : 2 ^ (64 * (k + 1)) = 2 ^ (64 * k) * 18446744073709551616 := by
  rw [Nat.mul_add, Nat.pow_add]
theorem big_eq : big = 2 ^ (64 * 6) := by rw [big]
theorem pow_pos' (k : Nat) : 0 < 2 ^ (64 * k) := Nat.two_pow_pos _

/-- A number as the six words of an array. -/
abbrev N (v : Nat) : Value := .agg #[.int .u64 (wd v 0), .int .u64 (wd v 1), .int .u64 (wd v 2), .int .u64 (wd v 3), .int .u64 (wd v 4), .int .u64 (wd v 5)]

/-- The words of v below place k, noughts from there on. -/
def part (v k j : Nat) : Int := if j < k then wd v j else 0
def upd (f : Nat → Int) (k : Nat) (v : Int) (j : Nat) : Int := if j = k then v else f j
theorem part_step {v k : Nat} {x : Int} (h : x = wd v k) (j : Nat) : upd (part v k) k x j = part v (k + 1) j := by
  unfold upd part
  by_cases h1 : j = k
  · subst h1; simp [h]
  · rw [if_neg h1]
    by_cases h2 : j < k
    · rw [if_pos h2, if_pos (by omega)]
    · rw [if_neg h2, if_neg (by omega)]
theorem part_lt {v k j : Nat} (h : j < k) : part v k j = wd v j := if_pos h
theorem part_zero (v j : Nat) : part v 0 j = 0 := rfl

theorem wd_mod (v j : Nat) (h : j < 6) : wd (v % big) j = wd v j := by
  unfold wd
  have e : big = 2 ^ (64 * j) * (18446744073709551616 * 2 ^ (64 * (5 - j))) := by
    have : 64 * 6 = 64 * j + (64 + 64 * (5 - j)) := by omega
    rw [big, this, Nat.pow_add, Nat.pow_add]
  rw [e, Nat.mod_mul_right_div_self, Nat.mod_mul_right_mod]

/-! Sums. -/
def cry (a b k : Nat) : Int := (((a % 2 ^ (64 * k) + b % 2 ^ (64 * k)) / 2 ^ (64 * k) : Nat) : Int)
theorem cry_nat (a b k : Nat) : (a % 2 ^ (64 * k) + b % 2 ^ (64 * k)) / 2 ^ (64 * k) ≤ 1 := by
  have hp := pow_pos' k
  have h1 := Nat.mod_lt a hp
  have h2 := Nat.mod_lt b hp
  have h3 : (a % 2 ^ (64 * k) + b % 2 ^ (64 * k)) / 2 ^ (64 * k) < 2 := (Nat.div_lt_iff_lt_mul hp).2 (by omega)
  omega
theorem cry_bd (a b k : Nat) : 0 ≤ cry a b k ∧ cry a b k ≤ 1 := by
  exact ⟨Int.natCast_nonneg _, Int.ofNat_le.2 (cry_nat a b k)⟩
def addLo (x y c : Int) : Int := (x + y + c) % 18446744073709551616
def addHi (x y c : Int) : Int := (x + y + c) / 18446744073709551616
theorem div_split (a b B : Nat) (hB : 0 < B) : (a + b) / B = a / B + b / B + (a % B + b % B) / B := by
  have ha := Nat.div_add_mod a B
  have hb := Nat.div_add_mod b B
  have e : a + b = (a % B + b % B) + B * (a / B + b / B) := by rw [Nat.mul_add]; omega
  rw [e, Nat.add_mul_div_left _ _ hB]; omega
theorem add_word (a b k : Nat) : addLo (wd a k) (wd b k) (cry a b k) = wd (a + b) k := by
  unfold addLo wd cry
  rw [div_split a b _ (pow_pos' k)]
  omega
theorem add_cry (a b k : Nat) : addHi (wd a k) (wd b k) (cry a b k) = cry a b (k + 1) := by
  unfold addHi wd cry
  rw [pow_step, ← Nat.div_div_eq_div_mul, Nat.mod_mul, Nat.mod_mul]
  have hp := pow_pos' k
  generalize 2 ^ (64 * k) = B at hp ⊢
  have e : a % B + B * (a / B % 18446744073709551616) + (b % B + B * (b / B % 18446744073709551616)) = (a % B + b % B) + B * (a / B % 18446744073709551616 + b / B % 18446744073709551616) := by rw [Nat.mul_add]; omega
  rw [e, Nat.add_mul_div_left _ _ hp]
  generalize (a % B + b % B) / B = c
  omega
theorem cry_end (a b : Nat) (ha : a < big) (hb : b < big) : (cry a b 6 != 0) = decide (big ≤ a + b) := by
  have h := cry_nat a b 6
  unfold cry
  rw [← big_eq] at h ⊢
  rw [Nat.mod_eq_of_lt ha, Nat.mod_eq_of_lt hb] at h ⊢
  by_cases hs : big ≤ a + b
  · have : 1 ≤ (a + b) / big := (Nat.le_div_iff_mul_le (by decide +kernel)).2 (by omega)
    rw [decide_eq_true hs, bne_iff_ne]; omega
  · have : (a + b) / big = 0 := Nat.div_eq_of_lt (by omega)
    rw [decide_eq_false hs, this]; rfl

/-! Differences. -/
def bor (x y : Int) : Int := if x < y then 1 else 0
def subLo (x y b : Int) : Int := (x - y - b) % 18446744073709551616
def brw (a b k : Nat) : Int := if a % 2 ^ (64 * k) < b % 2 ^ (64 * k) then 1 else 0
theorem brw_bd (a b k : Nat) : 0 ≤ brw a b k ∧ brw a b k ≤ 1 := by unfold brw; split <;> omega
theorem sub_cry (a b k : Nat) : bor (wd a k) (wd b k + brw a b k) = brw a b (k + 1) := by
  unfold bor wd brw
  rw [pow_step, Nat.mod_mul, Nat.mod_mul]
  have hp := pow_pos' k
  generalize 2 ^ (64 * k) = B at hp ⊢
  have ha := Nat.mod_lt a hp
  have hb := Nat.mod_lt b hp
  generalize a / B % 18446744073709551616 = x
  generalize b / B % 18446744073709551616 = y
  generalize a % B = p at ha ⊢
  generalize b % B = q at hb ⊢
  by_cases h1 : x < y
  · have h2 : B * (x + 1) ≤ B * y := Nat.mul_le_mul_left B h1
    rw [Nat.mul_add] at h2
    rw [if_pos (by split <;> omega), if_pos (by omega)]
  · by_cases h3 : x = y
    · subst h3
      by_cases h4 : p < q
      · rw [if_pos (by rw [if_pos h4]; omega), if_pos (by omega)]
      · rw [if_neg (by rw [if_neg h4]; omega), if_neg (by omega)]
    · have h2 : B * (y + 1) ≤ B * x := Nat.mul_le_mul_left B (by omega)
      rw [Nat.mul_add] at h2
      rw [if_neg (by split <;> omega), if_neg (by omega)]
theorem sub_word (a b k : Nat) (hk : k < 6) (hb : b < big) : subLo (wd a k) (wd b k) (brw a b k) = wd (a + big - b) k := by
  unfold subLo wd brw
  have e : big = 2 ^ (64 * k) * (18446744073709551616 * 2 ^ (64 * (5 - k))) := by
    have : 64 * 6 = 64 * k + (64 + 64 * (5 - k)) := by omega
    rw [big, this, Nat.pow_add, Nat.pow_add]
  have hp := pow_pos' k
  rw [e] at hb ⊢
  generalize 2 ^ (64 * (5 - k)) = R at hb ⊢
  generalize 2 ^ (64 * k) = B at hp hb ⊢
  have hbh : b / B < 18446744073709551616 * R := (Nat.div_lt_iff_lt_mul hp).2 (by rw [Nat.mul_comm]; exact hb)
  have da := Nat.div_add_mod a B
  have db := Nat.div_add_mod b B
  have la := Nat.mod_lt a hp
  have lb := Nat.mod_lt b hp
  generalize a / B = x at da ⊢
  generalize b / B = y at db hbh ⊢
  generalize a % B = p at da la ⊢
  generalize b % B = q at db lb ⊢
  by_cases h : p < q
  · have e2 : a + B * (18446744073709551616 * R) - b = (p + B - q) + B * (x + 18446744073709551616 * R - y - 1) := by
      have h3 : B * (x + 18446744073709551616 * R - y - 1) = B * x + B * (18446744073709551616 * R) - B * y - B := by
        rw [Nat.mul_sub, Nat.mul_sub, Nat.mul_add, Nat.mul_one]
      have h4 : B * y + B ≤ B * (18446744073709551616 * R) := by rw [← Nat.mul_succ]; exact Nat.mul_le_mul_left B hbh
      rw [h3]; omega
    rw [e2, Nat.add_mul_div_left _ _ hp, Nat.div_eq_of_lt (by omega : p + B - q < B), if_pos h]
    omega
  · have e2 : a + B * (18446744073709551616 * R) - b = (p - q) + B * (x + 18446744073709551616 * R - y) := by
      have h3 : B * (x + 18446744073709551616 * R - y) = B * x + B * (18446744073709551616 * R) - B * y := by
        rw [Nat.mul_sub, Nat.mul_add]
      have h4 : B * y + B ≤ B * (18446744073709551616 * R) := by rw [← Nat.mul_succ]; exact Nat.mul_le_mul_left B hbh
      rw [h3]; omega
    rw [e2, Nat.add_mul_div_left _ _ hp, Nat.div_eq_of_lt (by omega : p - q < B), if_neg h]
    omega
theorem brw_end (a b : Nat) (ha : a < big) (hb : b < big) : (brw a b 6 != 0) = decide (a < b) := by
  unfold brw
  rw [← big_eq, Nat.mod_eq_of_lt ha, Nat.mod_eq_of_lt hb]
  by_cases h : a < b
  · rw [if_pos h, decide_eq_true h]; rfl
  · rw [if_neg h, decide_eq_false h]; rfl

/-! Rows of words in memory. -/
/-- Block g of w holds n words, as f tells them, and may be written. -/
def Row (w : World) (g n : Nat) (f : Nat → Int) : Prop := ∀ j, j < n → w.cell? ⟨g, j, none⟩ = some (.int .u64 (f j)) ∧ w.frozen? ⟨g, j, none⟩ = false
theorem Row.drew {w : World} {g n : Nat} {f : Nat → Int} (h : Row w g n f) : Row w.drew g n f := fun j hj => ⟨by rw [World.cell?_drew]; exact (h j hj).1, by rw [World.frozen?_drew]; exact (h j hj).2⟩
theorem Row.drew_iff {w : World} {g n : Nat} {f : Nat → Int} : Row w.drew g n f ↔ Row w g n f := Iff.rfl
theorem Row.congr {w : World} {g n : Nat} {f f' : Nat → Int} (h : Row w g n f) (e : ∀ j, j < n → f j = f' j) : Row w g n f' := fun j hj => by rw [← e j hj]; exact h j hj
theorem Row.set {w : World} {g n : Nat} {f : Nat → Int} (h : Row w g n f) {k : Nat} (v : Int) : Row (w.setCell ⟨g, k, none⟩ (.int .u64 v)) g n (upd f k v) := by
  intro j hj
  obtain ⟨h1, h2⟩ := h j hj
  refine ⟨?_, by rw [World.frozen?_setCell]; exact h2⟩
  unfold upd
  by_cases e : j = k
  · subst e; rw [if_pos rfl]; exact World.cell?_setCell_same _ _ _ h1
  · rw [if_neg e, World.cell?_setCell_other _ _ _ _ (by intro h; injection h with h1 h2; exact e h2.symm)]; exact h1
theorem Row.set_other {w : World} {g n : Nat} {f : Nat → Int} (h : Row w g n f) {a : Addr} (v : Value) (hne : a.block ≠ g) : Row (w.setCell a v) g n f := by
  intro j hj
  obtain ⟨h1, h2⟩ := h j hj
  exact ⟨by rw [World.cell?_setCell_other _ _ _ _ (by intro h; apply hne; rw [h])]; exact h1, by rw [World.frozen?_setCell]; exact h2⟩
theorem Row.alloc {w : World} {g n : Nat} {f : Nat → Int} (h : Row w g n f) (hg : g < w.heap.size) (o : Obj) : Row (w.alloc o) g n f := by
  intro j hj
  obtain ⟨h1, h2⟩ := h j hj
  exact ⟨by rw [World.cell?_alloc_past _ _ _ hg]; exact h1, by rw [World.frozen?_alloc_past _ _ _ hg]; exact h2⟩
theorem Row.new (w : World) (c : Array Value) (t : TypeId) {g n : Nat} (hg : g = w.heap.size) {f : Nat → Int} (h : ∀ j, j < n → c[j]? = some (.int .u64 (f j))) : Row (w.alloc (.cells c t)) g n f := by
  intro j hj
  exact ⟨by rw [World.cell?_alloc_at _ _ _ _ hg]; exact h j hj, World.frozen?_alloc_at _ _ _ _ hg⟩
theorem Row.below {B : Nat} {w w' : World} (hb : Below B w w') {g n : Nat} {f : Nat → Int} (h : Row w g n f) (hg : g < B) : Row w' g n f := by
  intro j hj
  obtain ⟨h1, h2⟩ := h j hj
  exact ⟨by rw [hb.cell (p := ⟨g, j, none⟩) hg]; exact h1, by rw [hb.frozen (p := ⟨g, j, none⟩) hg]; exact h2⟩
theorem six_lt {f : Nat → Int} {c : Array Value} (h : c = #[.int .u64 (f 0), .int .u64 (f 1), .int .u64 (f 2), .int .u64 (f 3), .int .u64 (f 4), .int .u64 (f 5)]) : ∀ j, j < 6 → c[j]? = some (.int .u64 (f j)) := by
  subst h
  intro j hj
  match j, hj with
  | 0, _ => rfl
  | 1, _ => rfl
  | 2, _ => rfl
  | 3, _ => rfl
  | 4, _ => rfl
  | 5, _ => rfl
/-- Six words may be read and written. -/
theorem Row.reads {w : World} {g : Nat} {f : Nat → Int} (h : Row w g 6 f) : w.cell? ⟨g, 0, none⟩ = some (.int .u64 (f 0)) ∧ w.cell? ⟨g, 1, none⟩ = some (.int .u64 (f 1)) ∧ w.cell? ⟨g, 2, none⟩ = some (.int .u64 (f 2)) ∧ w.cell? ⟨g, 3, none⟩ = some (.int .u64 (f 3)) ∧ w.cell? ⟨g, 4, none⟩ = some (.int .u64 (f 4)) ∧ w.cell? ⟨g, 5, none⟩ = some (.int .u64 (f 5)) :=
  ⟨(h 0 (by omega)).1, (h 1 (by omega)).1, (h 2 (by omega)).1, (h 3 (by omega)).1, (h 4 (by omega)).1, (h 5 (by omega)).1⟩
theorem Row.writes {w : World} {g : Nat} {f : Nat → Int} (h : Row w g 6 f) : w.frozen? ⟨g, 0, none⟩ = false ∧ w.frozen? ⟨g, 1, none⟩ = false ∧ w.frozen? ⟨g, 2, none⟩ = false ∧ w.frozen? ⟨g, 3, none⟩ = false ∧ w.frozen? ⟨g, 4, none⟩ = false ∧ w.frozen? ⟨g, 5, none⟩ = false :=
  ⟨(h 0 (by omega)).2, (h 1 (by omega)).2, (h 2 (by omega)).2, (h 3 (by omega)).2, (h 4 (by omega)).2, (h 5 (by omega)).2⟩
/-- Six stores into one of the call's own blocks. -/
theorem below6 {B g : Nat} {w wr : World} (h : Below B w wr) (hg : B ≤ g) (v0 v1 v2 v3 v4 v5 : Value) : Below B w ((((((wr.setCell ⟨g, 0, none⟩ v0).setCell ⟨g, 1, none⟩ v1).setCell ⟨g, 2, none⟩ v2).setCell ⟨g, 3, none⟩ v3).setCell ⟨g, 4, none⟩ v4).setCell ⟨g, 5, none⟩ v5) :=
  (((((h.setCell (p := ⟨g, 0, none⟩) hg _).setCell (p := ⟨g, 1, none⟩) hg _).setCell (p := ⟨g, 2, none⟩) hg _).setCell (p := ⟨g, 3, none⟩) hg _).setCell (p := ⟨g, 4, none⟩) hg _).setCell (p := ⟨g, 5, none⟩) hg _
end Go.Proofs.Ytoagmdgmbkpghaa
/- The contracts of the library for math/bits.Mul64, Sub64 and TrailingZeros64, laid at this program. -/
namespace Go.Proofs
open Go.Shelf
def Try.lays264_ren : Go.Shelf.Ren := ⟨fun | 264 => 44 | n => n, fun | 53 => 22 | 46 => 59 | n => n, fun | n => n⟩
theorem Try.lays264 : Go.Proofs.Lays.n264 Try.prog Try.lays264_ren := {
  mixed := by kernel_rfl
  f264 := Try.func44.trans (congrArg some (by kernel_rfl))
  t46 := Try.underlying59
  a46 := Try.isAgg59
  z46 := Try.sizeOf59
  v46 := Try.zeroValue59
  t53 := Try.underlying22
  a53 := Try.isAgg22
  z53 := Try.sizeOf22
  v53 := Try.zeroValue22 }
def Try.lays26_ren : Go.Shelf.Ren := ⟨fun | 26 => 42 | n => n, fun | 22 => 22 | n => n, fun | n => n⟩
theorem Try.lays26 : Go.Proofs.Lays7.n26 Try.prog Try.lays26_ren := {
  mixed := by kernel_rfl
  f26 := Try.func42.trans (congrArg some (by kernel_rfl))
  t22 := Try.underlying22
  a22 := Try.isAgg22
  z22 := Try.sizeOf22
  v22 := Try.zeroValue22
  i22 := by kernel_rfl }
end Go.Proofs
/- The words of math/bits at this program's numbers: sums, differences and products of two words, by the library's contracts. -/
namespace Go.Proofs.Ytoagmdgmbkpghaa
open Go.RowKit Go.Shelf

/-- bits.Add64: the lower word and what is carried. -/
theorem add64' (x y c : Int) (hx : 0 ≤ x) (hy : 0 ≤ y) (hc0 : 0 ≤ c) (hc : c ≤ 1) (w : World) : (callFunc 32 #[.int .u64 x, .int .u64 y, .int .u64 c]).run Try.prog w =
    .ok (.value (.tuple #[.int .u64 (addLo x y c), .int .u64 (addHi x y c)])) w := by
  have h := run_callFunc_extern Try.func32 (by kernel_rfl) (by kernel_rfl) (by kernel_rfl) (e := add64Entry) (by kernel_rfl) #[.int .u64 x, .int .u64 y, .int .u64 c] w
  rw [run_add64 x y c hx hy hc0 hc] at h
  exact h

/-- bits.Sub64: the lower word and what is borrowed. -/
theorem sub64' (x y b : Int) (hx : 0 ≤ x) (hy : 0 ≤ y) (hy' : y < 18446744073709551616) (hb0 : 0 ≤ b) (hb : b ≤ 1) (w : World) : (callFunc 42 #[.int .u64 x, .int .u64 y, .int .u64 b]).run Try.prog w =
    .ok (.value (.tuple #[.int .u64 (subLo x y b), .int .u64 (bor x (y + b))])) w := by
  have h := Any7.bits_Sub64 Try.lays26 x.toNat y.toNat b.toNat (by omega) w
  rw [Int.toNat_of_nonneg hx, Int.toNat_of_nonneg hy, Int.toNat_of_nonneg hb0] at h
  have lo : (((x.toNat + 18446744073709551616 - y.toNat - b.toNat) % 18446744073709551616 : Nat) : Int) = subLo x y b := by unfold subLo; omega
  have up : ((if x.toNat < y.toNat + b.toNat then 1 else 0 : Nat) : Int) = bor x (y + b) := by
    unfold bor
    by_cases c : x < y + b
    · rw [if_pos c, if_pos (by omega)]; rfl
    · rw [if_neg c, if_neg (by omega)]; rfl
  rw [lo, up] at h
  exact h

/-- bits.Mul64: the upper and the lower word of a product. -/
theorem mul64N (x y : Nat) (hx : x < 18446744073709551616) (hy : y < 18446744073709551616) (w : World) :
    Calls Try.prog 44 #[.int .u64 x, .int .u64 y] w fun e w' => e = .returned (.tuple #[.int .u64 ((x * y / 18446744073709551616 : Nat) : Int), .int .u64 ((x * y % 18446744073709551616 : Nat) : Int)]) ∧ w' = w :=
  Any.bits_Mul64 Try.lays264 x y hx hy w

end Go.Proofs.Ytoagmdgmbkpghaa
/- words.Add -/
namespace Go.Proofs.Ytoagmdgmbkpghaa
open Go.RowKit Go.Lib

set_option maxHeartbeats 400000 in
set_option maxRecDepth 100000 in
theorem add_any (a b : Nat) (ha : a < big) (hb : b < big) (w : World) :
    Calls Try.prog 16 #[N a, N b] w fun e w' => e = .returned (.tuple #[N ((a + b) % big), .bool (decide (big ≤ a + b))]) ∧ Below w.heap.size w w' := by
  have hend := cry_end a b ha hb
  have He : Hid ((cry a b 6 != 0) = decide (big ≤ a + b)) := hend
  clear hend ha hb
  go_enter Try.func16, Try.ntmps16
  go_wp2
  go_loopw [7, 9] (fun c i wr => ∃ k : Nat, k ≤ 6 ∧ i = .int .i64 k ∧ c = .int .u64 (cry a b k) ∧ Row wr w.heap.size 6 (wd a) ∧ Row wr (w.heap.size + 1) 6 (wd b) ∧ Row wr (w.heap.size + 1 + 1) 6 (fun _ => 0) ∧ Row wr (w.heap.size + 1 + 1 + 1) 6 (part (a + b) k) ∧ Below w.heap.size w wr) (fun _ i _ => 6 - (intOf i).toNat)
  case atStart =>
    refine ⟨0, by omega, rfl, by simp [cry], ?_, ?_, ?_, ?_, ?_⟩
    · exact (((Row.new w _ 24 rfl (six_lt rfl)).alloc (by simp <;> omega) _).alloc (by simp <;> omega) _).alloc (by simp <;> omega) _
    · exact ((Row.new _ _ 24 (by simp <;> omega) (six_lt rfl)).alloc (by simp <;> omega) _).alloc (by simp <;> omega) _
    · exact (Row.new _ _ 24 (by simp <;> omega) (six_lt (f := fun _ => 0) rfl)).alloc (by simp <;> omega) _
    · exact Row.new _ _ 24 (by simp <;> omega) (six_lt (f := part (a + b) 0) rfl)
    · exact ((((Below.refl _ _).alloc (Nat.le_refl _) _).alloc (by simp <;> omega) _).alloc (by simp <;> omega) _).alloc (by simp <;> omega) _
  case round =>
    obtain ⟨k, hk, rfl, rfl, hA, hB, hZ, hS, hw⟩ := hrel
    by_cases hlt : k < 6
    · obtain ⟨hc0, hc1⟩ := cry_bd a b k
      have ha0 := (wd_bd a k).1
      have hb0 := (wd_bd b k).1
      have hA1 := (hA k hlt).1
      have hB1 := (hB k hlt).1
      obtain ⟨hS1, hS2⟩ := hS k hlt
      have h64 := fun w => add64' (wd a k) (wd b k) (cry a b k) ha0 hb0 hc0 hc1 w
      have r1 : Row wr w.heap.size 6 (wd a) ∧ Row wr (w.heap.size + 1) 6 (wd b) ∧ Row wr (w.heap.size + 1 + 1) 6 (fun _ => 0) ∧ Row wr (w.heap.size + 1 + 1 + 1) 6 (part (a + b) k) ∧ Below w.heap.size w wr := ⟨hA, hB, hZ, hS, hw⟩
      have R1 : Hid _ := r1
      clear hA hB hZ hS hw r1
      go_wp2
      go_region
      go_wp2
      go_roundw
      case rel =>
        obtain ⟨hA, hB, hZ, hS, hw⟩ := R1.out
        exact ⟨k + 1, by omega, by go_num, by rw [add_cry], (hA.set_other _ (by simp <;> omega)).drew, (hB.set_other _ (by simp <;> omega)).drew, (hZ.set_other _ (by simp <;> omega)).drew, ((hS.set _).congr (fun j _ => part_step (add_word a b k) j)).drew, (hw.setCell (by simp <;> omega) _).drew⟩
      case measure => simp [intOf]; omega
    · have hk6 : k = 6 := by omega
      subst hk6
      obtain ⟨s0, s1, s2, s3, s4, s5⟩ := (hS.congr (f' := wd ((a + b) % big)) (fun j hj => by rw [part_lt hj, wd_mod _ _ hj])).reads
      obtain ⟨z0, z1, z2, z3, z4, z5⟩ := hZ.writes
      obtain ⟨y0, y1, y2, y3, y4, y5⟩ := hZ.reads
      clear hA hB hZ hS
      go_wp2
      rw [He.out]
      exact bodyPost_ret (v := .tuple #[N ((a + b) % big), .bool (decide (big ≤ a + b))]) (by simp [results, Try.results16, go_sem, *]) rfl ⟨rfl, (((((hw.setCell (by simp <;> omega) _).setCell (by simp <;> omega) _).setCell (by simp <;> omega) _).setCell (by simp <;> omega) _).setCell (by simp <;> omega) _).setCell (by simp <;> omega) _⟩
set_option maxHeartbeats 400000 in
set_option maxRecDepth 100000 in
theorem sub_any (a b : Nat) (ha : a < big) (hb : b < big) (w : World) :
    Calls Try.prog 30 #[N a, N b] w fun e w' => e = .returned (.tuple #[N ((a + big - b) % big), .bool (decide (a < b))]) ∧ Below w.heap.size w w' := by
  have hend := brw_end a b ha hb
  have He : Hid ((brw a b 6 != 0) = decide (a < b)) := hend
  have HB : Hid (b < big) := hb
  clear hend ha hb
  go_enter Try.func30, Try.ntmps30
  go_wp2
  go_loopw [7, 9] (fun c i wr => ∃ k : Nat, k ≤ 6 ∧ i = .int .i64 k ∧ c = .int .u64 (brw a b k) ∧ Row wr w.heap.size 6 (wd a) ∧ Row wr (w.heap.size + 1) 6 (wd b) ∧ Row wr (w.heap.size + 1 + 1) 6 (fun _ => 0) ∧ Row wr (w.heap.size + 1 + 1 + 1) 6 (part (a + big - b) k) ∧ Below w.heap.size w wr) (fun _ i _ => 6 - (intOf i).toNat)
  case atStart =>
    refine ⟨0, by omega, rfl, by simp [brw, Nat.mod_one], ?_, ?_, ?_, ?_, ?_⟩
    · exact (((Row.new w _ 24 rfl (six_lt rfl)).alloc (by simp <;> omega) _).alloc (by simp <;> omega) _).alloc (by simp <;> omega) _
    · exact ((Row.new _ _ 24 (by simp <;> omega) (six_lt rfl)).alloc (by simp <;> omega) _).alloc (by simp <;> omega) _
    · exact (Row.new _ _ 24 (by simp <;> omega) (six_lt (f := fun _ => 0) rfl)).alloc (by simp <;> omega) _
    · exact Row.new _ _ 24 (by simp <;> omega) (six_lt (f := part (a + big - b) 0) rfl)
    · exact ((((Below.refl _ _).alloc (Nat.le_refl _) _).alloc (by simp <;> omega) _).alloc (by simp <;> omega) _).alloc (by simp <;> omega) _
  case round =>
    obtain ⟨k, hk, rfl, rfl, hA, hB, hZ, hS, hw⟩ := hrel
    by_cases hlt : k < 6
    · obtain ⟨hc0, hc1⟩ := brw_bd a b k
      have ha0 := (wd_bd a k).1
      have hb0 := (wd_bd b k).1
      have hb1 := (wd_bd b k).2
      have hA1 := (hA k hlt).1
      have hB1 := (hB k hlt).1
      obtain ⟨hS1, hS2⟩ := hS k hlt
      have h64 := fun w => sub64' (wd a k) (wd b k) (brw a b k) ha0 hb0 hb1 hc0 hc1 w
      clear hb1
      have r1 : Row wr w.heap.size 6 (wd a) ∧ Row wr (w.heap.size + 1) 6 (wd b) ∧ Row wr (w.heap.size + 1 + 1) 6 (fun _ => 0) ∧ Row wr (w.heap.size + 1 + 1 + 1) 6 (part (a + big - b) k) ∧ Below w.heap.size w wr := ⟨hA, hB, hZ, hS, hw⟩
      have R1 : Hid _ := r1
      clear hA hB hZ hS hw r1
      go_wp2
      go_region
      go_wp2
      go_roundw
      case rel =>
        obtain ⟨hA, hB, hZ, hS, hw⟩ := R1.out
        have hbb := HB.out
        exact ⟨k + 1, by omega, by go_num, by rw [sub_cry], (hA.set_other _ (by simp <;> omega)).drew, (hB.set_other _ (by simp <;> omega)).drew, (hZ.set_other _ (by simp <;> omega)).drew, ((hS.set _).congr (fun j _ => part_step (sub_word a b k hlt hbb) j)).drew, (hw.setCell (by simp <;> omega) _).drew⟩
      case measure => simp [intOf]; omega
    · have hk6 : k = 6 := by omega
      subst hk6
      obtain ⟨s0, s1, s2, s3, s4, s5⟩ := (hS.congr (f' := wd ((a + big - b) % big)) (fun j hj => by rw [part_lt hj, wd_mod _ _ hj])).reads
      obtain ⟨z0, z1, z2, z3, z4, z5⟩ := hZ.writes
      obtain ⟨y0, y1, y2, y3, y4, y5⟩ := hZ.reads
      clear hA hB hZ hS
      go_wp2
      rw [He.out]
      exact bodyPost_ret (v := .tuple #[N ((a + big - b) % big), .bool (decide (a < b))]) (by simp [results, Try.results30, go_sem, *]) rfl ⟨rfl, (((((hw.setCell (by simp <;> omega) _).setCell (by simp <;> omega) _).setCell (by simp <;> omega) _).setCell (by simp <;> omega) _).setCell (by simp <;> omega) _).setCell (by simp <;> omega) _⟩
end Go.Proofs.Ytoagmdgmbkpghaa
/- words.mulAdd, words.Mul -/
namespace Go.Proofs.Ytoagmdgmbkpghaa
open Go.RowKit Go.Lib

def mulLo (a b m c : Int) : Int := (a * b + m + c) % 18446744073709551616
def mulHi (a b m c : Int) : Int := (a * b + m + c) / 18446744073709551616
def pHi (x y : Nat) : Int := ((x * y / 18446744073709551616 : Nat) : Int)
def pLo (x y : Nat) : Int := ((x * y % 18446744073709551616 : Nat) : Int)
theorem mul64' (x y : Nat) (hx : x < 18446744073709551616) (hy : y < 18446744073709551616) (w : World) :
    Calls Try.prog 44 #[.int .u64 x, .int .u64 y] w fun e w' => e = .returned (.tuple #[.int .u64 (pHi x y), .int .u64 (pLo x y)]) ∧ w' = w := mul64N x y hx hy w
theorem prod_le (x y : Nat) (hx : x < 18446744073709551616) (hy : y < 18446744073709551616) : x * y ≤ 18446744073709551615 * 18446744073709551615 := Nat.mul_le_mul (by omega) (by omega)
theorem mulAdd_lo (x y : Nat) (m c : Int) : addLo (addLo (pLo x y) m 0) c 0 = mulLo x y m c := by
  unfold addLo pLo mulLo
  rw [← Int.natCast_mul]
  generalize x * y = p
  omega
theorem mulAdd_hi (x y : Nat) (m c : Int) (hx : x < 18446744073709551616) (hy : y < 18446744073709551616) (hm : 0 ≤ m) (hm' : m < 18446744073709551616) (hc : 0 ≤ c) (hc' : c < 18446744073709551616) :
    IntKind.u64.wrap (IntKind.u64.wrap (pHi x y + addHi (pLo x y) m 0) + addHi (addLo (pLo x y) m 0) c 0) = mulHi x y m c := by
  have h := prod_le x y hx hy
  rw [IntKind.wrap_u64, IntKind.wrap_u64]
  unfold addLo addHi pLo pHi mulHi
  rw [← Int.natCast_mul]
  generalize x * y = p at h ⊢
  omega

end Go.Proofs.Ytoagmdgmbkpghaa
/- The plain arithmetic of words.Mul. -/
namespace Go.Proofs.Ytoagmdgmbkpghaa
open Go.RowKit

/-- Word i as a natural number. -/
def wn (v i : Nat) : Nat := v / 2 ^ (64 * i) % 18446744073709551616
theorem wd_wn (v i : Nat) : wd v i = (wn v i : Int) := rfl
theorem wn_lt (v i : Nat) : wn v i < 18446744073709551616 := Nat.mod_lt _ (by decide)
theorem mod_step (v k : Nat) : v % 2 ^ (64 * (k + 1)) = v % 2 ^ (64 * k) + 2 ^ (64 * k) * wn v k := by
  rw [pow_step, Nat.mod_mul]; rfl

/-- The sum behind j rounds of row i: what was there, and word i of a times the lowest j words of b. -/
def sm (a b i j : Nat) : Nat := (a % 2 ^ (64 * i)) * b + wn a i * (b % 2 ^ (64 * j)) * 2 ^ (64 * i)
def pm (V S t m : Nat) : Int := if m < t then wd S m else wd V m
def mc (a b i j : Nat) : Int := ((((a % 2 ^ (64 * i)) * b) % 2 ^ (64 * (i + j)) + wn a i * (b % 2 ^ (64 * j)) * 2 ^ (64 * i)) / 2 ^ (64 * (i + j)) : Nat)

theorem pow_add' (i j : Nat) : 2 ^ (64 * (i + j)) = 2 ^ (64 * i) * 2 ^ (64 * j) := by rw [Nat.mul_add, Nat.pow_add]
theorem sm_zero (a b i : Nat) : sm a b i 0 = (a % 2 ^ (64 * i)) * b := by unfold sm; simp [Nat.mod_one]
theorem sm_end (a b i : Nat) (hb : b < big) : sm a b i 6 = (a % 2 ^ (64 * (i + 1))) * b := by
  unfold sm
  rw [← big_eq, Nat.mod_eq_of_lt hb, mod_step, Nat.add_mul]
  congr 1
  rw [Nat.mul_assoc, Nat.mul_comm b, ← Nat.mul_assoc, Nat.mul_comm (wn a i)]
theorem sm_step (a b i j : Nat) : sm a b i (j + 1) = sm a b i j + 2 ^ (64 * (i + j)) * (wn a i * wn b j) := by
  unfold sm
  rw [mod_step b j, Nat.mul_add, Nat.add_mul, ← Nat.add_assoc]
  congr 1
  rw [pow_add']
  simp only [Nat.mul_comm, Nat.mul_left_comm, Nat.mul_assoc]
theorem mc_nat (a b i j : Nat) : (((a % 2 ^ (64 * i)) * b) % 2 ^ (64 * (i + j)) + wn a i * (b % 2 ^ (64 * j)) * 2 ^ (64 * i)) / 2 ^ (64 * (i + j)) < 18446744073709551616 := by
  have hq := pow_pos' (i + j)
  have h1 := Nat.mod_lt ((a % 2 ^ (64 * i)) * b) hq
  have h2 := wn_lt a i
  have h3 := Nat.mod_lt b (pow_pos' j)
  rw [Nat.div_lt_iff_lt_mul hq]
  have h4 : wn a i * (b % 2 ^ (64 * j)) * 2 ^ (64 * i) ≤ 18446744073709551615 * 2 ^ (64 * j) * 2 ^ (64 * i) :=
    Nat.mul_le_mul_right _ (Nat.mul_le_mul (by omega) (by omega))
  have h5 : 18446744073709551615 * 2 ^ (64 * j) * 2 ^ (64 * i) = 18446744073709551615 * 2 ^ (64 * (i + j)) := by
    rw [pow_add', Nat.mul_assoc, Nat.mul_comm (2 ^ (64 * j))]
  generalize 2 ^ (64 * (i + j)) = Q at *
  omega
theorem mc_bd (a b i j : Nat) : 0 ≤ mc a b i j ∧ mc a b i j < 18446744073709551616 :=
  ⟨Int.natCast_nonneg _, Int.ofNat_lt.2 (mc_nat a b i j)⟩
theorem mc_zero (a b i : Nat) : mc a b i 0 = 0 := by
  unfold mc
  rw [Nat.add_zero, Nat.mul_zero, Nat.pow_zero, Nat.mod_one, Nat.mul_zero, Nat.zero_mul, Nat.add_zero, Nat.div_eq_of_lt (Nat.mod_lt _ (pow_pos' i))]
  rfl

/-- One step's two words. -/
theorem mul_core (V s : Nat) (x y : Nat) (Q : Nat) (hQ : 0 < Q) :
    (V % (Q * 18446744073709551616) + (s + Q * (x * y))) / (Q * 18446744073709551616) = (x * y + V / Q % 18446744073709551616 + (V % Q + s) / Q) / 18446744073709551616 ∧
    (V + (s + Q * (x * y))) / Q % 18446744073709551616 = (x * y + V / Q % 18446744073709551616 + (V % Q + s) / Q) % 18446744073709551616 := by
  constructor
  · rw [Nat.mod_mul, ← Nat.div_div_eq_div_mul]
    have e : V % Q + Q * (V / Q % 18446744073709551616) + (s + Q * (x * y)) = (V % Q + s) + Q * (x * y + V / Q % 18446744073709551616) := by rw [Nat.mul_add]; omega
    rw [e, Nat.add_mul_div_left _ _ hQ]
    congr 1
    omega
  · have e : V + (s + Q * (x * y)) = (V % Q + s) + Q * (x * y + V / Q) := by
      have := Nat.div_add_mod V Q
      rw [Nat.mul_add]; omega
    rw [e, Nat.add_mul_div_left _ _ hQ]
    omega
theorem mul_hi (a b i j : Nat) : mulHi (wd a i) (wd b j) (wd ((a % 2 ^ (64 * i)) * b) (i + j)) (mc a b i j) = mc a b i (j + 1) := by
  unfold mulHi mc
  have e := (mul_core ((a % 2 ^ (64 * i)) * b) (wn a i * (b % 2 ^ (64 * j)) * 2 ^ (64 * i)) (wn a i) (wn b j) _ (pow_pos' (i + j))).1
  have e2 : wn a i * (b % 2 ^ (64 * (j + 1))) * 2 ^ (64 * i) = wn a i * (b % 2 ^ (64 * j)) * 2 ^ (64 * i) + 2 ^ (64 * (i + j)) * (wn a i * wn b j) := by
    have := sm_step a b i j
    unfold sm at this
    omega
  rw [← Nat.add_assoc i j 1, pow_step (i + j), e2, e, wd_wn, wd_wn, wd_wn]
  unfold wn
  rw [← Int.natCast_mul, ← Int.natCast_add, ← Int.natCast_add]
  rfl
theorem mul_lo (a b i j : Nat) : mulLo (wd a i) (wd b j) (wd ((a % 2 ^ (64 * i)) * b) (i + j)) (mc a b i j) = wd (sm a b i (j + 1)) (i + j) := by
  unfold mulLo mc
  have e := (mul_core ((a % 2 ^ (64 * i)) * b) (wn a i * (b % 2 ^ (64 * j)) * 2 ^ (64 * i)) (wn a i) (wn b j) _ (pow_pos' (i + j))).2
  rw [wd_wn (sm a b i (j + 1))]
  unfold wn at e ⊢
  have es : sm a b i (j + 1) = (a % 2 ^ (64 * i)) * b + (wn a i * (b % 2 ^ (64 * j)) * 2 ^ (64 * i) + 2 ^ (64 * (i + j)) * (wn a i * wn b j)) := by
    rw [sm_step]; unfold sm; omega
  rw [es]
  unfold wn
  rw [e, wd_wn, wd_wn, wd_wn]
  unfold wn
  rw [← Int.natCast_mul, ← Int.natCast_add, ← Int.natCast_add]
  rfl
/-- Words below place t don't see what is added from place t on. -/
theorem wd_low (S x t m : Nat) (h : m < t) : wd (S + 2 ^ (64 * t) * x) m = wd S m := by
  unfold wd
  have e : 2 ^ (64 * t) = 2 ^ (64 * m) * (18446744073709551616 * 2 ^ (64 * (t - m - 1))) := by
    have : 64 * t = 64 * m + (64 + 64 * (t - m - 1)) := by omega
    rw [this, Nat.pow_add, Nat.pow_add]
  rw [e, Nat.mul_assoc, Nat.add_mul_div_left _ _ (pow_pos' m), Nat.mul_assoc, Nat.add_mul_mod_self_left]
theorem pm_step (a b i j m : Nat) : upd (pm ((a % 2 ^ (64 * i)) * b) (sm a b i j) (i + j)) (i + j) (wd (sm a b i (j + 1)) (i + j)) m = pm ((a % 2 ^ (64 * i)) * b) (sm a b i (j + 1)) (i + j + 1) m := by
  unfold upd pm
  by_cases h1 : m = i + j
  · subst h1; rw [if_pos rfl, if_pos (by omega)]
  · rw [if_neg h1]
    by_cases h2 : m < i + j
    · rw [if_pos h2, if_pos (by omega), sm_step, wd_low _ _ _ _ h2]
    · rw [if_neg h2, if_neg (by omega)]
theorem wd_high (S t m : Nat) (hS : S < 2 ^ (64 * t)) (h : t ≤ m) : wd S m = 0 := by
  unfold wd
  have : S < 2 ^ (64 * m) := Nat.lt_of_lt_of_le hS (Nat.pow_le_pow_right (by omega) (by omega))
  rw [Nat.div_eq_of_lt this]; rfl
theorem low_lt (a b i : Nat) (hb : b < big) : (a % 2 ^ (64 * i)) * b < 2 ^ (64 * (i + 6)) := by
  rw [pow_add', ← big_eq]
  have h1 := Nat.mod_lt a (pow_pos' i)
  calc (a % 2 ^ (64 * i)) * b ≤ 2 ^ (64 * i) * b := Nat.mul_le_mul_right _ (by omega)
    _ < 2 ^ (64 * i) * big := Nat.mul_lt_mul_of_pos_left hb (pow_pos' i)
theorem sm_def (a b i j : Nat) : sm a b i j = (a % 2 ^ (64 * i)) * b + wn a i * (b % 2 ^ (64 * j)) * 2 ^ (64 * i) := rfl
theorem sm_lt (a b i : Nat) (hb : b < big) : sm a b i 6 < 2 ^ (64 * (i + 6 + 1)) := by
  rw [sm_end a b i hb]
  have h := low_lt a b (i + 1) hb
  have e : i + 1 + 6 = i + 6 + 1 := by omega
  rw [e] at h
  exact h
theorem mc_end' (a b i n : Nat) (h1 : (a % 2 ^ (64 * i)) * b < 2 ^ (64 * (i + n))) (hlt : sm a b i n < 2 ^ (64 * (i + n + 1))) : mc a b i n = wd (sm a b i n) (i + n) := by
  rw [pow_step] at hlt
  unfold mc wd
  rw [Nat.mod_eq_of_lt h1, ← sm_def]
  generalize sm a b i n = S at hlt ⊢
  have hp := pow_pos' (i + n)
  generalize 2 ^ (64 * (i + n)) = Q at hlt hp ⊢
  rw [Nat.mod_eq_of_lt ((Nat.div_lt_iff_lt_mul hp).2 (by rw [Nat.mul_comm]; exact hlt))]
theorem mc_end (a b i : Nat) (hb : b < big) : mc a b i 6 = wd (sm a b i 6) (i + 6) := mc_end' a b i 6 (low_lt a b i hb) (sm_lt a b i hb)
theorem pm_end (a b i m : Nat) (hb : b < big) : upd (pm ((a % 2 ^ (64 * i)) * b) (sm a b i 6) (i + 6)) (i + 6) (mc a b i 6) m = wd ((a % 2 ^ (64 * (i + 1))) * b) m := by
  rw [mc_end a b i hb, ← sm_end a b i hb]
  unfold upd pm
  by_cases h1 : m = i + 6
  · subst h1; rw [if_pos rfl]
  · rw [if_neg h1]
    by_cases h2 : m < i + 6
    · rw [if_pos h2]
    · rw [if_neg h2, wd_high _ (i + 6) _ (low_lt a b i hb) (by omega)]
      rw [wd_high _ (i + 6 + 1) _ (sm_lt a b i hb) (by omega)]
theorem pm_start (a b i m : Nat) : pm ((a % 2 ^ (64 * i)) * b) (sm a b i 0) (i + 0) m = wd ((a % 2 ^ (64 * i)) * b) m := by
  unfold pm; rw [sm_zero]; split <;> rfl
theorem wd_hi (v j : Nat) : wd v (j + 6) = wd (v / big) j := by
  unfold wd
  rw [Nat.add_comm j 6, pow_add', ← big_eq, Nat.div_div_eq_div_mul]
end Go.Proofs.Ytoagmdgmbkpghaa
/- Plain arithmetic of shifts, by bits. -/
namespace Go.Proofs.Ytoagmdgmbkpghaa
open Go.RowKit

theorem wd_shr (v k : Nat) : wd v k = ((v >>> (64 * k) % 2 ^ 64 : Nat) : Int) := by unfold wd; rw [Nat.shiftRight_eq_div_pow]
theorem up_bits1 (a n k : Nat) (h : k = n / 64) : ((a >>> (64 * (k - n / 64)) % 2 ^ 64) <<< (n % 64)) % 2 ^ 64 = (a <<< n) >>> (64 * k) % 2 ^ 64 := by
  apply Nat.eq_of_testBit_eq
  intro i
  simp only [Nat.testBit_mod_two_pow, Nat.testBit_shiftLeft, Nat.testBit_shiftRight]
  by_cases hi : i < 64
  · by_cases ht : n % 64 ≤ i
    · have e1 : n ≤ 64 * k + i := by omega
      have e2 : 64 * (k - n / 64) + (i - n % 64) = 64 * k + i - n := by omega
      have e3 : i - n % 64 < 64 := by omega
      simp [hi, ht, e1, e2, e3]
    · have e1 : ¬ n ≤ 64 * k + i := by omega
      simp [hi, ht, e1]
  · simp [hi]
theorem up_bits (a n k : Nat) (h : n / 64 < k) : ((a >>> (64 * (k - n / 64)) % 2 ^ 64) <<< (n % 64)) % 2 ^ 64 ||| (a >>> (64 * (k - n / 64 - 1)) % 2 ^ 64) >>> (64 - n % 64) = (a <<< n) >>> (64 * k) % 2 ^ 64 := by
  apply Nat.eq_of_testBit_eq
  intro i
  simp only [Nat.testBit_or, Nat.testBit_mod_two_pow, Nat.testBit_shiftLeft, Nat.testBit_shiftRight]
  by_cases hi : i < 64
  · have e1 : n ≤ 64 * k + i := by omega
    by_cases ht : n % 64 ≤ i
    · have e2 : 64 * (k - n / 64) + (i - n % 64) = 64 * k + i - n := by omega
      have e3 : i - n % 64 < 64 := by omega
      have e4 : ¬ 64 - n % 64 + i < 64 := by omega
      simp [hi, ht, e1, e2, e3, e4]
    · have e4 : 64 - n % 64 + i < 64 := by omega
      have e5 : 64 * (k - n / 64 - 1) + (64 - n % 64 + i) = 64 * k + i - n := by omega
      simp [hi, ht, e1, e4, e5]
  · have e4 : ¬ 64 - n % 64 + i < 64 := by omega
    simp [hi, e4]
theorem down_bits (a n k : Nat) (h : n / 64 ≤ k) : (a >>> (64 * k) % 2 ^ 64) >>> (n % 64) ||| ((a >>> (64 * (k + 1)) % 2 ^ 64) <<< (64 - n % 64)) % 2 ^ 64 = (a >>> n) >>> (64 * (k - n / 64)) % 2 ^ 64 := by
  apply Nat.eq_of_testBit_eq
  intro i
  simp only [Nat.testBit_or, Nat.testBit_mod_two_pow, Nat.testBit_shiftLeft, Nat.testBit_shiftRight]
  by_cases hi : i < 64
  · by_cases ht : n % 64 + i < 64
    · have e2 : 64 * k + (n % 64 + i) = n + (64 * (k - n / 64) + i) := by omega
      have e3 : ¬ 64 - n % 64 ≤ i := by omega
      simp [hi, ht, e2, e3]
    · have e3 : 64 - n % 64 ≤ i := by omega
      have e4 : i - (64 - n % 64) < 64 := by omega
      have e5 : 64 * (k + 1) + (i - (64 - n % 64)) = n + (64 * (k - n / 64) + i) := by omega
      simp [hi, ht, e3, e4, e5]
  · have e4 : ¬ n % 64 + i < 64 := by omega
    simp [hi, e4]
theorem wrap_shl (x t : Nat) : IntKind.u64.wrap ((x : Int) * 2 ^ t) = ((x <<< t % 2 ^ 64 : Nat) : Int) := by
  rw [IntKind.wrap_u64, Nat.shiftLeft_eq]
  have : (x : Int) * 2 ^ t = ((x * 2 ^ t : Nat) : Int) := by rw [Int.natCast_mul, Int.natCast_pow]; rfl
  rw [this]; rfl
theorem div_shr (x t : Nat) : (x : Int) / 2 ^ t = ((x >>> t : Nat) : Int) := by
  rw [Nat.shiftRight_eq_div_pow]
  have : ((2 : Int) ^ t) = ((2 ^ t : Nat) : Int) := by rw [Int.natCast_pow]; rfl
  rw [this]; rfl
theorem up_word1 (a n k : Nat) (h : k = n / 64) : IntKind.u64.wrap (wd a (k - n / 64) * 2 ^ (n % 64)) = wd (a * 2 ^ n) k := by
  rw [wd_shr, wrap_shl, up_bits1 a n k h, wd_shr, Nat.shiftLeft_eq]
theorem up_word (a n k : Nat) (h : n / 64 < k) : bits .or .u64 (IntKind.u64.wrap (wd a (k - n / 64) * 2 ^ (n % 64))) (wd a (k - n / 64 - 1) / 2 ^ (64 - n % 64)) = wd (a * 2 ^ n) k := by
  rw [wd_shr, wrap_shl, wd_shr, div_shr, wd_shr, ← Nat.shiftLeft_eq, ← up_bits a n k h]
  refine bits_or_u64_nat _ _ (Nat.mod_lt _ (by decide)) ?_
  rw [Nat.shiftRight_eq_div_pow]
  exact Nat.lt_of_le_of_lt (Nat.div_le_self _ _) (Nat.mod_lt _ (by decide))
theorem down_word (a n k : Nat) (h : n / 64 ≤ k) : bits .or .u64 (wd a k / 2 ^ (n % 64)) (IntKind.u64.wrap (wd a (k + 1) * 2 ^ (64 - n % 64))) = wd (a / 2 ^ n) (k - n / 64) := by
  rw [wd_shr, wd_shr, wrap_shl, div_shr, wd_shr, ← Nat.shiftRight_eq_div_pow, ← down_bits a n k h]
  refine bits_or_u64_nat _ _ ?_ (Nat.mod_lt _ (by decide))
  rw [Nat.shiftRight_eq_div_pow (n := n % 64)]
  exact Nat.lt_of_le_of_lt (Nat.div_le_self _ _) (Nat.mod_lt _ (by decide))
theorem pow_le' (j m : Nat) (h : j ≤ m) : 2 ^ j ≤ 2 ^ m := Nat.pow_le_pow_right (by decide) h
theorem big_pow : ∃ n, n = 6 ∧ big = 2 ^ (64 * n) := ⟨6, rfl, big_eq⟩
theorem big_le (m : Nat) (h : 384 ≤ m) : big ≤ 2 ^ m := by
  obtain ⟨n, hn, e⟩ := big_pow
  rw [e]; exact pow_le' _ _ (by omega)
theorem pow_mono (j k : Nat) (h : j ≤ k) : 2 ^ (64 * j) ≤ 2 ^ (64 * k) := Nat.pow_le_pow_right (by decide) (Nat.mul_le_mul_left 64 h)
theorem wd_top' (v j k : Nat) (h : v < 2 ^ (64 * j)) (hk : j ≤ k) : wd v k = 0 := by
  unfold wd
  rw [Nat.div_eq_of_lt (Nat.lt_of_lt_of_le h (pow_mono j k hk))]
  rfl
theorem wd_top (v k : Nat) (h : v < big) (hk : 6 ≤ k) : wd v k = 0 := wd_top' v 6 k (Nat.lt_of_lt_of_eq h big_eq) hk
theorem down_last (a n : Nat) (ha : a < big) (h : n / 64 ≤ 5) : wd a 5 / 2 ^ (n % 64) = wd (a / 2 ^ n) (5 - n / 64) := by
  have e := down_bits a n 5 h
  have z : a >>> (64 * (5 + 1)) % 2 ^ 64 = 0 := by
    have := wd_top a 6 ha (by omega)
    rw [wd_shr] at this
    exact Int.ofNat.inj this
  rw [z] at e
  rw [wd_shr, div_shr, wd_shr, ← Nat.shiftRight_eq_div_pow, ← e]
  simp
end Go.Proofs.Ytoagmdgmbkpghaa
/- words.shiftUp, words.shiftDown -/
namespace Go.Proofs.Ytoagmdgmbkpghaa
open Go.RowKit Go.Lib

theorem upd_upd (f : Nat → Int) (k : Nat) (x y : Int) (j : Nat) : upd (upd f k x) k y j = upd f k y j := by
  unfold upd; split <;> rfl
theorem part_low (v m j : Nat) (h : ∀ i, i < m → wd v i = 0) : part v m j = 0 := by
  unfold part; split
  · exact h _ ‹_›
  · rfl
theorem up_low (a n i : Nat) (h : i < n / 64) : wd (a * 2 ^ n) i = 0 := by
  rw [wd_shr, ← Nat.shiftLeft_eq]
  have : (a <<< n) >>> (64 * i) % 2 ^ 64 = 0 := by
    apply Nat.eq_of_testBit_eq
    intro m
    simp only [Nat.testBit_mod_two_pow, Nat.testBit_shiftLeft, Nat.testBit_shiftRight, Nat.zero_testBit]
    by_cases hm : m < 64
    · have : ¬ n ≤ 64 * i + m := by omega
      simp [this]
    · simp [hm]
  rw [this]; rfl

set_option maxHeartbeats 400000 in
set_option maxRecDepth 100000 in
theorem shiftUp_any (a n : Nat) (hn : n < 384) (w : World) :
    Calls Try.prog 36 #[N a, .int .i64 n] w fun e w' => e = .returned (N (a * 2 ^ n % big)) ∧ Below w.heap.size w w' := by
  go_enter Try.func36, Try.ntmps36
  go_wp2
  go_loopw [8] (fun i wr => ∃ k : Nat, n / 64 ≤ k ∧ k ≤ 6 ∧ i = .int .i64 k ∧ Row wr w.heap.size 6 (wd a) ∧ Row wr (w.heap.size + 1) 6 (fun _ => 0) ∧ Row wr (w.heap.size + 1 + 1) 6 (part (a * 2 ^ n) k) ∧ Below w.heap.size w wr) (fun i _ => 6 - (intOf i).toNat)
  case atStart =>
    refine ⟨n / 64, by omega, by omega, rfl, ?_, ?_, ?_, ?_⟩
    · exact ((Row.new w _ 24 rfl (six_lt rfl)).alloc (by first | omega | (simp <;> omega)) _).alloc (by first | omega | (simp <;> omega)) _
    · exact (Row.new _ _ 24 (by first | omega | (simp <;> omega)) (six_lt (f := fun _ => 0) rfl)).alloc (by first | omega | (simp <;> omega)) _
    · exact (Row.new _ _ 24 (by first | omega | (simp <;> omega)) (six_lt (f := fun _ => 0) rfl)).congr (fun j _ => (part_low _ _ _ (fun i hi => up_low a n i hi)).symm)
    · exact (((Below.refl _ _).alloc (Nat.le_refl _) _).alloc (by first | omega | (simp <;> omega)) _).alloc (by first | omega | (simp <;> omega)) _
  case round =>
    obtain ⟨k, hk0, hk, rfl, hA, hZ, hS, hw⟩ := hrel
    by_cases hlt : k < 6
    · obtain ⟨hS1, hS2⟩ := hS k hlt
      have hA1 := (hA (k - n / 64) (by omega)).1
      have HR : Hid (_ ∧ _ ∧ _ ∧ _) := ⟨hA, hZ, hS, hw⟩
      by_cases hgt : n / 64 < k
      · have hA2 := (hA (k - n / 64 - 1) (by omega)).1
        clear hA hZ hS hw
        go_wp2
        go_region
        go_wp2
        go_roundw
        case rel =>
          obtain ⟨hA, hZ, hS, hw⟩ := HR.out
          exact ⟨k + 1, by omega, by omega, by go_num, ((hA.set_other _ (by simp <;> omega)).set_other _ (by simp <;> omega)).drew, ((hZ.set_other _ (by simp <;> omega)).set_other _ (by simp <;> omega)).drew, (((hS.set _).set _).congr (fun j _ => (upd_upd _ _ _ _ j).trans (part_step (up_word a n k hgt) j))).drew, ((hw.setCell (by simp <;> omega) _).setCell (by simp <;> omega) _).drew⟩
        case measure => simp [intOf]; omega
      · clear hA hZ hS hw
        go_wp2
        go_roundw
        case rel =>
          obtain ⟨hA, hZ, hS, hw⟩ := HR.out
          exact ⟨k + 1, by omega, by omega, by go_num, hA.set_other _ (by simp <;> omega), hZ.set_other _ (by simp <;> omega), (hS.set _).congr (fun j _ => part_step (up_word1 a n k (by omega)) j), hw.setCell (by simp <;> omega) _⟩
        case measure => simp [intOf]; omega
    · have hk6 : k = 6 := by omega
      subst hk6
      obtain ⟨s0, s1, s2, s3, s4, s5⟩ := (hS.congr (f' := wd (a * 2 ^ n % big)) (fun j hj => by rw [part_lt hj, wd_mod _ _ hj])).reads
      obtain ⟨z0, z1, z2, z3, z4, z5⟩ := hZ.writes
      obtain ⟨y0, y1, y2, y3, y4, y5⟩ := hZ.reads
      clear hA hZ hS
      rw [show ((6 : Nat) : Int) = 6 from rfl]
      go_wp2
      refine bodyPost_ret (v := N (a * 2 ^ n % big)) ?_ rfl ⟨rfl, ?_⟩
      · simp [results, Try.results36, go_sem, *]
      · exact below6 hw (by omega) _ _ _ _ _ _

set_option maxHeartbeats 400000 in
set_option maxRecDepth 100000 in
theorem shiftDown_any (a n : Nat) (ha : a < big) (hn : n < 384) (w : World) :
    Calls Try.prog 35 #[N a, .int .i64 n] w fun e w' => e = .returned (N (a / 2 ^ n)) ∧ Below w.heap.size w w' := by
  have HA : Hid (a < big) := ha
  clear ha
  go_enter Try.func35, Try.ntmps35
  go_wp2
  go_loopw [8] (fun i wr => ∃ k : Nat, n / 64 ≤ k ∧ k ≤ 6 ∧ i = .int .i64 k ∧ Row wr w.heap.size 6 (wd a) ∧ Row wr (w.heap.size + 1) 6 (fun _ => 0) ∧ Row wr (w.heap.size + 1 + 1) 6 (part (a / 2 ^ n) (k - n / 64)) ∧ Below w.heap.size w wr) (fun i _ => 6 - (intOf i).toNat)
  case atStart =>
    refine ⟨n / 64, by omega, by omega, rfl, ?_, ?_, ?_, ?_⟩
    · exact ((Row.new w _ 24 rfl (six_lt rfl)).alloc (by first | omega | (simp <;> omega)) _).alloc (by first | omega | (simp <;> omega)) _
    · exact (Row.new _ _ 24 (by first | omega | (simp <;> omega)) (six_lt (f := fun _ => 0) rfl)).alloc (by first | omega | (simp <;> omega)) _
    · exact (Row.new _ _ 24 (by first | omega | (simp <;> omega)) (six_lt (f := fun _ => 0) rfl)).congr (fun j _ => by rw [Nat.sub_self]; rfl)
    · exact (((Below.refl _ _).alloc (Nat.le_refl _) _).alloc (by first | omega | (simp <;> omega)) _).alloc (by first | omega | (simp <;> omega)) _
  case round =>
    obtain ⟨k, hk0, hk, rfl, hA, hZ, hS, hw⟩ := hrel
    by_cases hlt : k < 6
    · obtain ⟨hS1, hS2⟩ := hS (k - n / 64) (by omega)
      have hA1 := (hA k hlt).1
      have HR : Hid (_ ∧ _ ∧ _ ∧ _) := ⟨hA, hZ, hS, hw⟩
      have es : k + 1 - n / 64 = k - n / 64 + 1 := by omega
      have Es : Hid _ := es
      clear es
      by_cases hgt : k + 1 < 6
      · have hA2 := (hA (k + 1) (by omega)).1
        clear hA hZ hS hw
        go_wp2
        go_region
        go_wp2
        go_roundw
        case rel =>
          obtain ⟨hA, hZ, hS, hw⟩ := HR.out
          exact ⟨k + 1, by omega, by omega, by go_num, ((hA.set_other _ (by simp <;> omega)).set_other _ (by simp <;> omega)).drew, ((hZ.set_other _ (by simp <;> omega)).set_other _ (by simp <;> omega)).drew, (((hS.set _).set _).congr (fun j _ => by rw [Es.out]; exact (upd_upd _ _ _ _ j).trans (part_step (down_word a n k hk0) j))).drew, ((hw.setCell (by simp <;> omega) _).setCell (by simp <;> omega) _).drew⟩
        case measure => simp [intOf]; omega
      · clear hA hZ hS hw
        have hk5 : k = 5 := by omega
        subst hk5
        rw [show ((5 : Nat) : Int) = 5 from rfl]
        go_wp2
        go_roundw
        case rel =>
          obtain ⟨hA, hZ, hS, hw⟩ := HR.out
          exact ⟨5 + 1, by omega, by omega, by go_num, hA.set_other _ (by simp <;> omega), hZ.set_other _ (by simp <;> omega), (hS.set _).congr (fun j _ => by rw [Es.out]; exact part_step (down_last a n HA.out hk0) j), hw.setCell (by simp <;> omega) _⟩
        case measure => simp [intOf]
    · have hk6 : k = 6 := by omega
      subst hk6
      obtain ⟨s0, s1, s2, s3, s4, s5⟩ := (hS.congr (f' := wd (a / 2 ^ n)) (fun j hj => by
        unfold part
        split
        · rfl
        · symm
          have h1 : (64 * (6 - n / 64)) ≤ 64 * j := by omega
          have h2 : a / 2 ^ n < 2 ^ (64 * (6 - n / 64)) := by
            rw [Nat.div_lt_iff_lt_mul (Nat.two_pow_pos n), ← Nat.pow_add]
            exact Nat.lt_of_lt_of_le HA.out (big_le _ (by omega))
          exact wd_top' _ _ _ h2 (by omega))).reads
      obtain ⟨z0, z1, z2, z3, z4, z5⟩ := hZ.writes
      obtain ⟨y0, y1, y2, y3, y4, y5⟩ := hZ.reads
      clear hA hZ hS
      rw [show ((6 : Nat) : Int) = 6 from rfl]
      go_wp2
      refine bodyPost_ret (v := N (a / 2 ^ n)) ?_ rfl ⟨rfl, ?_⟩
      · simp [results, Try.results35, go_sem, *]
      · exact below6 hw (by omega) _ _ _ _ _ _
end Go.Proofs.Ytoagmdgmbkpghaa
/- The plain arithmetic of words.takeTimes, words.putBack. -/
namespace Go.Proofs.Ytoagmdgmbkpghaa
open Go.RowKit

theorem wd_off (r i k : Nat) : wd r (i + k) = wd (r / 2 ^ (64 * i)) k := by
  unfold wd; rw [pow_add', Nat.div_div_eq_div_mul]
theorem wd_modp (v m j : Nat) (h : j < m) : wd (v % 2 ^ (64 * m)) j = wd v j := by
  unfold wd
  have e : 2 ^ (64 * m) = 2 ^ (64 * j) * (18446744073709551616 * 2 ^ (64 * (m - j - 1))) := by
    have : 64 * m = 64 * j + (64 + 64 * (m - j - 1)) := by omega
    rw [this, Nat.pow_add, Nat.pow_add]
  rw [e, Nat.mod_mul_right_div_self, Nat.mod_mul_right_mod]
theorem sub_word' (a b k m : Nat) (hk : k < m) (hb : b < 2 ^ (64 * m)) : subLo (wd a k) (wd b k) (brw a b k) = wd (a + 2 ^ (64 * m) - b) k := by
  unfold subLo wd brw
  have e : 2 ^ (64 * m) = 2 ^ (64 * k) * (18446744073709551616 * 2 ^ (64 * (m - k - 1))) := by
    have : 64 * m = 64 * k + (64 + 64 * (m - k - 1)) := by omega
    rw [this, Nat.pow_add, Nat.pow_add]
  have hp := pow_pos' k
  rw [e] at hb ⊢
  generalize 2 ^ (64 * (m - k - 1)) = R at hb ⊢
  generalize 2 ^ (64 * k) = B at hp hb ⊢
  have hbh : b / B < 18446744073709551616 * R := (Nat.div_lt_iff_lt_mul hp).2 (by rw [Nat.mul_comm]; exact hb)
  have da := Nat.div_add_mod a B
  have db := Nat.div_add_mod b B
  have la := Nat.mod_lt a hp
  have lb := Nat.mod_lt b hp
  generalize a / B = x at da ⊢
  generalize b / B = y at db hbh ⊢
  generalize a % B = p at da la ⊢
  generalize b % B = q at db lb ⊢
  by_cases h : p < q
  · have e2 : a + B * (18446744073709551616 * R) - b = (p + B - q) + B * (x + 18446744073709551616 * R - y - 1) := by
      have h3 : B * (x + 18446744073709551616 * R - y - 1) = B * x + B * (18446744073709551616 * R) - B * y - B := by
        rw [Nat.mul_sub, Nat.mul_sub, Nat.mul_add, Nat.mul_one]
      have h4 : B * y + B ≤ B * (18446744073709551616 * R) := by rw [← Nat.mul_succ]; exact Nat.mul_le_mul_left B hbh
      rw [h3]; omega
    rw [e2, Nat.add_mul_div_left _ _ hp, Nat.div_eq_of_lt (by omega : p + B - q < B), if_pos h]
    omega
  · have e2 : a + B * (18446744073709551616 * R) - b = (p - q) + B * (x + 18446744073709551616 * R - y) := by
      have h3 : B * (x + 18446744073709551616 * R - y) = B * x + B * (18446744073709551616 * R) - B * y := by
        rw [Nat.mul_sub, Nat.mul_add]
      have h4 : B * y + B ≤ B * (18446744073709551616 * R) := by rw [← Nat.mul_succ]; exact Nat.mul_le_mul_left B hbh
      rw [h3]; omega
    rw [e2, Nat.add_mul_div_left _ _ hp, Nat.div_eq_of_lt (by omega : p - q < B), if_neg h]
    omega

/-- The carry of q times the lowest k words of d. -/
def tc (d q k : Nat) : Int := ((q * (d % 2 ^ (64 * k)) / 2 ^ (64 * k) : Nat) : Int)
theorem tc_zero (d q : Nat) : tc d q 0 = 0 := by unfold tc; simp [Nat.mod_one]
theorem tc_bd (d q k : Nat) (hq : q < 18446744073709551616) : 0 ≤ tc d q k ∧ tc d q k < 18446744073709551616 := by
  refine ⟨Int.natCast_nonneg _, Int.ofNat_lt.2 ?_⟩
  have hp := pow_pos' k
  rw [Nat.div_lt_iff_lt_mul hp]
  exact Nat.lt_of_le_of_lt (Nat.mul_le_mul_left q (Nat.le_of_lt (Nat.mod_lt d hp))) (Nat.mul_lt_mul_of_pos_right hq hp)
theorem tm_core (d q k : Nat) : (wn d k * q + q * (d % 2 ^ (64 * k)) / 2 ^ (64 * k)) / 18446744073709551616 = q * (d % 2 ^ (64 * (k + 1))) / 2 ^ (64 * (k + 1)) ∧
    (wn d k * q + q * (d % 2 ^ (64 * k)) / 2 ^ (64 * k)) % 18446744073709551616 = wn (q * d) k := by
  have hp := pow_pos' k
  constructor
  · rw [mod_step, pow_step, ← Nat.div_div_eq_div_mul, Nat.mul_add]
    congr 1
    rw [Nat.mul_left_comm, Nat.add_mul_div_left _ _ hp, Nat.mul_comm (wn d k) q, Nat.add_comm]
  · unfold wn
    have e : q * d = q * (d % 2 ^ (64 * k)) + 2 ^ (64 * k) * (q * (d / 2 ^ (64 * k))) := by
      have := Nat.div_add_mod d (2 ^ (64 * k))
      rw [Nat.mul_left_comm, ← Nat.mul_add]
      congr 1
      omega
    rw [e, Nat.add_mul_div_left _ _ hp]
    generalize q * (d % 2 ^ (64 * k)) / 2 ^ (64 * k) = c
    generalize d / 2 ^ (64 * k) = x
    rw [Nat.add_comm, Nat.add_mod, Nat.mod_mul_mod, Nat.mul_comm x q, ← Nat.add_mod]
theorem tm_lo (d q k : Nat) : mulLo (wd d k) q 0 (tc d q k) = wd (q * d) k := by
  unfold mulLo tc
  rw [wd_wn, wd_wn, ← (tm_core d q k).2, Int.add_zero, ← Int.natCast_mul, ← Int.natCast_add]
  rfl
theorem tm_hi (d q k : Nat) : mulHi (wd d k) q 0 (tc d q k) = tc d q (k + 1) := by
  unfold mulHi tc
  rw [wd_wn, ← (tm_core d q k).1, Int.add_zero, ← Int.natCast_mul, ← Int.natCast_add]
  rfl
theorem tc_end (d q s : Nat) (hd : d < 2 ^ (64 * s)) (hq : q < 18446744073709551616) : tc d q s = wd (q * d) s := by
  have h := (tc_bd d q s hq).2
  unfold tc at h ⊢
  rw [Nat.mod_eq_of_lt hd] at h ⊢
  unfold wd
  rw [Nat.mod_eq_of_lt (Int.ofNat_lt.1 h)]

/-- The lowest i words of r, and Y above them. -/
def glue (r i Y : Nat) : Nat := r % 2 ^ (64 * i) + 2 ^ (64 * i) * Y
theorem glue_div (r i Y : Nat) : glue r i Y / 2 ^ (64 * i) = Y := by
  unfold glue
  rw [Nat.add_mul_div_left _ _ (pow_pos' i), Nat.div_eq_of_lt (Nat.mod_lt _ (pow_pos' i)), Nat.zero_add]
theorem glue_mod (r i Y : Nat) : glue r i Y % 2 ^ (64 * i) = r % 2 ^ (64 * i) := by
  unfold glue
  rw [Nat.add_mul_mod_self_left, Nat.mod_mod]
theorem glue_glue (r i Y Z : Nat) : glue (glue r i Y) i Z = glue r i Z := by
  rw [glue, glue_mod]; rfl
theorem glue_self (r i : Nat) : glue r i (r / 2 ^ (64 * i)) = r := by
  unfold glue
  have := Nat.div_add_mod r (2 ^ (64 * i))
  omega
theorem glue_lt (r i s Y : Nat) (h : Y < 2 ^ (64 * s)) : glue r i Y < 2 ^ (64 * (i + s)) := by
  unfold glue
  have h1 := Nat.mod_lt r (pow_pos' i)
  have h2 : 2 ^ (64 * i) * (Y + 1) ≤ 2 ^ (64 * i) * 2 ^ (64 * s) := Nat.mul_le_mul_left _ h
  rw [pow_add']
  rw [Nat.mul_add, Nat.mul_one] at h2
  omega
/-- While words i to i + k - 1 have been written. -/
def gl (r Y i k j : Nat) : Int := if i ≤ j ∧ j < i + k then wd Y (j - i) else wd r j
theorem gl_zero (r Y i j : Nat) : gl r Y i 0 j = wd r j := by unfold gl; rw [if_neg (by omega)]
theorem gl_at (r Y i k : Nat) : gl r Y i k (i + k) = wd r (i + k) := by unfold gl; rw [if_neg (by omega)]
theorem gl_step (r Y i k j : Nat) {x : Int} (h : x = wd Y k) : upd (gl r Y i k) (i + k) x j = gl r Y i (k + 1) j := by
  unfold upd gl
  by_cases h1 : j = i + k
  · subst h1; rw [if_pos rfl, if_pos (by omega), h, Nat.add_sub_cancel_left]
  · rw [if_neg h1]
    by_cases h2 : i ≤ j ∧ j < i + k
    · rw [if_pos h2, if_pos (by omega)]
    · rw [if_neg h2, if_neg (by omega)]
theorem gl_end (r Y i m j : Nat) (hr : r < 2 ^ (64 * (i + m))) : gl r Y i m j = wd (glue r i (Y % 2 ^ (64 * m))) j := by
  unfold gl
  by_cases h2 : i ≤ j ∧ j < i + m
  · rw [if_pos h2]
    obtain ⟨k, rfl⟩ : ∃ k, j = i + k := ⟨j - i, by omega⟩
    rw [wd_off, glue_div, wd_modp _ _ _ (by omega), Nat.add_sub_cancel_left]
  · rw [if_neg h2]
    by_cases h3 : j < i
    · rw [← wd_modp r i j h3, ← wd_modp (glue r i _) i j h3, glue_mod]
    · rw [wd_top' r (i + m) j hr (by omega), wd_top' _ (i + m) j (glue_lt r i m _ (Nat.mod_lt _ (pow_pos' m))) (by omega)]
theorem brw_fin (X P m : Nat) (hX : X < 2 ^ (64 * m)) (hP : P < 2 ^ (64 * m)) : (brw X P m != 0) = decide (X < P) := by
  unfold brw
  rw [Nat.mod_eq_of_lt hX, Nat.mod_eq_of_lt hP]
  by_cases h : X < P
  · rw [if_pos h, decide_eq_true h]; rfl
  · rw [if_neg h, decide_eq_false h]; rfl
theorem cry_fin (a b m : Nat) (ha : a < 2 ^ (64 * m)) (hb : b < 2 ^ (64 * m)) : (cry a b m != 0) = decide (2 ^ (64 * m) ≤ a + b) := by
  have h := cry_nat a b m
  unfold cry
  rw [Nat.mod_eq_of_lt ha, Nat.mod_eq_of_lt hb] at h ⊢
  have hp := pow_pos' m
  by_cases hs : 2 ^ (64 * m) ≤ a + b
  · have : 1 ≤ (a + b) / 2 ^ (64 * m) := (Nat.le_div_iff_mul_le hp).2 (by omega)
    rw [decide_eq_true hs, bne_iff_ne]
    intro h0
    have := Int.ofNat.inj h0
    omega
  · have : (a + b) / 2 ^ (64 * m) = 0 := Nat.div_eq_of_lt (by omega)
    rw [decide_eq_false hs, this]; rfl
theorem tq_lt (d q s : Nat) (hd : d < 2 ^ (64 * s)) (hq : q < 18446744073709551616) : q * d < 2 ^ (64 * (s + 1)) := by
  rw [pow_step, Nat.mul_comm]
  exact Nat.mul_lt_mul'' hd hq
theorem off_lt (r i m : Nat) (h : r < 2 ^ (64 * (i + m))) : r / 2 ^ (64 * i) < 2 ^ (64 * m) := by
  rw [Nat.div_lt_iff_lt_mul (pow_pos' i), Nat.mul_comm, ← pow_add']; exact h

/-- A number as the seven words of a long. -/
abbrev L7 (v : Nat) : Value := .agg #[.int .u64 (wd v 0), .int .u64 (wd v 1), .int .u64 (wd v 2), .int .u64 (wd v 3), .int .u64 (wd v 4), .int .u64 (wd v 5), .int .u64 (wd v 6)]
theorem seven_lt {f : Nat → Int} {c : Array Value} (h : c = #[.int .u64 (f 0), .int .u64 (f 1), .int .u64 (f 2), .int .u64 (f 3), .int .u64 (f 4), .int .u64 (f 5), .int .u64 (f 6)]) : ∀ j, j < 7 → c[j]? = some (.int .u64 (f j)) := by
  subst h
  intro j hj
  match j, hj with
  | 0, _ | 1, _ | 2, _ | 3, _ | 4, _ | 5, _ | 6, _ => rfl
theorem Row.reads7 {w : World} {g : Nat} {f : Nat → Int} (h : Row w g 7 f) : w.cell? ⟨g, 0, none⟩ = some (.int .u64 (f 0)) ∧ w.cell? ⟨g, 1, none⟩ = some (.int .u64 (f 1)) ∧ w.cell? ⟨g, 2, none⟩ = some (.int .u64 (f 2)) ∧ w.cell? ⟨g, 3, none⟩ = some (.int .u64 (f 3)) ∧ w.cell? ⟨g, 4, none⟩ = some (.int .u64 (f 4)) ∧ w.cell? ⟨g, 5, none⟩ = some (.int .u64 (f 5)) ∧ w.cell? ⟨g, 6, none⟩ = some (.int .u64 (f 6)) :=
  ⟨(h 0 (by omega)).1, (h 1 (by omega)).1, (h 2 (by omega)).1, (h 3 (by omega)).1, (h 4 (by omega)).1, (h 5 (by omega)).1, (h 6 (by omega)).1⟩
theorem Row.writes7 {w : World} {g : Nat} {f : Nat → Int} (h : Row w g 7 f) : w.frozen? ⟨g, 0, none⟩ = false ∧ w.frozen? ⟨g, 1, none⟩ = false ∧ w.frozen? ⟨g, 2, none⟩ = false ∧ w.frozen? ⟨g, 3, none⟩ = false ∧ w.frozen? ⟨g, 4, none⟩ = false ∧ w.frozen? ⟨g, 5, none⟩ = false ∧ w.frozen? ⟨g, 6, none⟩ = false :=
  ⟨(h 0 (by omega)).2, (h 1 (by omega)).2, (h 2 (by omega)).2, (h 3 (by omega)).2, (h 4 (by omega)).2, (h 5 (by omega)).2, (h 6 (by omega)).2⟩
theorem below7 {B g : Nat} {w wr : World} (h : Below B w wr) (hg : B ≤ g) (v0 v1 v2 v3 v4 v5 v6 : Value) : Below B w (((((((wr.setCell ⟨g, 0, none⟩ v0).setCell ⟨g, 1, none⟩ v1).setCell ⟨g, 2, none⟩ v2).setCell ⟨g, 3, none⟩ v3).setCell ⟨g, 4, none⟩ v4).setCell ⟨g, 5, none⟩ v5).setCell ⟨g, 6, none⟩ v6) :=
  (below6 h hg v0 v1 v2 v3 v4 v5).setCell (p := ⟨g, 6, none⟩) hg _
end Go.Proofs.Ytoagmdgmbkpghaa
/- words.takeTimes, words.putBack -/
namespace Go.Proofs.Ytoagmdgmbkpghaa
open Go.RowKit

end Go.Proofs.Ytoagmdgmbkpghaa
