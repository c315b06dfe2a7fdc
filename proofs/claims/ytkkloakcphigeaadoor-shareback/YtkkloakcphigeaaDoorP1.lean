/- Texts of the proof, joined. -/
import Derived.Shelf.Bits.Mul64
import Derived.Shelf.Spec.BitsCarry
import Derived.Shelf.Spec.TrailingZeros
import Derived.Test.YtkkloakcphigeaaDoorProg
import Derived.WalkKit
import Derived.WalkSpells
import Derived.Laws.Externs
import Derived.Laws.Bits64b
import Derived.BigRegion
import Derived.Deep.RegionWith
import Derived.Orders
import Derived.RegionTactic
import Derived.Below
import Derived.Laws.IdiomCopy
import Derived.Laws.NewBlocks
import Derived.Lib.Strings
import Derived.Lib.Slices
import Derived.Lib.Small
import Derived.Lib.Walk
import Derived.Lib.BitFns
import Derived.BigQuiet
import Derived.Deep.DeepCutAuto
import Derived.Deep.CutBlock
import Derived.WalkSmall
section
namespace Go.Proofs
set_option maxRecDepth 100000
open Go.Shelf
def Tryd.lays264_ren : Go.Shelf.Ren := ⟨fun | 264 => 70 | n => n, fun | 53 => 31 | 46 => 114 | n => n, fun | n => n⟩
theorem Tryd.lays264 : Go.Proofs.Lays.n264 Tryd.prog Tryd.lays264_ren := {
  mixed := by kernel_rfl
  f264 := Tryd.func70.trans (congrArg some (by kernel_rfl))
  t46 := Tryd.underlying114
  a46 := Tryd.isAgg114
  z46 := Tryd.sizeOf114
  v46 := Tryd.zeroValue114
  t53 := Tryd.underlying31
  a53 := Tryd.isAgg31
  z53 := Tryd.sizeOf31
  v53 := Tryd.zeroValue31 }
def Tryd.lays26_ren : Go.Shelf.Ren := ⟨fun | 26 => 74 | n => n, fun | 22 => 31 | n => n, fun | n => n⟩
theorem Tryd.lays26 : Go.Proofs.Lays7.n26 Tryd.prog Tryd.lays26_ren := {
  mixed := by kernel_rfl
  f26 := Tryd.func74.trans (congrArg some (by kernel_rfl))
  t22 := Tryd.underlying31
  a22 := Tryd.isAgg31
  z22 := Tryd.sizeOf31
  v22 := Tryd.zeroValue31
  i22 := by kernel_rfl }
def Tryd.lays29_ren : Go.Shelf.Ren := ⟨fun | 29 => 79 | n => n, fun | 22 => 31 | 25 => 114 | 54 => 121 | n => n, fun | 1 => 2 | n => n⟩
theorem Tryd.lays29 : Go.Proofs.Lays7.n29 Tryd.prog Tryd.lays29_ren := {
  mixed := by kernel_rfl
  f29 := Tryd.func79.trans (congrArg some (by kernel_rfl))
  t0 := Tryd.underlying0
  a0 := Tryd.isAgg0
  z0 := Tryd.sizeOf0
  v0 := Tryd.zeroValue0
  i0 := by kernel_rfl
  t3 := Tryd.underlying3
  a3 := Tryd.isAgg3
  z3 := Tryd.sizeOf3
  v3 := Tryd.zeroValue3
  i3 := by kernel_rfl
  t4 := Tryd.underlying4
  a4 := Tryd.isAgg4
  z4 := Tryd.sizeOf4
  v4 := Tryd.zeroValue4
  i4 := by kernel_rfl
  t5 := Tryd.underlying5
  a5 := Tryd.isAgg5
  z5 := Tryd.sizeOf5
  v5 := Tryd.zeroValue5
  i5 := by kernel_rfl
  t22 := Tryd.underlying31
  a22 := Tryd.isAgg31
  z22 := Tryd.sizeOf31
  v22 := Tryd.zeroValue31
  i22 := by kernel_rfl
  t25 := Tryd.underlying114
  a25 := Tryd.isAgg114
  z25 := Tryd.sizeOf114
  v25 := Tryd.zeroValue114
  i25 := by kernel_rfl
  t54 := Tryd.underlying121
  a54 := Tryd.isAgg121
  z54 := Tryd.sizeOf121
  g1 := by kernel_rfl }
end Go.Proofs
end
section
namespace Go.Proofs.YtkkloakcphigeaaDoor
open Go.RowKit
/-- Word i of a number. -/
def wd (v i : Nat) : Int := ((v / 2 ^ (64 * i) % 18446744073709551616 : Nat) : Int)
theorem wd_bd (v i : Nat) : 0 ≤ wd v i ∧ wd v i < 18446744073709551616 := by unfold wd; omega
def big : Nat := 2 ^ (64 * 6)
theorem pow_step (k : Nat) : 2 ^ (64 * (k + 1)) = 2 ^ (64 * k) * 18446744073709551616 := by
  rw [Nat.mul_add, Nat.pow_add]
theorem big_eq : big = 2 ^ (64 * 6) := by rw [big]
theorem pow_pos' (k : Nat) : 0 < 2 ^ (64 * k) := Nat.two_pow_pos _
/-- A number as the six words of an array. -/
abbrev N (v : Nat) : Value := .agg #[.int .u64 (wd v 0), .int .u64 (wd v 1), .int .u64 (wd v 2), .int .u64 (wd v 3), .int .u64 (wd v 4), .int .u64 (wd v 5)]
/-- The words of v below place k, noughts from there on. -/
def part (v k j : Nat) : Int := if j < k then wd v j else 0
def upd (f : Nat → Int) (k : Nat) (v : Int) (j : Nat) : Int := if j = k then v else f j
theorem part_step {v k : Nat} {x : Int} (h : x = wd v k) (j : Nat) : upd (part v k) k x j = part v (k + 1) j := by
  unfold upd part
  by_cases h1 : j = k
  · subst h1; simp [h]
  · rw [if_neg h1]
    by_cases h2 : j < k
    · rw [if_pos h2, if_pos (by omega)]
    · rw [if_neg h2, if_neg (by omega)]
theorem part_lt {v k j : Nat} (h : j < k) : part v k j = wd v j := if_pos h
theorem wd_mod (v j : Nat) (h : j < 6) : wd (v % big) j = wd v j := by
  unfold wd
  have e : big = 2 ^ (64 * j) * (18446744073709551616 * 2 ^ (64 * (5 - j))) := by
    have : 64 * 6 = 64 * j + (64 + 64 * (5 - j)) := by omega
    rw [big, this, Nat.pow_add, Nat.pow_add]
  rw [e, Nat.mod_mul_right_div_self, Nat.mod_mul_right_mod]
/-! Sums. -/
def cry (a b k : Nat) : Int := (((a % 2 ^ (64 * k) + b % 2 ^ (64 * k)) / 2 ^ (64 * k) : Nat) : Int)
theorem cry_nat (a b k : Nat) : (a % 2 ^ (64 * k) + b % 2 ^ (64 * k)) / 2 ^ (64 * k) ≤ 1 := by
  have hp := pow_pos' k
  have h1 := Nat.mod_lt a hp
  have h2 := Nat.mod_lt b hp
  have h3 : (a % 2 ^ (64 * k) + b % 2 ^ (64 * k)) / 2 ^ (64 * k) < 2 := (Nat.div_lt_iff_lt_mul hp).2 (by omega)
  omega
theorem cry_bd (a b k : Nat) : 0 ≤ cry a b k ∧ cry a b k ≤ 1 := by
  exact ⟨Int.natCast_nonneg _, Int.ofNat_le.2 (cry_nat a b k)⟩
def addLo (x y c : Int) : Int := (x + y + c) % 18446744073709551616
def addHi (x y c : Int) : Int := (x + y + c) / 18446744073709551616
theorem div_split (a b B : Nat) (hB : 0 < B) : (a + b) / B = a / B + b / B + (a % B + b % B) / B := by
  have ha := Nat.div_add_mod a B
  have hb := Nat.div_add_mod b B
  have e : a + b = (a % B + b % B) + B * (a / B + b / B) := by rw [Nat.mul_add]; omega
  rw [e, Nat.add_mul_div_left _ _ hB]; omega
theorem add_word (a b k : Nat) : addLo (wd a k) (wd b k) (cry a b k) = wd (a + b) k := by
  unfold addLo wd cry
  rw [div_split a b _ (pow_pos' k)]
  omega
theorem add_cry (a b k : Nat) : addHi (wd a k) (wd b k) (cry a b k) = cry a b (k + 1) := by
  unfold addHi wd cry
  rw [pow_step, ← Nat.div_div_eq_div_mul, Nat.mod_mul, Nat.mod_mul]
  have hp := pow_pos' k
  generalize 2 ^ (64 * k) = B at hp ⊢
  have e : a % B + B * (a / B % 18446744073709551616) + (b % B + B * (b / B % 18446744073709551616)) = (a % B + b % B) + B * (a / B % 18446744073709551616 + b / B % 18446744073709551616) := by rw [Nat.mul_add]; omega
  rw [e, Nat.add_mul_div_left _ _ hp]
  generalize (a % B + b % B) / B = c
  omega
theorem cry_end (a b : Nat) (ha : a < big) (hb : b < big) : (cry a b 6 != 0) = decide (big ≤ a + b) := by
  have h := cry_nat a b 6
  unfold cry
  rw [← big_eq] at h ⊢
  rw [Nat.mod_eq_of_lt ha, Nat.mod_eq_of_lt hb] at h ⊢
  by_cases hs : big ≤ a + b
  · have : 1 ≤ (a + b) / big := (Nat.le_div_iff_mul_le (by decide +kernel)).2 (by omega)
    rw [decide_eq_true hs, bne_iff_ne]; omega
  · have : (a + b) / big = 0 := Nat.div_eq_of_lt (by omega)
    rw [decide_eq_false hs, this]; rfl
/-! Differences. -/
def bor (x y : Int) : Int := if x < y then 1 else 0
def subLo (x y b : Int) : Int := (x - y - b) % 18446744073709551616
def brw (a b k : Nat) : Int := if a % 2 ^ (64 * k) < b % 2 ^ (64 * k) then 1 else 0
theorem brw_bd (a b k : Nat) : 0 ≤ brw a b k ∧ brw a b k ≤ 1 := by unfold brw; split <;> omega
theorem sub_cry (a b k : Nat) : bor (wd a k) (wd b k + brw a b k) = brw a b (k + 1) := by
  unfold bor wd brw
  rw [pow_step, Nat.mod_mul, Nat.mod_mul]
  have hp := pow_pos' k
  generalize 2 ^ (64 * k) = B at hp ⊢
  have ha := Nat.mod_lt a hp
  have hb := Nat.mod_lt b hp
  generalize a / B % 18446744073709551616 = x
  generalize b / B % 18446744073709551616 = y
  generalize a % B = p at ha ⊢
  generalize b % B = q at hb ⊢
  by_cases h1 : x < y
  · have h2 : B * (x + 1) ≤ B * y := Nat.mul_le_mul_left B h1
    rw [Nat.mul_add] at h2
    rw [if_pos (by split <;> omega), if_pos (by omega)]
  · by_cases h3 : x = y
    · subst h3
      by_cases h4 : p < q
      · rw [if_pos (by rw [if_pos h4]; omega), if_pos (by omega)]
      · rw [if_neg (by rw [if_neg h4]; omega), if_neg (by omega)]
    · have h2 : B * (y + 1) ≤ B * x := Nat.mul_le_mul_left B (by omega)
      rw [Nat.mul_add] at h2
      rw [if_neg (by split <;> omega), if_neg (by omega)]
theorem sub_word (a b k : Nat) (hk : k < 6) (hb : b < big) : subLo (wd a k) (wd b k) (brw a b k) = wd (a + big - b) k := by
  unfold subLo wd brw
  have e : big = 2 ^ (64 * k) * (18446744073709551616 * 2 ^ (64 * (5 - k))) := by
    have : 64 * 6 = 64 * k + (64 + 64 * (5 - k)) := by omega
    rw [big, this, Nat.pow_add, Nat.pow_add]
  have hp := pow_pos' k
  rw [e] at hb ⊢
  generalize 2 ^ (64 * (5 - k)) = R at hb ⊢
  generalize 2 ^ (64 * k) = B at hp hb ⊢
  have hbh : b / B < 18446744073709551616 * R := (Nat.div_lt_iff_lt_mul hp).2 (by rw [Nat.mul_comm]; exact hb)
  have da := Nat.div_add_mod a B
  have db := Nat.div_add_mod b B
  have la := Nat.mod_lt a hp
  have lb := Nat.mod_lt b hp
  generalize a / B = x at da ⊢
  generalize b / B = y at db hbh ⊢
  generalize a % B = p at da la ⊢
  generalize b % B = q at db lb ⊢
  by_cases h : p < q
  · have e2 : a + B * (18446744073709551616 * R) - b = (p + B - q) + B * (x + 18446744073709551616 * R - y - 1) := by
      have h3 : B * (x + 18446744073709551616 * R - y - 1) = B * x + B * (18446744073709551616 * R) - B * y - B := by
        rw [Nat.mul_sub, Nat.mul_sub, Nat.mul_add, Nat.mul_one]
      have h4 : B * y + B ≤ B * (18446744073709551616 * R) := by rw [← Nat.mul_succ]; exact Nat.mul_le_mul_left B hbh
      rw [h3]; omega
    rw [e2, Nat.add_mul_div_left _ _ hp, Nat.div_eq_of_lt (by omega : p + B - q < B), if_pos h]
    omega
  · have e2 : a + B * (18446744073709551616 * R) - b = (p - q) + B * (x + 18446744073709551616 * R - y) := by
      have h3 : B * (x + 18446744073709551616 * R - y) = B * x + B * (18446744073709551616 * R) - B * y := by
        rw [Nat.mul_sub, Nat.mul_add]
      have h4 : B * y + B ≤ B * (18446744073709551616 * R) := by rw [← Nat.mul_succ]; exact Nat.mul_le_mul_left B hbh
      rw [h3]; omega
    rw [e2, Nat.add_mul_div_left _ _ hp, Nat.div_eq_of_lt (by omega : p - q < B), if_neg h]
    omega
theorem brw_end (a b : Nat) (ha : a < big) (hb : b < big) : (brw a b 6 != 0) = decide (a < b) := by
  unfold brw
  rw [← big_eq, Nat.mod_eq_of_lt ha, Nat.mod_eq_of_lt hb]
  by_cases h : a < b
  · rw [if_pos h, decide_eq_true h]; rfl
  · rw [if_neg h, decide_eq_false h]; rfl
/-! Rows of words in memory. -/
/-- Block g of w holds n words, as f tells them, and may be written. -/
def Row (w : World) (g n : Nat) (f : Nat → Int) : Prop := ∀ j, j < n → w.cell? ⟨g, j, none⟩ = some (.int .u64 (f j)) ∧ w.frozen? ⟨g, j, none⟩ = false
theorem Row.drew {w : World} {g n : Nat} {f : Nat → Int} (h : Row w g n f) : Row w.drew g n f := fun j hj => ⟨by rw [World.cell?_drew]; exact (h j hj).1, by rw [World.frozen?_drew]; exact (h j hj).2⟩
theorem Row.congr {w : World} {g n : Nat} {f f' : Nat → Int} (h : Row w g n f) (e : ∀ j, j < n → f j = f' j) : Row w g n f' := fun j hj => by rw [← e j hj]; exact h j hj
theorem Row.set {w : World} {g n : Nat} {f : Nat → Int} (h : Row w g n f) {k : Nat} (v : Int) : Row (w.setCell ⟨g, k, none⟩ (.int .u64 v)) g n (upd f k v) := by
  intro j hj
  obtain ⟨h1, h2⟩ := h j hj
  refine ⟨?_, by rw [World.frozen?_setCell]; exact h2⟩
  unfold upd
  by_cases e : j = k
  · subst e; rw [if_pos rfl]; exact World.cell?_setCell_same _ _ _ h1
  · rw [if_neg e, World.cell?_setCell_other _ _ _ _ (by intro h; injection h with h1 h2; exact e h2.symm)]; exact h1
theorem Row.set_other {w : World} {g n : Nat} {f : Nat → Int} (h : Row w g n f) {a : Addr} (v : Value) (hne : a.block ≠ g) : Row (w.setCell a v) g n f := by
  intro j hj
  obtain ⟨h1, h2⟩ := h j hj
  exact ⟨by rw [World.cell?_setCell_other _ _ _ _ (by intro h; apply hne; rw [h])]; exact h1, by rw [World.frozen?_setCell]; exact h2⟩
theorem Row.alloc {w : World} {g n : Nat} {f : Nat → Int} (h : Row w g n f) (hg : g < w.heap.size) (o : Obj) : Row (w.alloc o) g n f := by
  intro j hj
  obtain ⟨h1, h2⟩ := h j hj
  exact ⟨by rw [World.cell?_alloc_past _ _ _ hg]; exact h1, by rw [World.frozen?_alloc_past _ _ _ hg]; exact h2⟩
theorem Row.new (w : World) (c : Array Value) (t : TypeId) {g n : Nat} (hg : g = w.heap.size) {f : Nat → Int} (h : ∀ j, j < n → c[j]? = some (.int .u64 (f j))) : Row (w.alloc (.cells c t)) g n f := by
  intro j hj
  exact ⟨by rw [World.cell?_alloc_at _ _ _ _ hg]; exact h j hj, World.frozen?_alloc_at _ _ _ _ hg⟩
theorem Row.below {B : Nat} {w w' : World} (hb : Below B w w') {g n : Nat} {f : Nat → Int} (h : Row w g n f) (hg : g < B) : Row w' g n f := by
  intro j hj
  obtain ⟨h1, h2⟩ := h j hj
  exact ⟨by rw [hb.cell (p := ⟨g, j, none⟩) hg]; exact h1, by rw [hb.frozen (p := ⟨g, j, none⟩) hg]; exact h2⟩
theorem six_lt {f : Nat → Int} {c : Array Value} (h : c = #[.int .u64 (f 0), .int .u64 (f 1), .int .u64 (f 2), .int .u64 (f 3), .int .u64 (f 4), .int .u64 (f 5)]) : ∀ j, j < 6 → c[j]? = some (.int .u64 (f j)) := by
  subst h
  intro j hj
  match j, hj with
  | 0, _ => rfl
  | 1, _ => rfl
  | 2, _ => rfl
  | 3, _ => rfl
  | 4, _ => rfl
  | 5, _ => rfl
/-- Six words may be read and written. -/
theorem Row.reads {w : World} {g : Nat} {f : Nat → Int} (h : Row w g 6 f) : w.cell? ⟨g, 0, none⟩ = some (.int .u64 (f 0)) ∧ w.cell? ⟨g, 1, none⟩ = some (.int .u64 (f 1)) ∧ w.cell? ⟨g, 2, none⟩ = some (.int .u64 (f 2)) ∧ w.cell? ⟨g, 3, none⟩ = some (.int .u64 (f 3)) ∧ w.cell? ⟨g, 4, none⟩ = some (.int .u64 (f 4)) ∧ w.cell? ⟨g, 5, none⟩ = some (.int .u64 (f 5)) :=
  ⟨(h 0 (by omega)).1, (h 1 (by omega)).1, (h 2 (by omega)).1, (h 3 (by omega)).1, (h 4 (by omega)).1, (h 5 (by omega)).1⟩
theorem Row.writes {w : World} {g : Nat} {f : Nat → Int} (h : Row w g 6 f) : w.frozen? ⟨g, 0, none⟩ = false ∧ w.frozen? ⟨g, 1, none⟩ = false ∧ w.frozen? ⟨g, 2, none⟩ = false ∧ w.frozen? ⟨g, 3, none⟩ = false ∧ w.frozen? ⟨g, 4, none⟩ = false ∧ w.frozen? ⟨g, 5, none⟩ = false :=
  ⟨(h 0 (by omega)).2, (h 1 (by omega)).2, (h 2 (by omega)).2, (h 3 (by omega)).2, (h 4 (by omega)).2, (h 5 (by omega)).2⟩
/-- Six stores into one of the call's own blocks. -/
theorem below6 {B g : Nat} {w wr : World} (h : Below B w wr) (hg : B ≤ g) (v0 v1 v2 v3 v4 v5 : Value) : Below B w ((((((wr.setCell ⟨g, 0, none⟩ v0).setCell ⟨g, 1, none⟩ v1).setCell ⟨g, 2, none⟩ v2).setCell ⟨g, 3, none⟩ v3).setCell ⟨g, 4, none⟩ v4).setCell ⟨g, 5, none⟩ v5) :=
  (((((h.setCell (p := ⟨g, 0, none⟩) hg _).setCell (p := ⟨g, 1, none⟩) hg _).setCell (p := ⟨g, 2, none⟩) hg _).setCell (p := ⟨g, 3, none⟩) hg _).setCell (p := ⟨g, 4, none⟩) hg _).setCell (p := ⟨g, 5, none⟩) hg _
end Go.Proofs.YtkkloakcphigeaaDoor
end
section
namespace Go.Proofs.YtkkloakcphigeaaDoor
open Go.RowKit Go.Shelf
/-- bits.Add64: the lower word and what is carried. -/
theorem add64' (x y c : Int) (hx : 0 ≤ x) (hy : 0 ≤ y) (hc0 : 0 ≤ c) (hc : c ≤ 1) (w : World) : (callFunc 71 #[.int .u64 x, .int .u64 y, .int .u64 c]).run Tryd.prog w =
    .ok (.value (.tuple #[.int .u64 (addLo x y c), .int .u64 (addHi x y c)])) w := by
  have h := run_callFunc_extern Tryd.func71 (by kernel_rfl) (by kernel_rfl) (by kernel_rfl) (e := add64Entry) (by kernel_rfl) #[.int .u64 x, .int .u64 y, .int .u64 c] w
  rw [run_add64 x y c hx hy hc0 hc] at h
  exact h
/-- bits.Sub64: the lower word and what is borrowed. -/
theorem sub64' (x y b : Int) (hx : 0 ≤ x) (hy : 0 ≤ y) (hy' : y < 18446744073709551616) (hb0 : 0 ≤ b) (hb : b ≤ 1) (w : World) : (callFunc 74 #[.int .u64 x, .int .u64 y, .int .u64 b]).run Tryd.prog w =
    .ok (.value (.tuple #[.int .u64 (subLo x y b), .int .u64 (bor x (y + b))])) w := by
  have h := Any7.bits_Sub64 Tryd.lays26 x.toNat y.toNat b.toNat (by omega) w
  rw [Int.toNat_of_nonneg hx, Int.toNat_of_nonneg hy, Int.toNat_of_nonneg hb0] at h
  have lo : (((x.toNat + 18446744073709551616 - y.toNat - b.toNat) % 18446744073709551616 : Nat) : Int) = subLo x y b := by unfold subLo; omega
  have up : ((if x.toNat < y.toNat + b.toNat then 1 else 0 : Nat) : Int) = bor x (y + b) := by
    unfold bor
    by_cases c : x < y + b
    · rw [if_pos c, if_pos (by omega)]; rfl
    · rw [if_neg c, if_neg (by omega)]; rfl
  rw [lo, up] at h
  exact h
/-- bits.Mul64: the upper and the lower word of a product. -/
theorem mul64N (x y : Nat) (hx : x < 18446744073709551616) (hy : y < 18446744073709551616) (w : World) :
    Calls Tryd.prog 70 #[.int .u64 x, .int .u64 y] w fun e w' => e = .returned (.tuple #[.int .u64 ((x * y / 18446744073709551616 : Nat) : Int), .int .u64 ((x * y % 18446744073709551616 : Nat) : Int)]) ∧ w' = w :=
  Any.bits_Mul64 Tryd.lays264 x y hx hy w
end Go.Proofs.YtkkloakcphigeaaDoor
end
section
namespace Go.Proofs.YtkkloakcphigeaaDoor
open Go.RowKit Go.Lib
def mulLo (a b m c : Int) : Int := (a * b + m + c) % 18446744073709551616
def mulHi (a b m c : Int) : Int := (a * b + m + c) / 18446744073709551616
def pHi (x y : Nat) : Int := ((x * y / 18446744073709551616 : Nat) : Int)
def pLo (x y : Nat) : Int := ((x * y % 18446744073709551616 : Nat) : Int)
theorem mul64' (x y : Nat) (hx : x < 18446744073709551616) (hy : y < 18446744073709551616) (w : World) :
    Calls Tryd.prog 70 #[.int .u64 x, .int .u64 y] w fun e w' => e = .returned (.tuple #[.int .u64 (pHi x y), .int .u64 (pLo x y)]) ∧ w' = w := mul64N x y hx hy w
theorem prod_le (x y : Nat) (hx : x < 18446744073709551616) (hy : y < 18446744073709551616) : x * y ≤ 18446744073709551615 * 18446744073709551615 := Nat.mul_le_mul (by omega) (by omega)
theorem mulAdd_lo (x y : Nat) (m c : Int) : addLo (addLo (pLo x y) m 0) c 0 = mulLo x y m c := by
  unfold addLo pLo mulLo
  rw [← Int.natCast_mul]
  generalize x * y = p
  omega
theorem mulAdd_hi (x y : Nat) (m c : Int) (hx : x < 18446744073709551616) (hy : y < 18446744073709551616) (hm : 0 ≤ m) (hm' : m < 18446744073709551616) (hc : 0 ≤ c) (hc' : c < 18446744073709551616) :
    IntKind.u64.wrap (IntKind.u64.wrap (pHi x y + addHi (pLo x y) m 0) + addHi (addLo (pLo x y) m 0) c 0) = mulHi x y m c := by
  have h := prod_le x y hx hy
  rw [IntKind.wrap_u64, IntKind.wrap_u64]
  unfold addLo addHi pLo pHi mulHi
  rw [← Int.natCast_mul]
  generalize x * y = p at h ⊢
  omega
set_option maxHeartbeats 400000 in
theorem mulAdd_any (a b m c : Int) (ha : 0 ≤ a) (ha' : a < 18446744073709551616) (hb : 0 ≤ b) (hb' : b < 18446744073709551616) (hm : 0 ≤ m) (hm' : m < 18446744073709551616) (hc : 0 ≤ c) (hc' : c < 18446744073709551616) (w : World) :
    Calls Tryd.prog 77 #[.int .u64 a, .int .u64 b, .int .u64 m, .int .u64 c] w fun e w' => e = .returned (.tuple #[.int .u64 (mulLo a b m c), .int .u64 (mulHi a b m c)]) ∧ w' = w := by
  obtain ⟨x, rfl⟩ := Int.eq_ofNat_of_zero_le ha
  obtain ⟨y, rfl⟩ := Int.eq_ofNat_of_zero_le hb
  have hx : x < 18446744073709551616 := by omega
  have hy : y < 18446744073709551616 := by omega
  have e1 : Hid _ := mulAdd_hi x y m c hx hy hm hm' hc hc'
  have e2 : Hid _ := mulAdd_lo x y m c
  have h1 := fun w => add64' (pLo x y) m 0 (by unfold pLo; omega) hm (by omega) (by omega) w
  have h2 := fun w => add64' (addLo (pLo x y) m 0) c 0 (by unfold addLo; omega) hc (by omega) (by omega) w
  have h3 := fun w => mul64' x y hx hy w
  have H3 : Hid _ := h3
  clear ha ha' hb hb' hm hm' hc hc' hx hy h3
  go_enter Tryd.func77, Tryd.ntmps77
  go_wp2_with (go_at_call 70; refine (H3.out _).mono ?_; rintro e w' ⟨rfl, rfl⟩)
  rw [e1.out, e2.out]
  go_ret2
  exact ⟨rfl, rfl⟩
end Go.Proofs.YtkkloakcphigeaaDoor
end
section
namespace Go.Proofs.YtkkloakcphigeaaDoor
open Go.RowKit
/-- Word i as a natural number. -/
def wn (v i : Nat) : Nat := v / 2 ^ (64 * i) % 18446744073709551616
theorem wd_wn (v i : Nat) : wd v i = (wn v i : Int) := rfl
theorem wn_lt (v i : Nat) : wn v i < 18446744073709551616 := Nat.mod_lt _ (by decide)
theorem mod_step (v k : Nat) : v % 2 ^ (64 * (k + 1)) = v % 2 ^ (64 * k) + 2 ^ (64 * k) * wn v k := by
  rw [pow_step, Nat.mod_mul]; rfl
/-- The sum behind j rounds of row i: what was there, and word i of a times the lowest j words of b. -/
def sm (a b i j : Nat) : Nat := (a % 2 ^ (64 * i)) * b + wn a i * (b % 2 ^ (64 * j)) * 2 ^ (64 * i)
def pm (V S t m : Nat) : Int := if m < t then wd S m else wd V m
def mc (a b i j : Nat) : Int := ((((a % 2 ^ (64 * i)) * b) % 2 ^ (64 * (i + j)) + wn a i * (b % 2 ^ (64 * j)) * 2 ^ (64 * i)) / 2 ^ (64 * (i + j)) : Nat)
theorem pow_add' (i j : Nat) : 2 ^ (64 * (i + j)) = 2 ^ (64 * i) * 2 ^ (64 * j) := by rw [Nat.mul_add, Nat.pow_add]
end Go.Proofs.YtkkloakcphigeaaDoor
end
section
namespace Go.Proofs.YtkkloakcphigeaaDoor
open Go.RowKit
theorem wd_shr (v k : Nat) : wd v k = ((v >>> (64 * k) % 2 ^ 64 : Nat) : Int) := by unfold wd; rw [Nat.shiftRight_eq_div_pow]
theorem up_bits1 (a n k : Nat) (h : k = n / 64) : ((a >>> (64 * (k - n / 64)) % 2 ^ 64) <<< (n % 64)) % 2 ^ 64 = (a <<< n) >>> (64 * k) % 2 ^ 64 := by
  apply Nat.eq_of_testBit_eq
  intro i
  simp only [Nat.testBit_mod_two_pow, Nat.testBit_shiftLeft, Nat.testBit_shiftRight]
  by_cases hi : i < 64
  · by_cases ht : n % 64 ≤ i
    · have e1 : n ≤ 64 * k + i := by omega
      have e2 : 64 * (k - n / 64) + (i - n % 64) = 64 * k + i - n := by omega
      have e3 : i - n % 64 < 64 := by omega
      simp [hi, ht, e1, e2, e3]
    · have e1 : ¬ n ≤ 64 * k + i := by omega
      simp [hi, ht, e1]
  · simp [hi]
theorem up_bits (a n k : Nat) (h : n / 64 < k) : ((a >>> (64 * (k - n / 64)) % 2 ^ 64) <<< (n % 64)) % 2 ^ 64 ||| (a >>> (64 * (k - n / 64 - 1)) % 2 ^ 64) >>> (64 - n % 64) = (a <<< n) >>> (64 * k) % 2 ^ 64 := by
  apply Nat.eq_of_testBit_eq
  intro i
  simp only [Nat.testBit_or, Nat.testBit_mod_two_pow, Nat.testBit_shiftLeft, Nat.testBit_shiftRight]
  by_cases hi : i < 64
  · have e1 : n ≤ 64 * k + i := by omega
    by_cases ht : n % 64 ≤ i
    · have e2 : 64 * (k - n / 64) + (i - n % 64) = 64 * k + i - n := by omega
      have e3 : i - n % 64 < 64 := by omega
      have e4 : ¬ 64 - n % 64 + i < 64 := by omega
      simp [hi, ht, e1, e2, e3, e4]
    · have e4 : 64 - n % 64 + i < 64 := by omega
      have e5 : 64 * (k - n / 64 - 1) + (64 - n % 64 + i) = 64 * k + i - n := by omega
      simp [hi, ht, e1, e4, e5]
  · have e4 : ¬ 64 - n % 64 + i < 64 := by omega
    simp [hi, e4]
theorem down_bits (a n k : Nat) (h : n / 64 ≤ k) : (a >>> (64 * k) % 2 ^ 64) >>> (n % 64) ||| ((a >>> (64 * (k + 1)) % 2 ^ 64) <<< (64 - n % 64)) % 2 ^ 64 = (a >>> n) >>> (64 * (k - n / 64)) % 2 ^ 64 := by
  apply Nat.eq_of_testBit_eq
  intro i
  simp only [Nat.testBit_or, Nat.testBit_mod_two_pow, Nat.testBit_shiftLeft, Nat.testBit_shiftRight]
  by_cases hi : i < 64
  · by_cases ht : n % 64 + i < 64
    · have e2 : 64 * k + (n % 64 + i) = n + (64 * (k - n / 64) + i) := by omega
      have e3 : ¬ 64 - n % 64 ≤ i := by omega
      simp [hi, ht, e2, e3]
    · have e3 : 64 - n % 64 ≤ i := by omega
      have e4 : i - (64 - n % 64) < 64 := by omega
      have e5 : 64 * (k + 1) + (i - (64 - n % 64)) = n + (64 * (k - n / 64) + i) := by omega
      simp [hi, ht, e3, e4, e5]
  · have e4 : ¬ n % 64 + i < 64 := by omega
    simp [hi, e4]
theorem wrap_shl (x t : Nat) : IntKind.u64.wrap ((x : Int) * 2 ^ t) = ((x <<< t % 2 ^ 64 : Nat) : Int) := by
  rw [IntKind.wrap_u64, Nat.shiftLeft_eq]
  have : (x : Int) * 2 ^ t = ((x * 2 ^ t : Nat) : Int) := by rw [Int.natCast_mul, Int.natCast_pow]; rfl
  rw [this]; rfl
theorem div_shr (x t : Nat) : (x : Int) / 2 ^ t = ((x >>> t : Nat) : Int) := by
  rw [Nat.shiftRight_eq_div_pow]
  have : ((2 : Int) ^ t) = ((2 ^ t : Nat) : Int) := by rw [Int.natCast_pow]; rfl
  rw [this]; rfl
theorem up_word1 (a n k : Nat) (h : k = n / 64) : IntKind.u64.wrap (wd a (k - n / 64) * 2 ^ (n % 64)) = wd (a * 2 ^ n) k := by
  rw [wd_shr, wrap_shl, up_bits1 a n k h, wd_shr, Nat.shiftLeft_eq]
theorem up_word (a n k : Nat) (h : n / 64 < k) : bits .or .u64 (IntKind.u64.wrap (wd a (k - n / 64) * 2 ^ (n % 64))) (wd a (k - n / 64 - 1) / 2 ^ (64 - n % 64)) = wd (a * 2 ^ n) k := by
  rw [wd_shr, wrap_shl, wd_shr, div_shr, wd_shr, ← Nat.shiftLeft_eq, ← up_bits a n k h]
  refine bits_or_u64_nat _ _ (Nat.mod_lt _ (by decide)) ?_
  rw [Nat.shiftRight_eq_div_pow]
  exact Nat.lt_of_le_of_lt (Nat.div_le_self _ _) (Nat.mod_lt _ (by decide))
theorem down_word (a n k : Nat) (h : n / 64 ≤ k) : bits .or .u64 (wd a k / 2 ^ (n % 64)) (IntKind.u64.wrap (wd a (k + 1) * 2 ^ (64 - n % 64))) = wd (a / 2 ^ n) (k - n / 64) := by
  rw [wd_shr, wd_shr, wrap_shl, div_shr, wd_shr, ← Nat.shiftRight_eq_div_pow, ← down_bits a n k h]
  refine bits_or_u64_nat _ _ ?_ (Nat.mod_lt _ (by decide))
  rw [Nat.shiftRight_eq_div_pow (n := n % 64)]
  exact Nat.lt_of_le_of_lt (Nat.div_le_self _ _) (Nat.mod_lt _ (by decide))
theorem pow_le' (j m : Nat) (h : j ≤ m) : 2 ^ j ≤ 2 ^ m := Nat.pow_le_pow_right (by decide) h
theorem big_pow : ∃ n, n = 6 ∧ big = 2 ^ (64 * n) := ⟨6, rfl, big_eq⟩
theorem big_le (m : Nat) (h : 384 ≤ m) : big ≤ 2 ^ m := by
  obtain ⟨n, hn, e⟩ := big_pow
  rw [e]; exact pow_le' _ _ (by omega)
theorem pow_mono (j k : Nat) (h : j ≤ k) : 2 ^ (64 * j) ≤ 2 ^ (64 * k) := Nat.pow_le_pow_right (by decide) (Nat.mul_le_mul_left 64 h)
theorem wd_top' (v j k : Nat) (h : v < 2 ^ (64 * j)) (hk : j ≤ k) : wd v k = 0 := by
  unfold wd
  rw [Nat.div_eq_of_lt (Nat.lt_of_lt_of_le h (pow_mono j k hk))]
  rfl
theorem wd_top (v k : Nat) (h : v < big) (hk : 6 ≤ k) : wd v k = 0 := wd_top' v 6 k (Nat.lt_of_lt_of_eq h big_eq) hk
theorem down_last (a n : Nat) (ha : a < big) (h : n / 64 ≤ 5) : wd a 5 / 2 ^ (n % 64) = wd (a / 2 ^ n) (5 - n / 64) := by
  have e := down_bits a n 5 h
  have z : a >>> (64 * (5 + 1)) % 2 ^ 64 = 0 := by
    have := wd_top a 6 ha (by omega)
    rw [wd_shr] at this
    exact Int.ofNat.inj this
  rw [z] at e
  rw [wd_shr, div_shr, wd_shr, ← Nat.shiftRight_eq_div_pow, ← e]
  simp
end Go.Proofs.YtkkloakcphigeaaDoor
end
section
namespace Go.Proofs.YtkkloakcphigeaaDoor
open Go.RowKit
theorem wd_off (r i k : Nat) : wd r (i + k) = wd (r / 2 ^ (64 * i)) k := by
  unfold wd; rw [pow_add', Nat.div_div_eq_div_mul]
theorem wd_modp (v m j : Nat) (h : j < m) : wd (v % 2 ^ (64 * m)) j = wd v j := by
  unfold wd
  have e : 2 ^ (64 * m) = 2 ^ (64 * j) * (18446744073709551616 * 2 ^ (64 * (m - j - 1))) := by
    have : 64 * m = 64 * j + (64 + 64 * (m - j - 1)) := by omega
    rw [this, Nat.pow_add, Nat.pow_add]
  rw [e, Nat.mod_mul_right_div_self, Nat.mod_mul_right_mod]
theorem sub_word' (a b k m : Nat) (hk : k < m) (hb : b < 2 ^ (64 * m)) : subLo (wd a k) (wd b k) (brw a b k) = wd (a + 2 ^ (64 * m) - b) k := by
  unfold subLo wd brw
  have e : 2 ^ (64 * m) = 2 ^ (64 * k) * (18446744073709551616 * 2 ^ (64 * (m - k - 1))) := by
    have : 64 * m = 64 * k + (64 + 64 * (m - k - 1)) := by omega
    rw [this, Nat.pow_add, Nat.pow_add]
  have hp := pow_pos' k
  rw [e] at hb ⊢
  generalize 2 ^ (64 * (m - k - 1)) = R at hb ⊢
  generalize 2 ^ (64 * k) = B at hp hb ⊢
  have hbh : b / B < 18446744073709551616 * R := (Nat.div_lt_iff_lt_mul hp).2 (by rw [Nat.mul_comm]; exact hb)
  have da := Nat.div_add_mod a B
  have db := Nat.div_add_mod b B
  have la := Nat.mod_lt a hp
  have lb := Nat.mod_lt b hp
  generalize a / B = x at da ⊢
  generalize b / B = y at db hbh ⊢
  generalize a % B = p at da la ⊢
  generalize b % B = q at db lb ⊢
  by_cases h : p < q
  · have e2 : a + B * (18446744073709551616 * R) - b = (p + B - q) + B * (x + 18446744073709551616 * R - y - 1) := by
      have h3 : B * (x + 18446744073709551616 * R - y - 1) = B * x + B * (18446744073709551616 * R) - B * y - B := by
        rw [Nat.mul_sub, Nat.mul_sub, Nat.mul_add, Nat.mul_one]
      have h4 : B * y + B ≤ B * (18446744073709551616 * R) := by rw [← Nat.mul_succ]; exact Nat.mul_le_mul_left B hbh
      rw [h3]; omega
    rw [e2, Nat.add_mul_div_left _ _ hp, Nat.div_eq_of_lt (by omega : p + B - q < B), if_pos h]
    omega
  · have e2 : a + B * (18446744073709551616 * R) - b = (p - q) + B * (x + 18446744073709551616 * R - y) := by
      have h3 : B * (x + 18446744073709551616 * R - y) = B * x + B * (18446744073709551616 * R) - B * y := by
        rw [Nat.mul_sub, Nat.mul_add]
      have h4 : B * y + B ≤ B * (18446744073709551616 * R) := by rw [← Nat.mul_succ]; exact Nat.mul_le_mul_left B hbh
      rw [h3]; omega
    rw [e2, Nat.add_mul_div_left _ _ hp, Nat.div_eq_of_lt (by omega : p - q < B), if_neg h]
    omega
/-- The carry of q times the lowest k words of d. -/
def tc (d q k : Nat) : Int := ((q * (d % 2 ^ (64 * k)) / 2 ^ (64 * k) : Nat) : Int)
theorem tc_zero (d q : Nat) : tc d q 0 = 0 := by unfold tc; simp [Nat.mod_one]
theorem tc_bd (d q k : Nat) (hq : q < 18446744073709551616) : 0 ≤ tc d q k ∧ tc d q k < 18446744073709551616 := by
  refine ⟨Int.natCast_nonneg _, Int.ofNat_lt.2 ?_⟩
  have hp := pow_pos' k
  rw [Nat.div_lt_iff_lt_mul hp]
  exact Nat.lt_of_le_of_lt (Nat.mul_le_mul_left q (Nat.le_of_lt (Nat.mod_lt d hp))) (Nat.mul_lt_mul_of_pos_right hq hp)
theorem tm_core (d q k : Nat) : (wn d k * q + q * (d % 2 ^ (64 * k)) / 2 ^ (64 * k)) / 18446744073709551616 = q * (d % 2 ^ (64 * (k + 1))) / 2 ^ (64 * (k + 1)) ∧
    (wn d k * q + q * (d % 2 ^ (64 * k)) / 2 ^ (64 * k)) % 18446744073709551616 = wn (q * d) k := by
  have hp := pow_pos' k
  constructor
  · rw [mod_step, pow_step, ← Nat.div_div_eq_div_mul, Nat.mul_add]
    congr 1
    rw [Nat.mul_left_comm, Nat.add_mul_div_left _ _ hp, Nat.mul_comm (wn d k) q, Nat.add_comm]
  · unfold wn
    have e : q * d = q * (d % 2 ^ (64 * k)) + 2 ^ (64 * k) * (q * (d / 2 ^ (64 * k))) := by
      have := Nat.div_add_mod d (2 ^ (64 * k))
      rw [Nat.mul_left_comm, ← Nat.mul_add]
      congr 1
      omega
    rw [e, Nat.add_mul_div_left _ _ hp]
    generalize q * (d % 2 ^ (64 * k)) / 2 ^ (64 * k) = c
    generalize d / 2 ^ (64 * k) = x
    rw [Nat.add_comm, Nat.add_mod, Nat.mod_mul_mod, Nat.mul_comm x q, ← Nat.add_mod]
theorem tm_lo (d q k : Nat) : mulLo (wd d k) q 0 (tc d q k) = wd (q * d) k := by
  unfold mulLo tc
  rw [wd_wn, wd_wn, ← (tm_core d q k).2, Int.add_zero, ← Int.natCast_mul, ← Int.natCast_add]
  rfl
theorem tm_hi (d q k : Nat) : mulHi (wd d k) q 0 (tc d q k) = tc d q (k + 1) := by
  unfold mulHi tc
  rw [wd_wn, ← (tm_core d q k).1, Int.add_zero, ← Int.natCast_mul, ← Int.natCast_add]
  rfl
theorem tc_end (d q s : Nat) (hd : d < 2 ^ (64 * s)) (hq : q < 18446744073709551616) : tc d q s = wd (q * d) s := by
  have h := (tc_bd d q s hq).2
  unfold tc at h ⊢
  rw [Nat.mod_eq_of_lt hd] at h ⊢
  unfold wd
  rw [Nat.mod_eq_of_lt (Int.ofNat_lt.1 h)]
/-- The lowest i words of r, and Y above them. -/
def glue (r i Y : Nat) : Nat := r % 2 ^ (64 * i) + 2 ^ (64 * i) * Y
theorem glue_div (r i Y : Nat) : glue r i Y / 2 ^ (64 * i) = Y := by
  unfold glue
  rw [Nat.add_mul_div_left _ _ (pow_pos' i), Nat.div_eq_of_lt (Nat.mod_lt _ (pow_pos' i)), Nat.zero_add]
theorem glue_mod (r i Y : Nat) : glue r i Y % 2 ^ (64 * i) = r % 2 ^ (64 * i) := by
  unfold glue
  rw [Nat.add_mul_mod_self_left, Nat.mod_mod]
theorem glue_glue (r i Y Z : Nat) : glue (glue r i Y) i Z = glue r i Z := by
  rw [glue, glue_mod]; rfl
theorem glue_self (r i : Nat) : glue r i (r / 2 ^ (64 * i)) = r := by
  unfold glue
  have := Nat.div_add_mod r (2 ^ (64 * i))
  omega
theorem glue_lt (r i s Y : Nat) (h : Y < 2 ^ (64 * s)) : glue r i Y < 2 ^ (64 * (i + s)) := by
  unfold glue
  have h1 := Nat.mod_lt r (pow_pos' i)
  have h2 : 2 ^ (64 * i) * (Y + 1) ≤ 2 ^ (64 * i) * 2 ^ (64 * s) := Nat.mul_le_mul_left _ h
  rw [pow_add']
  rw [Nat.mul_add, Nat.mul_one] at h2
  omega
/-- While words i to i + k - 1 have been written. -/
def gl (r Y i k j : Nat) : Int := if i ≤ j ∧ j < i + k then wd Y (j - i) else wd r j
theorem gl_zero (r Y i j : Nat) : gl r Y i 0 j = wd r j := by unfold gl; rw [if_neg (by omega)]
theorem gl_at (r Y i k : Nat) : gl r Y i k (i + k) = wd r (i + k) := by unfold gl; rw [if_neg (by omega)]
theorem gl_step (r Y i k j : Nat) {x : Int} (h : x = wd Y k) : upd (gl r Y i k) (i + k) x j = gl r Y i (k + 1) j := by
  unfold upd gl
  by_cases h1 : j = i + k
  · subst h1; rw [if_pos rfl, if_pos (by omega), h, Nat.add_sub_cancel_left]
  · rw [if_neg h1]
    by_cases h2 : i ≤ j ∧ j < i + k
    · rw [if_pos h2, if_pos (by omega)]
    · rw [if_neg h2, if_neg (by omega)]
theorem gl_end (r Y i m j : Nat) (hr : r < 2 ^ (64 * (i + m))) : gl r Y i m j = wd (glue r i (Y % 2 ^ (64 * m))) j := by
  unfold gl
  by_cases h2 : i ≤ j ∧ j < i + m
  · rw [if_pos h2]
    obtain ⟨k, rfl⟩ : ∃ k, j = i + k := ⟨j - i, by omega⟩
    rw [wd_off, glue_div, wd_modp _ _ _ (by omega), Nat.add_sub_cancel_left]
  · rw [if_neg h2]
    by_cases h3 : j < i
    · rw [← wd_modp r i j h3, ← wd_modp (glue r i _) i j h3, glue_mod]
    · rw [wd_top' r (i + m) j hr (by omega), wd_top' _ (i + m) j (glue_lt r i m _ (Nat.mod_lt _ (pow_pos' m))) (by omega)]
theorem brw_fin (X P m : Nat) (hX : X < 2 ^ (64 * m)) (hP : P < 2 ^ (64 * m)) : (brw X P m != 0) = decide (X < P) := by
  unfold brw
  rw [Nat.mod_eq_of_lt hX, Nat.mod_eq_of_lt hP]
  by_cases h : X < P
  · rw [if_pos h, decide_eq_true h]; rfl
  · rw [if_neg h, decide_eq_false h]; rfl
theorem cry_fin (a b m : Nat) (ha : a < 2 ^ (64 * m)) (hb : b < 2 ^ (64 * m)) : (cry a b m != 0) = decide (2 ^ (64 * m) ≤ a + b) := by
  have h := cry_nat a b m
  unfold cry
  rw [Nat.mod_eq_of_lt ha, Nat.mod_eq_of_lt hb] at h ⊢
  have hp := pow_pos' m
  by_cases hs : 2 ^ (64 * m) ≤ a + b
  · have : 1 ≤ (a + b) / 2 ^ (64 * m) := (Nat.le_div_iff_mul_le hp).2 (by omega)
    rw [decide_eq_true hs, bne_iff_ne]
    intro h0
    have := Int.ofNat.inj h0
    omega
  · have : (a + b) / 2 ^ (64 * m) = 0 := Nat.div_eq_of_lt (by omega)
    rw [decide_eq_false hs, this]; rfl
theorem tq_lt (d q s : Nat) (hd : d < 2 ^ (64 * s)) (hq : q < 18446744073709551616) : q * d < 2 ^ (64 * (s + 1)) := by
  rw [pow_step, Nat.mul_comm]
  exact Nat.mul_lt_mul'' hd hq
theorem off_lt (r i m : Nat) (h : r < 2 ^ (64 * (i + m))) : r / 2 ^ (64 * i) < 2 ^ (64 * m) := by
  rw [Nat.div_lt_iff_lt_mul (pow_pos' i), Nat.mul_comm, ← pow_add']; exact h
/-- A number as the seven words of a long. -/
abbrev L7 (v : Nat) : Value := .agg #[.int .u64 (wd v 0), .int .u64 (wd v 1), .int .u64 (wd v 2), .int .u64 (wd v 3), .int .u64 (wd v 4), .int .u64 (wd v 5), .int .u64 (wd v 6)]
theorem seven_lt {f : Nat → Int} {c : Array Value} (h : c = #[.int .u64 (f 0), .int .u64 (f 1), .int .u64 (f 2), .int .u64 (f 3), .int .u64 (f 4), .int .u64 (f 5), .int .u64 (f 6)]) : ∀ j, j < 7 → c[j]? = some (.int .u64 (f j)) := by
  subst h
  intro j hj
  match j, hj with
  | 0, _ | 1, _ | 2, _ | 3, _ | 4, _ | 5, _ | 6, _ => rfl
theorem Row.reads7 {w : World} {g : Nat} {f : Nat → Int} (h : Row w g 7 f) : w.cell? ⟨g, 0, none⟩ = some (.int .u64 (f 0)) ∧ w.cell? ⟨g, 1, none⟩ = some (.int .u64 (f 1)) ∧ w.cell? ⟨g, 2, none⟩ = some (.int .u64 (f 2)) ∧ w.cell? ⟨g, 3, none⟩ = some (.int .u64 (f 3)) ∧ w.cell? ⟨g, 4, none⟩ = some (.int .u64 (f 4)) ∧ w.cell? ⟨g, 5, none⟩ = some (.int .u64 (f 5)) ∧ w.cell? ⟨g, 6, none⟩ = some (.int .u64 (f 6)) :=
  ⟨(h 0 (by omega)).1, (h 1 (by omega)).1, (h 2 (by omega)).1, (h 3 (by omega)).1, (h 4 (by omega)).1, (h 5 (by omega)).1, (h 6 (by omega)).1⟩
theorem Row.writes7 {w : World} {g : Nat} {f : Nat → Int} (h : Row w g 7 f) : w.frozen? ⟨g, 0, none⟩ = false ∧ w.frozen? ⟨g, 1, none⟩ = false ∧ w.frozen? ⟨g, 2, none⟩ = false ∧ w.frozen? ⟨g, 3, none⟩ = false ∧ w.frozen? ⟨g, 4, none⟩ = false ∧ w.frozen? ⟨g, 5, none⟩ = false ∧ w.frozen? ⟨g, 6, none⟩ = false :=
  ⟨(h 0 (by omega)).2, (h 1 (by omega)).2, (h 2 (by omega)).2, (h 3 (by omega)).2, (h 4 (by omega)).2, (h 5 (by omega)).2, (h 6 (by omega)).2⟩
theorem below7 {B g : Nat} {w wr : World} (h : Below B w wr) (hg : B ≤ g) (v0 v1 v2 v3 v4 v5 v6 : Value) : Below B w (((((((wr.setCell ⟨g, 0, none⟩ v0).setCell ⟨g, 1, none⟩ v1).setCell ⟨g, 2, none⟩ v2).setCell ⟨g, 3, none⟩ v3).setCell ⟨g, 4, none⟩ v4).setCell ⟨g, 5, none⟩ v5).setCell ⟨g, 6, none⟩ v6) :=
  (below6 h hg v0 v1 v2 v3 v4 v5).setCell (p := ⟨g, 6, none⟩) hg _
end Go.Proofs.YtkkloakcphigeaaDoor
end
section
namespace Go.Proofs.YtkkloakcphigeaaDoor
open Go.RowKit
set_option maxHeartbeats 1000000 in
set_option maxRecDepth 100000 in
theorem takeTimes_any (r d q i s : Nat) (hr : r < 2 ^ (64 * (i + (s + 1)))) (hd : d < 2 ^ (64 * s)) (hq : q < 18446744073709551616) (his : i + s + 1 ≤ 7) (hs : s ≤ 6) (w : World) :
    Calls Tryd.prog 65 #[L7 r, N d, .int .u64 q, .int .i64 i, .int .i64 s] w fun e w' =>
      e = .returned (.tuple #[L7 (glue r i ((r / 2 ^ (64 * i) + 2 ^ (64 * (s + 1)) - q * d) % 2 ^ (64 * (s + 1)))), .bool (decide (r / 2 ^ (64 * i) < q * d))]) ∧ Below w.heap.size w w' := by
  have HR : Hid _ := hr
  have HD : Hid _ := hd
  have HQ : Hid _ := hq
  obtain ⟨Y, hY⟩ : ∃ Y, Y = r / 2 ^ (64 * i) + 2 ^ (64 * (s + 1)) - q * d := ⟨_, rfl⟩
  have HY : Hid _ := hY
  rw [← hY]
  clear hr hd hq hY
  go_enter Tryd.func65, Tryd.ntmps65
  go_wp2
  go_loopw [12, 13, 17] (fun c b kv wr => ∃ k : Nat, k ≤ s ∧ kv = .int .i64 k ∧ c = .int .u64 (tc d q k) ∧ b = .int .u64 (brw (r / 2 ^ (64 * i)) (q * d) k) ∧ Row wr w.heap.size 7 (gl r Y i k) ∧ Row wr (w.heap.size + 1) 6 (wd d) ∧ Row wr (w.heap.size + 1 + 1) 7 (fun _ => 0) ∧ Below w.heap.size w wr) (fun _ _ k _ => s - (RowKit.intOf k).toNat)
  case atStart =>
    refine ⟨0, by omega, rfl, by rw [tc_zero], by simp [brw, Nat.mod_one], ?_, ?_, ?_, ?_⟩
    · exact (((Row.new w _ 73 rfl (seven_lt (f := wd r) rfl)).congr (fun j _ => (gl_zero r Y i j).symm)).alloc (by first | omega | (simp <;> omega)) _).alloc (by first | omega | (simp <;> omega)) _
    · exact (Row.new _ _ 33 (by first | omega | (simp <;> omega)) (six_lt rfl)).alloc (by first | omega | (simp <;> omega)) _
    · exact Row.new _ _ 73 (by first | omega | (simp <;> omega)) (seven_lt (f := fun _ => 0) rfl)
    · exact (((Below.refl _ _).alloc (Nat.le_refl _) _).alloc (by first | omega | (simp <;> omega)) _).alloc (by first | omega | (simp <;> omega)) _
  case round =>
    obtain ⟨k, hk, rfl, rfl, rfl, hA, hB, hZ, hw⟩ := hrel
    by_cases hlt : k < s
    · obtain ⟨hA1, hA2⟩ := hA (i + k) (by omega)
      rw [gl_at] at hA1
      have hB1 := (hB k (by omega)).1
      have HM : Hid (_ ∧ _ ∧ _ ∧ _) := ⟨hA, hB, hZ, hw⟩
      have hc := fun w => mulAdd_any (wd d k) q 0 (tc d q k) (wd_bd _ _).1 (wd_bd _ _).2 (Int.natCast_nonneg q) (Int.ofNat_lt.2 HQ.out) (by omega) (by omega) (tc_bd d q k HQ.out).1 (tc_bd d q k HQ.out).2 w
      have HC : Hid _ := hc
      have h64 := fun w => sub64' (wd r (i + k)) (mulLo (wd d k) q 0 (tc d q k)) (brw (r / 2 ^ (64 * i)) (q * d) k) (wd_bd _ _).1 (by unfold mulLo; omega) (by unfold mulLo; omega) (brw_bd _ _ _).1 (brw_bd _ _ _).2 w
      clear hA hB hZ hw hc
      go_wp2_with (go_at_call 77; refine (HC.out _).mono ?_; rintro e w' ⟨rfl, rfl⟩)
      go_roundw
      case rel =>
        obtain ⟨hA, hB, hZ, hw⟩ := HM.out
        refine ⟨k + 1, by omega, by go_num, by rw [tm_hi], ?_, ?_, hB.set_other _ (by simp <;> omega), hZ.set_other _ (by simp <;> omega), hw.setCell (by simp <;> omega) _⟩
        · rw [tm_lo, wd_off, sub_cry]
        · refine (hA.set _).congr (fun j _ => gl_step r Y i k j ?_)
          rw [tm_lo, wd_off, HY.out, sub_word' _ _ _ (s + 1) (by omega) (tq_lt d q s HD.out HQ.out)]
      case measure => simp [RowKit.intOf] <;> omega
    · have hks : k = s := by omega
      subst hks
      obtain ⟨hA1, hA2⟩ := hA (i + k) (by omega)
      rw [gl_at] at hA1
      have h64 := fun w => sub64' (wd r (i + k)) (tc d q k) (brw (r / 2 ^ (64 * i)) (q * d) k) (wd_bd _ _).1 (tc_bd d q k HQ.out).1 (tc_bd d q k HQ.out).2 (brw_bd _ _ _).1 (brw_bd _ _ _).2 w
      have e1 : bor (wd r (i + k)) (tc d q k + brw (r / 2 ^ (64 * i)) (q * d) k) = brw (r / 2 ^ (64 * i)) (q * d) (k + 1) := by
        rw [tc_end d q k HD.out HQ.out, wd_off, sub_cry]
      have e2 : subLo (wd r (i + k)) (tc d q k) (brw (r / 2 ^ (64 * i)) (q * d) k) = wd Y k := by
        rw [tc_end d q k HD.out HQ.out, wd_off, HY.out, sub_word' _ _ _ (k + 1) (by omega) (tq_lt d q k HD.out HQ.out)]
      have e3 : (brw (r / 2 ^ (64 * i)) (q * d) (k + 1) != 0) = decide (r / 2 ^ (64 * i) < q * d) := brw_fin _ _ _ (off_lt r i (k + 1) HR.out) (tq_lt d q k HD.out HQ.out)
      have E : Hid _ := e3
      rw [e1, e2] at h64
      have hA' : Row (wr.setCell ⟨w.heap.size, i + k, none⟩ (.int .u64 (wd Y k))) w.heap.size 7 (wd (glue r i (Y % 2 ^ (64 * (k + 1))))) := (hA.set _).congr (fun j _ => (gl_step r Y i k j rfl).trans (gl_end r Y i (k + 1) j HR.out))
      obtain ⟨s0, s1, s2, s3, s4, s5, s6⟩ := hA'.reads7
      have hZ' := hZ.set_other (a := ⟨w.heap.size, i + k, none⟩) (.int .u64 (wd Y k)) (by simp <;> omega)
      obtain ⟨z0, z1, z2, z3, z4, z5, z6⟩ := hZ'.writes7
      obtain ⟨y0, y1, y2, y3, y4, y5, y6⟩ := hZ'.reads7
      have HW : Hid _ := hw.setCell (p := ⟨w.heap.size, i + k, none⟩) (by simp <;> omega) (.int .u64 (wd Y k))
      clear hA hB hZ e1 e2 e3 hA' hZ' hw
      go_wp2
      rw [E.out]
      refine bodyPost_ret (v := .tuple #[L7 (glue r i (Y % 2 ^ (64 * (k + 1)))), .bool (decide (r / 2 ^ (64 * i) < q * d))]) ?_ rfl ⟨rfl, ?_⟩
      · simp [results, Tryd.results65, go_sem, *]
      · exact below7 HW.out (by omega) _ _ _ _ _ _ _
set_option maxHeartbeats 1000000 in
set_option maxRecDepth 100000 in
theorem putBack_any (r d i s : Nat) (hr : r < 2 ^ (64 * (i + (s + 1)))) (hd : d < 2 ^ (64 * s)) (his : i + s + 1 ≤ 7) (hs : s ≤ 6) (w : World) :
    Calls Tryd.prog 66 #[L7 r, N d, .int .i64 i, .int .i64 s] w fun e w' =>
      e = .returned (.tuple #[L7 (glue r i ((r / 2 ^ (64 * i) + d) % 2 ^ (64 * (s + 1)))), .bool (decide (2 ^ (64 * (s + 1)) ≤ r / 2 ^ (64 * i) + d))]) ∧ Below w.heap.size w w' := by
  have HR : Hid _ := hr
  have HD : Hid _ := hd
  obtain ⟨Y, hY⟩ : ∃ Y, Y = r / 2 ^ (64 * i) + d := ⟨_, rfl⟩
  have HY : Hid _ := hY
  obtain ⟨X, hX⟩ : ∃ X, X = r / 2 ^ (64 * i) := ⟨_, rfl⟩
  have HX : Hid _ := hX
  rw [← hY]
  clear hr hd hY hX
  go_enter Tryd.func66, Tryd.ntmps66
  go_wp2
  go_loopw [10, 13] (fun c kv wr => ∃ k : Nat, k ≤ s ∧ kv = .int .i64 k ∧ c = .int .u64 (cry X d k) ∧ Row wr w.heap.size 7 (gl r Y i k) ∧ Row wr (w.heap.size + 1) 6 (wd d) ∧ Row wr (w.heap.size + 1 + 1) 7 (fun _ => 0) ∧ Below w.heap.size w wr) (fun _ k _ => s - (RowKit.intOf k).toNat)
  case atStart =>
    refine ⟨0, by omega, rfl, by simp [cry], ?_, ?_, ?_, ?_⟩
    · exact (((Row.new w _ 73 rfl (seven_lt (f := wd r) rfl)).congr (fun j _ => (gl_zero r Y i j).symm)).alloc (by first | omega | (simp <;> omega)) _).alloc (by first | omega | (simp <;> omega)) _
    · exact (Row.new _ _ 33 (by first | omega | (simp <;> omega)) (six_lt rfl)).alloc (by first | omega | (simp <;> omega)) _
    · exact Row.new _ _ 73 (by first | omega | (simp <;> omega)) (seven_lt (f := fun _ => 0) rfl)
    · exact (((Below.refl _ _).alloc (Nat.le_refl _) _).alloc (by first | omega | (simp <;> omega)) _).alloc (by first | omega | (simp <;> omega)) _
  case round =>
    obtain ⟨k, hk, rfl, rfl, hA, hB, hZ, hw⟩ := hrel
    by_cases hlt : k < s
    · obtain ⟨hA1, hA2⟩ := hA (i + k) (by omega)
      rw [gl_at] at hA1
      have hB1 := (hB k (by omega)).1
      have HM : Hid (_ ∧ _ ∧ _ ∧ _) := ⟨hA, hB, hZ, hw⟩
      have h64 := fun w => add64' (wd r (i + k)) (wd d k) (cry X d k) (wd_bd _ _).1 (wd_bd _ _).1 (cry_bd _ _ _).1 (cry_bd _ _ _).2 w
      clear hA hB hZ hw
      go_wp2
      go_region
      go_wp2
      go_roundw
      case rel =>
        obtain ⟨hA, hB, hZ, hw⟩ := HM.out
        refine ⟨k + 1, by omega, by go_num, ?_, ?_, (hB.set_other _ (by simp <;> omega)).drew, (hZ.set_other _ (by simp <;> omega)).drew, (hw.setCell (by simp <;> omega) _).drew⟩
        · rw [wd_off, ← HX.out, add_cry]
        · refine ((hA.set _).congr (fun j _ => gl_step r Y i k j ?_)).drew
          rw [wd_off, ← HX.out, add_word, HY.out, ← HX.out]
      case measure => simp [RowKit.intOf] <;> omega
    · have hks : k = s := by omega
      subst hks
      obtain ⟨hA1, hA2⟩ := hA (i + k) (by omega)
      rw [gl_at] at hA1
      have h64 := fun w => add64' (wd r (i + k)) 0 (cry X d k) (wd_bd _ _).1 (by omega) (cry_bd _ _ _).1 (cry_bd _ _ _).2 w
      have ez : wd d k = 0 := wd_top' d k k HD.out (Nat.le_refl _)
      have e1 : addHi (wd r (i + k)) 0 (cry X d k) = cry X d (k + 1) := by
        rw [← ez, wd_off, ← HX.out, add_cry]
      have e2 : addLo (wd r (i + k)) 0 (cry X d k) = wd Y k := by
        rw [← ez, wd_off, ← HX.out, add_word, HY.out, ← HX.out]
      have e3 : (cry X d (k + 1) != 0) = decide (2 ^ (64 * (k + 1)) ≤ Y) := by
        rw [HY.out, ← HX.out]
        exact cry_fin _ _ _ (by rw [HX.out]; exact off_lt r i (k + 1) HR.out) (Nat.lt_of_lt_of_le HD.out (pow_mono k (k + 1) (by omega)))
      have E : Hid _ := e3
      rw [e1, e2] at h64
      have hA' : Row (wr.setCell ⟨w.heap.size, i + k, none⟩ (.int .u64 (wd Y k))) w.heap.size 7 (wd (glue r i (Y % 2 ^ (64 * (k + 1))))) := (hA.set _).congr (fun j _ => (gl_step r Y i k j rfl).trans (gl_end r Y i (k + 1) j HR.out))
      obtain ⟨s0, s1, s2, s3, s4, s5, s6⟩ := hA'.reads7
      have hZ' := hZ.set_other (a := ⟨w.heap.size, i + k, none⟩) (.int .u64 (wd Y k)) (by simp <;> omega)
      obtain ⟨z0, z1, z2, z3, z4, z5, z6⟩ := hZ'.writes7
      obtain ⟨y0, y1, y2, y3, y4, y5, y6⟩ := hZ'.reads7
      have HW : Hid _ := hw.setCell (p := ⟨w.heap.size, i + k, none⟩) (by simp <;> omega) (.int .u64 (wd Y k))
      clear hA hB hZ ez e1 e2 e3 hA' hZ' hw
      go_wp2
      rw [E.out]
      refine bodyPost_ret (v := .tuple #[L7 (glue r i (Y % 2 ^ (64 * (k + 1)))), .bool (decide (2 ^ (64 * (k + 1)) ≤ Y))]) ?_ rfl ⟨rfl, ?_⟩
      · simp [results, Tryd.results66, go_sem, *]
      · exact below7 HW.out (by omega) _ _ _ _ _ _ _
end Go.Proofs.YtkkloakcphigeaaDoor
end
section
namespace Go.Proofs.YtkkloakcphigeaaDoor
open Go.RowKit Go.Lib
theorem upd_upd (f : Nat → Int) (k : Nat) (x y : Int) (j : Nat) : upd (upd f k x) k y j = upd f k y j := by
  unfold upd; split <;> rfl
theorem part_low (v m j : Nat) (h : ∀ i, i < m → wd v i = 0) : part v m j = 0 := by
  unfold part; split
  · exact h _ ‹_›
  · rfl
theorem up_low (a n i : Nat) (h : i < n / 64) : wd (a * 2 ^ n) i = 0 := by
  rw [wd_shr, ← Nat.shiftLeft_eq]
  have : (a <<< n) >>> (64 * i) % 2 ^ 64 = 0 := by
    apply Nat.eq_of_testBit_eq
    intro m
    simp only [Nat.testBit_mod_two_pow, Nat.testBit_shiftLeft, Nat.testBit_shiftRight, Nat.zero_testBit]
    by_cases hm : m < 64
    · have : ¬ n ≤ 64 * i + m := by omega
      simp [this]
    · simp [hm]
  rw [this]; rfl
set_option maxHeartbeats 400000 in
set_option maxRecDepth 100000 in
theorem shiftUp_any (a n : Nat) (hn : n < 384) (w : World) :
    Calls Tryd.prog 63 #[N a, .int .i64 n] w fun e w' => e = .returned (N (a * 2 ^ n % big)) ∧ Below w.heap.size w w' := by
  go_enter Tryd.func63, Tryd.ntmps63
  go_wp2
  go_loopw [8] (fun i wr => ∃ k : Nat, n / 64 ≤ k ∧ k ≤ 6 ∧ i = .int .i64 k ∧ Row wr w.heap.size 6 (wd a) ∧ Row wr (w.heap.size + 1) 6 (fun _ => 0) ∧ Row wr (w.heap.size + 1 + 1) 6 (part (a * 2 ^ n) k) ∧ Below w.heap.size w wr) (fun i _ => 6 - (RowKit.intOf i).toNat)
  case atStart =>
    refine ⟨n / 64, by omega, by omega, rfl, ?_, ?_, ?_, ?_⟩
    · exact ((Row.new w _ 33 rfl (six_lt rfl)).alloc (by first | omega | (simp <;> omega)) _).alloc (by first | omega | (simp <;> omega)) _
    · exact (Row.new _ _ 33 (by first | omega | (simp <;> omega)) (six_lt (f := fun _ => 0) rfl)).alloc (by first | omega | (simp <;> omega)) _
    · exact (Row.new _ _ 33 (by first | omega | (simp <;> omega)) (six_lt (f := fun _ => 0) rfl)).congr (fun j _ => (part_low _ _ _ (fun i hi => up_low a n i hi)).symm)
    · exact (((Below.refl _ _).alloc (Nat.le_refl _) _).alloc (by first | omega | (simp <;> omega)) _).alloc (by first | omega | (simp <;> omega)) _
  case round =>
    obtain ⟨k, hk0, hk, rfl, hA, hZ, hS, hw⟩ := hrel
    by_cases hlt : k < 6
    · obtain ⟨hS1, hS2⟩ := hS k hlt
      have hA1 := (hA (k - n / 64) (by omega)).1
      have HR : Hid (_ ∧ _ ∧ _ ∧ _) := ⟨hA, hZ, hS, hw⟩
      by_cases hgt : n / 64 < k
      · have hA2 := (hA (k - n / 64 - 1) (by omega)).1
        clear hA hZ hS hw
        go_wp2
        go_region
        go_wp2
        go_roundw
        case rel =>
          obtain ⟨hA, hZ, hS, hw⟩ := HR.out
          exact ⟨k + 1, by omega, by omega, by go_num, ((hA.set_other _ (by simp <;> omega)).set_other _ (by simp <;> omega)).drew, ((hZ.set_other _ (by simp <;> omega)).set_other _ (by simp <;> omega)).drew, (((hS.set _).set _).congr (fun j _ => (upd_upd _ _ _ _ j).trans (part_step (up_word a n k hgt) j))).drew, ((hw.setCell (by simp <;> omega) _).setCell (by simp <;> omega) _).drew⟩
        case measure => simp [RowKit.intOf]; omega
      · clear hA hZ hS hw
        go_wp2
        go_roundw
        case rel =>
          obtain ⟨hA, hZ, hS, hw⟩ := HR.out
          exact ⟨k + 1, by omega, by omega, by go_num, hA.set_other _ (by simp <;> omega), hZ.set_other _ (by simp <;> omega), (hS.set _).congr (fun j _ => part_step (up_word1 a n k (by omega)) j), hw.setCell (by simp <;> omega) _⟩
        case measure => simp [RowKit.intOf]; omega
    · have hk6 : k = 6 := by omega
      subst hk6
      obtain ⟨s0, s1, s2, s3, s4, s5⟩ := (hS.congr (f' := wd (a * 2 ^ n % big)) (fun j hj => by rw [part_lt hj, wd_mod _ _ hj])).reads
      obtain ⟨z0, z1, z2, z3, z4, z5⟩ := hZ.writes
      obtain ⟨y0, y1, y2, y3, y4, y5⟩ := hZ.reads
      clear hA hZ hS
      rw [show ((6 : Nat) : Int) = 6 from rfl]
      go_wp2
      refine bodyPost_ret (v := N (a * 2 ^ n % big)) ?_ rfl ⟨rfl, ?_⟩
      · simp [results, Tryd.results63, go_sem, *]
      · exact below6 hw (by omega) _ _ _ _ _ _
set_option maxHeartbeats 400000 in
set_option maxRecDepth 100000 in
theorem shiftDown_any (a n : Nat) (ha : a < big) (hn : n < 384) (w : World) :
    Calls Tryd.prog 62 #[N a, .int .i64 n] w fun e w' => e = .returned (N (a / 2 ^ n)) ∧ Below w.heap.size w w' := by
  have HA : Hid (a < big) := ha
  clear ha
  go_enter Tryd.func62, Tryd.ntmps62
  go_wp2
  go_loopw [8] (fun i wr => ∃ k : Nat, n / 64 ≤ k ∧ k ≤ 6 ∧ i = .int .i64 k ∧ Row wr w.heap.size 6 (wd a) ∧ Row wr (w.heap.size + 1) 6 (fun _ => 0) ∧ Row wr (w.heap.size + 1 + 1) 6 (part (a / 2 ^ n) (k - n / 64)) ∧ Below w.heap.size w wr) (fun i _ => 6 - (RowKit.intOf i).toNat)
  case atStart =>
    refine ⟨n / 64, by omega, by omega, rfl, ?_, ?_, ?_, ?_⟩
    · exact ((Row.new w _ 33 rfl (six_lt rfl)).alloc (by first | omega | (simp <;> omega)) _).alloc (by first | omega | (simp <;> omega)) _
    · exact (Row.new _ _ 33 (by first | omega | (simp <;> omega)) (six_lt (f := fun _ => 0) rfl)).alloc (by first | omega | (simp <;> omega)) _
    · exact (Row.new _ _ 33 (by first | omega | (simp <;> omega)) (six_lt (f := fun _ => 0) rfl)).congr (fun j _ => by rw [Nat.sub_self]; rfl)
    · exact (((Below.refl _ _).alloc (Nat.le_refl _) _).alloc (by first | omega | (simp <;> omega)) _).alloc (by first | omega | (simp <;> omega)) _
  case round =>
    obtain ⟨k, hk0, hk, rfl, hA, hZ, hS, hw⟩ := hrel
    by_cases hlt : k < 6
    · obtain ⟨hS1, hS2⟩ := hS (k - n / 64) (by omega)
      have hA1 := (hA k hlt).1
      have HR : Hid (_ ∧ _ ∧ _ ∧ _) := ⟨hA, hZ, hS, hw⟩
      have es : k + 1 - n / 64 = k - n / 64 + 1 := by omega
      have Es : Hid _ := es
      clear es
      by_cases hgt : k + 1 < 6
      · have hA2 := (hA (k + 1) (by omega)).1
        clear hA hZ hS hw
        go_wp2
        go_region
        go_wp2
        go_roundw
        case rel =>
          obtain ⟨hA, hZ, hS, hw⟩ := HR.out
          exact ⟨k + 1, by omega, by omega, by go_num, ((hA.set_other _ (by simp <;> omega)).set_other _ (by simp <;> omega)).drew, ((hZ.set_other _ (by simp <;> omega)).set_other _ (by simp <;> omega)).drew, (((hS.set _).set _).congr (fun j _ => by rw [Es.out]; exact (upd_upd _ _ _ _ j).trans (part_step (down_word a n k hk0) j))).drew, ((hw.setCell (by simp <;> omega) _).setCell (by simp <;> omega) _).drew⟩
        case measure => simp [RowKit.intOf]; omega
      · clear hA hZ hS hw
        have hk5 : k = 5 := by omega
        subst hk5
        rw [show ((5 : Nat) : Int) = 5 from rfl]
        go_wp2
        go_roundw
        case rel =>
          obtain ⟨hA, hZ, hS, hw⟩ := HR.out
          exact ⟨5 + 1, by omega, by omega, by go_num, hA.set_other _ (by simp <;> omega), hZ.set_other _ (by simp <;> omega), (hS.set _).congr (fun j _ => by rw [Es.out]; exact part_step (down_last a n HA.out hk0) j), hw.setCell (by simp <;> omega) _⟩
        case measure => simp [RowKit.intOf]
    · have hk6 : k = 6 := by omega
      subst hk6
      obtain ⟨s0, s1, s2, s3, s4, s5⟩ := (hS.congr (f' := wd (a / 2 ^ n)) (fun j hj => by
        unfold part
        split
        · rfl
        · symm
          have h1 : (64 * (6 - n / 64)) ≤ 64 * j := by omega
          have h2 : a / 2 ^ n < 2 ^ (64 * (6 - n / 64)) := by
            rw [Nat.div_lt_iff_lt_mul (Nat.two_pow_pos n), ← Nat.pow_add]
            exact Nat.lt_of_lt_of_le HA.out (big_le _ (by omega))
          exact wd_top' _ _ _ h2 (by omega))).reads
      obtain ⟨z0, z1, z2, z3, z4, z5⟩ := hZ.writes
      obtain ⟨y0, y1, y2, y3, y4, y5⟩ := hZ.reads
      clear hA hZ hS
      rw [show ((6 : Nat) : Int) = 6 from rfl]
      go_wp2
      refine bodyPost_ret (v := N (a / 2 ^ n)) ?_ rfl ⟨rfl, ?_⟩
      · simp [results, Tryd.results62, go_sem, *]
      · exact below6 hw (by omega) _ _ _ _ _ _
end Go.Proofs.YtkkloakcphigeaaDoor
end
section
namespace Go.Proofs.YtkkloakcphigeaaDoor
open Go.RowKit
/-- What Shift tells. -/
def shv (a : Nat) (n : Int) : Nat := if 384 ≤ n ∨ n ≤ -384 then 0 else if n < 0 then a / 2 ^ (-n).toNat else a * 2 ^ n.toNat % big
theorem bcell {W w1 : World} (hb : Below W.heap.size W w1) : (∀ b o, b < W.heap.size → w1.cell? ⟨b, o, none⟩ = W.cell? ⟨b, o, none⟩) ∧ (∀ b o, b < W.heap.size → w1.frozen? ⟨b, o, none⟩ = W.frozen? ⟨b, o, none⟩) :=
  ⟨fun b o h => hb.cell (p := ⟨b, o, none⟩) h, fun b o h => hb.frozen (p := ⟨b, o, none⟩) h⟩
theorem wd_zero (j : Nat) : wd 0 j = 0 := by unfold wd; rw [Nat.zero_div]; rfl
set_option maxHeartbeats 400000 in
theorem shift_none (a : Nat) (n : Int) (h : 384 ≤ n ∨ n ≤ -384) (w : World) :
    Calls Tryd.prog 36 #[N a, .int .i64 n] w fun e w' => e = .returned (N 0) ∧ Below w.heap.size w w' := by
  by_cases h1 : 384 ≤ n
  · have hd : decide (384 ≤ n) = true := decide_eq_true h1
    clear h
    go_enter Tryd.func36, Tryd.ntmps36
    go_wp2
    refine bodyPost_ret (v := N 0) ?_ rfl ⟨rfl, ?_⟩
    · simp [results, Tryd.results36, go_sem, wd_zero]
    · exact ((Below.refl _ _).alloc (Nat.le_refl _) _).alloc (by first | omega | (simp <;> omega)) _
  · have h2 : n ≤ -384 := by omega
    have hd : decide (384 ≤ n) = false := decide_eq_false h1
    have hd2 : decide (n ≤ -384) = true := decide_eq_true h2
    clear h h1
    go_enter Tryd.func36, Tryd.ntmps36
    go_wp2
    refine bodyPost_ret (v := N 0) ?_ rfl ⟨rfl, ?_⟩
    · simp [results, Tryd.results36, go_sem, wd_zero]
    · exact ((Below.refl _ _).alloc (Nat.le_refl _) _).alloc (by first | omega | (simp <;> omega)) _
set_option maxHeartbeats 400000 in
theorem shift_up (a m : Nat) (h : m < 384) (w : World) :
    Calls Tryd.prog 36 #[N a, .int .i64 m] w fun e w' => e = .returned (N (a * 2 ^ m % big)) ∧ Below w.heap.size w w' := by
  have hd : decide (384 ≤ (m : Int)) = false := decide_eq_false (by omega)
  have hd2 : decide ((m : Int) ≤ -384) = false := decide_eq_false (by omega)
  go_enter Tryd.func36, Tryd.ntmps36
  go_wp2_with (go_at_call 63; refine (shiftUp_any a m h _).mono ?_; rintro e w1 ⟨rfl, hb⟩; obtain ⟨hc, hf⟩ := bcell hb)
  have hz : w.heap.size + 2 ≤ w1.heap.size := by have := hb.size; simp at this; omega
  refine bodyPost_ret (v := N (a * 2 ^ m % big)) ?_ rfl ⟨rfl, ?_⟩
  · simp [results, Tryd.results36, go_sem, hc]
  · exact below6 ((((Below.refl _ _).alloc (Nat.le_refl _) _).alloc (by first | omega | (simp <;> omega)) _).trans (hb.mono (by simp <;> omega))) (by omega) _ _ _ _ _ _
set_option maxHeartbeats 400000 in
theorem shift_down (a : Nat) (n : Int) (ha : a < big) (h : -384 < n) (h0 : n < 0) (w : World) :
    Calls Tryd.prog 36 #[N a, .int .i64 n] w fun e w' => e = .returned (N (a / 2 ^ (-n).toNat)) ∧ Below w.heap.size w w' := by
  have hd : decide (384 ≤ n) = false := decide_eq_false (by omega)
  have hd2 : decide (n ≤ -384) = false := decide_eq_false (by omega)
  have hc := fun w => shiftDown_any a (-n).toNat ha (by omega) w
  rw [Int.toNat_of_nonneg (show 0 ≤ -n by omega)] at hc
  have HC : Hid _ := hc
  generalize a / 2 ^ (-n).toNat = R at HC ⊢
  clear ha hc
  go_enter Tryd.func36, Tryd.ntmps36
  go_wp2_with (go_at_call 62; refine (HC.out _).mono ?_; rintro e w1 ⟨rfl, hb⟩; obtain ⟨hc, hf⟩ := bcell hb)
  refine bodyPost_ret (v := N R) ?_ rfl ⟨rfl, ?_⟩
  · simp [results, Tryd.results36, go_sem, hc]
  · exact below6 ((((Below.refl _ _).alloc (Nat.le_refl _) _).alloc (by first | omega | (simp <;> omega)) _).trans (hb.mono (by simp <;> omega))) (by omega) _ _ _ _ _ _
theorem shift_any (a : Nat) (n : Int) (ha : a < big) (w : World) :
    Calls Tryd.prog 36 #[N a, .int .i64 n] w fun e w' => e = .returned (N (shv a n)) ∧ Below w.heap.size w w' := by
  unfold shv
  by_cases h : 384 ≤ n ∨ n ≤ -384
  · rw [if_pos h]; exact shift_none a n h w
  · rw [if_neg h]
    by_cases h2 : n < 0
    · rw [if_pos h2]
      exact shift_down a n ha (by omega) h2 w
    · rw [if_neg h2]
      obtain ⟨m, rfl⟩ := Int.eq_ofNat_of_zero_le (show 0 ≤ n by omega)
      rw [Int.toNat_natCast]
      exact shift_up a m (by omega) w
set_option maxHeartbeats 400000 in
set_option maxRecDepth 100000 in
theorem lower_any (v : Nat) (w : World) :
    Calls Tryd.prog 39 #[L7 v] w fun e w' => e = .returned (N (v % big)) ∧ Below w.heap.size w w' := by
  go_enter Tryd.func39, Tryd.ntmps39
  go_wp2
  go_loopw [5] (fun i wr => ∃ k : Nat, k ≤ 6 ∧ i = .int .i64 k ∧ Row wr w.heap.size 7 (wd v) ∧ Row wr (w.heap.size + 1) 6 (fun _ => 0) ∧ Row wr (w.heap.size + 1 + 1) 6 (part v k) ∧ Below w.heap.size w wr) (fun i _ => 6 - (RowKit.intOf i).toNat)
  case atStart =>
    refine ⟨0, by omega, rfl, ?_, ?_, ?_, ?_⟩
    · exact ((Row.new w _ 73 rfl (seven_lt (f := wd v) rfl)).alloc (by first | omega | (simp <;> omega)) _).alloc (by first | omega | (simp <;> omega)) _
    · exact (Row.new _ _ 33 (by first | omega | (simp <;> omega)) (six_lt (f := fun _ => 0) rfl)).alloc (by first | omega | (simp <;> omega)) _
    · exact Row.new _ _ 33 (by first | omega | (simp <;> omega)) (six_lt (f := part v 0) rfl)
    · exact (((Below.refl _ _).alloc (Nat.le_refl _) _).alloc (by first | omega | (simp <;> omega)) _).alloc (by first | omega | (simp <;> omega)) _
  case round =>
    obtain ⟨k, hk, rfl, hA, hZ, hS, hw⟩ := hrel
    by_cases hlt : k < 6
    · obtain ⟨hS1, hS2⟩ := hS k hlt
      have hA1 := (hA k (by omega)).1
      have HM : Hid (_ ∧ _ ∧ _ ∧ _) := ⟨hA, hZ, hS, hw⟩
      clear hA hZ hS hw
      go_wp2
      go_roundw
      case rel =>
        obtain ⟨hA, hZ, hS, hw⟩ := HM.out
        exact ⟨k + 1, by omega, by go_num, hA.set_other _ (by simp <;> omega), hZ.set_other _ (by simp <;> omega), (hS.set _).congr (fun j _ => part_step rfl j), hw.setCell (by simp <;> omega) _⟩
      case measure => simp [RowKit.intOf] <;> omega
    · have hk6 : k = 6 := by omega
      subst hk6
      obtain ⟨s0, s1, s2, s3, s4, s5⟩ := (hS.congr (f' := wd (v % big)) (fun j hj => by rw [part_lt hj, wd_mod _ _ hj])).reads
      obtain ⟨z0, z1, z2, z3, z4, z5⟩ := hZ.writes
      obtain ⟨y0, y1, y2, y3, y4, y5⟩ := hZ.reads
      clear hA hZ hS
      rw [show ((6 : Nat) : Int) = 6 from rfl]
      go_wp2
      refine bodyPost_ret (v := N (v % big)) ?_ rfl ⟨rfl, ?_⟩
      · simp [results, Tryd.results39, go_sem, *]
      · exact below6 hw (by omega) _ _ _ _ _ _
end Go.Proofs.YtkkloakcphigeaaDoor
end
section
namespace Go.Proofs.YtkkloakcphigeaaDoor
open Go.RowKit
/-- What an operation of the region is: it tells a value and leaves the world; its guard shuts it out; it calls, and the answer is a value; it makes a block of these cells; it lays these cells into the block that operation j made of those. -/
def Kind : Type := ((Value)) ⊕ (Unit) ⊕ ((Value)) ⊕ ((List Value) × (TypeId)) ⊕ ((Nat) × (List Value) × (List Value))
abbrev Kind.quiet (v : Value) : Kind := Sum.inl v
abbrev Kind.gone : Kind := Sum.inr (Sum.inl ())
abbrev Kind.call (v : Value) : Kind := Sum.inr (Sum.inr (Sum.inl v))
abbrev Kind.made (zs : List Value) (t : TypeId) : Kind := Sum.inr (Sum.inr (Sum.inr (Sum.inl (zs, t))))
abbrev Kind.laid (j : Nat) (zs : List Value) (cs : List Value) : Kind := Sum.inr (Sum.inr (Sum.inr (Sum.inr (j, zs, cs))))
theorem Kind.each {M : Kind → Prop} (quiet : ∀ (v : Value), M (Kind.quiet v)) (gone : M Kind.gone) (call : ∀ (v : Value), M (Kind.call v)) (made : ∀ (zs : List Value) (t : TypeId), M (Kind.made zs t)) (laid : ∀ (j : Nat) (zs : List Value) (cs : List Value), M (Kind.laid j zs cs)) (k : Kind) : M k := by
  rcases k with v | _ | v | ⟨x0, x1⟩ | ⟨x0, x1, x2⟩
  · exact quiet _
  · exact gone
  · exact call _
  · exact made _ _
  · exact laid _ _ _
theorem Kind.madeInj {zs zs' : List Value} {t t' : TypeId} (h : Kind.made zs t = Kind.made zs' t') : zs = zs' ∧ t = t' := by
  have h' := Sum.inl.inj (Sum.inr.inj (Sum.inr.inj (Sum.inr.inj h)))
  exact ⟨congrArg (fun x => x.1) h', congrArg (fun x => x.2) h'⟩
theorem Kind.laidInj {j j' : Nat} {zs zs' : List Value} {cs cs' : List Value} (h : Kind.laid j zs cs = Kind.laid j' zs' cs') : j = j' ∧ zs = zs' ∧ cs = cs' := by
  have h' := Sum.inr.inj (Sum.inr.inj (Sum.inr.inj (Sum.inr.inj h)))
  exact ⟨congrArg (fun x => x.1) h', congrArg (fun x => x.2.1) h', congrArg (fun x => x.2.2) h'⟩
/-- What lies in its slot behind it; γ i: the block that operation i made. -/
def Kind.val (γ : Nat → Nat) (i : Nat) : Kind → Value
  | (Sum.inl v) => v
  | (Sum.inr (Sum.inl ())) => undef
  | (Sum.inr (Sum.inr (Sum.inl v))) => v
  | (Sum.inr (Sum.inr (Sum.inr (Sum.inl (_, _))))) => .pointer (some ⟨γ i, 0, none⟩)
  | (Sum.inr (Sum.inr (Sum.inr (Sum.inr (_, _, _))))) => undef
/-- The frame behind the region. -/
def fill (γ : Nat → Nat) : Nat → List Oper → List Kind → Act → Act
  | i, o :: os, k :: ks, a => fill γ (i + 1) os ks (a.put o.dst (k.val γ i))
  | _, _, _, a => a
theorem put_size (a : Act) (d : Option Tmp) (v : Value) : (a.put d v).tmps.size = a.tmps.size := by
  cases d <;> simp [Act.put]
theorem put_defers' (a : Act) (d : Option Tmp) (v : Value) : (a.put d v).defers = a.defers := by
  cases d <;> rfl
theorem put_other (a : Act) (x : Option Tmp) (v : Value) (d : Tmp) (h : x ≠ some d) : (a.put x v).tmps[d]? = a.tmps[d]? := by
  cases x with
  | none => rfl
  | some e => exact Array.getElem?_setIfInBounds_ne (fun he => h (by rw [he]))
theorem put_same (a : Act) (v : Value) (d : Tmp) (h : d < a.tmps.size) : (a.put (some d) v).tmps[d]? = some v := by
  simp [Act.put, h]
theorem fill_defers (γ : Nat → Nat) : ∀ (i : Nat) (os : List Oper) (ks : List Kind) (a : Act), (fill γ i os ks a).defers = a.defers
  | _, [], _, _ => rfl
  | _, _ :: _, [], _ => rfl
  | i, o :: os, k :: ks, a => by
    unfold fill
    rw [fill_defers γ (i + 1) os ks, put_defers']
theorem fill_other (γ : Nat → Nat) (d : Tmp) : ∀ (i : Nat) (os : List Oper) (ks : List Kind) (a : Act), (∀ o ∈ os, o.dst ≠ some d) → (fill γ i os ks a).tmps[d]? = a.tmps[d]?
  | _, [], _, _, _ => rfl
  | _, _ :: _, [], _, _ => rfl
  | i, o :: os, k :: ks, a, h => by
    unfold fill
    rw [fill_other γ d (i + 1) os ks _ (fun o' ho => h o' (List.mem_cons_of_mem _ ho)), put_other _ _ _ _ (h o (List.mem_cons_self ..))]
theorem fill_at (γ : Nat → Nat) (d : Tmp) (o : Oper) (k : Kind) (hd : o.dst = some d) : ∀ (j i : Nat) (os : List Oper) (ks : List Kind) (a : Act), os[j]? = some o → ks[j]? = some k → d < a.tmps.size →
    (∀ j' o', j < j' → os[j']? = some o' → o'.dst ≠ some d) → (fill γ i os ks a).tmps[d]? = some (k.val γ (i + j))
  | _, _, [], _, _, h, _, _, _ => by simp at h
  | _, _, _ :: _, [], _, _, h, _, _ => by simp at h
  | 0, i, o' :: os, k' :: ks, a, ho, hk, hs, hl => by
    simp at ho hk
    subst ho hk
    unfold fill
    rw [fill_other γ d (i + 1) os ks _ (fun o2 ho2 => ?_), hd, put_same _ _ _ hs]
    · rfl
    · obtain ⟨m, hm, e⟩ := List.getElem_of_mem ho2
      exact hl (m + 1) o2 (by omega) (by rw [List.getElem?_cons_succ, List.getElem?_eq_getElem hm, e])
  | j + 1, i, o' :: os, k' :: ks, a, ho, hk, hs, hl => by
    unfold fill
    rw [fill_at γ d o k hd j (i + 1) os ks _ (by simpa using ho) (by simpa using hk) (by rw [put_size]; exact hs) (fun j' o2 h1 h2 => hl (j' + 1) o2 (by omega) (by simpa using h2))]
    rw [show i + 1 + j = i + (j + 1) by omega]
/-- Block g of w holds these cells, and they may be written. -/
def Blk (w : World) (g : Nat) (cs : List Value) : Prop := ∀ j v, cs[j]? = some v → w.cell? ⟨g, j, none⟩ = some v ∧ w.frozen? ⟨g, j, none⟩ = false
theorem Blk.below {w w' : World} {B g : Nat} {cs : List Value} (h : Blk w g cs) (hb : Below B w w') (hg : g < B) : Blk w' g cs := fun j v hv =>
  ⟨by rw [hb.cell (p := ⟨g, j, none⟩) hg]; exact (h j v hv).1, by rw [hb.frozen (p := ⟨g, j, none⟩) hg]; exact (h j v hv).2⟩
theorem Blk.alloc {w : World} {g : Nat} {cs : List Value} (h : Blk w g cs) (hg : g < w.heap.size) (o : Obj) : Blk (w.alloc o) g cs := fun j v hv =>
  ⟨by rw [World.cell?_alloc_past _ _ _ hg]; exact (h j v hv).1, by rw [World.frozen?_alloc_past _ _ _ hg]; exact (h j v hv).2⟩
theorem Blk.new (w : World) (cs : List Value) (t : TypeId) : Blk (w.alloc (.cells cs.toArray t)) w.heap.size cs := fun j v hv =>
  ⟨by rw [World.cell?_alloc_at _ _ _ _ rfl]; simpa using hv, World.frozen?_alloc_at _ _ _ _ rfl⟩
theorem Blk.laid {w : World} {g : Nat} {zs cs : List Value} (h : Blk w g zs) (hl : zs.length = cs.length) : Blk (w.setCells g 0 cs) g cs := fun j v hv => by
  obtain ⟨hj, e⟩ := List.getElem?_eq_some_iff.1 hv
  have hz : zs[j]? = some (zs[j]'(by omega)) := List.getElem?_eq_getElem _
  refine ⟨?_, by rw [World.frozen?_setCells]; exact (h j _ hz).2⟩
  have := World.cell?_setCells_in g cs 0 w (fun i hi => by
    have := (h i _ (List.getElem?_eq_getElem (show i < zs.length by omega))).1
    rw [Nat.zero_add, this]; rfl) j hj
  rw [Nat.zero_add] at this
  rw [this, e]
theorem Blk.other {w : World} {g g' : Nat} {cs cs' : List Value} (h : Blk w g cs) (hg : g ≠ g') : Blk (w.setCells g' 0 cs') g cs := fun j v hv =>
  ⟨by rw [World.cell?_setCells_out g' cs' 0 w _ (fun e => absurd e hg)]; exact (h j v hv).1, by rw [World.frozen?_setCells]; exact (h j v hv).2⟩
theorem size_setCells (g : Nat) : ∀ (cs : List Value) (o : Nat) (w : World), (w.setCells g o cs).heap.size = w.heap.size
  | [], _, _ => rfl
  | v :: r, o, w => by rw [World.setCells, size_setCells g r, World.size_setCell]
theorem below_setCells {B : Nat} {w0 : World} (g : Nat) (hg : B ≤ g) : ∀ (cs : List Value) (o : Nat) (w : World), Below B w0 w → Below B w0 (w.setCells g o cs)
  | [], _, _, h => h
  | v :: r, o, w, h => by
    rw [World.setCells]
    exact below_setCells g hg r (o + 1) _ (h.setCell (p := ⟨g, o, none⟩) hg v)
section
variable {P : Program} {ops : Array Oper} {ks : List Kind} {a₀ : Act} {w₀ : World} {Q : Exit → Act → World → Prop}
/-- What is known of the memory when the operations l have come up. -/
structure Mem (ks : List Kind) (w₀ : World) (l : Array Bool) (γ : Nat → Nat) (w : World) : Prop where
  below : Below w₀.heap.size w₀ w
  made : ∀ i zs t, ks[i]? = some (.made zs t) → l.getD i false = true → w₀.heap.size ≤ γ i ∧ γ i < w.heap.size
  raw : ∀ i zs t, ks[i]? = some (.made zs t) → l.getD i false = true → (∀ s zs' cs, ks[s]? = some (.laid i zs' cs) → l.getD s false = false) → Blk w (γ i) zs
  full : ∀ s i zs cs, ks[s]? = some (.laid i zs cs) → l.getD s false = true → Blk w (γ i) cs ∧ γ i < w.heap.size
  order : ∀ s i zs cs, ks[s]? = some (.laid i zs cs) → l.getD s false = true → l.getD i false = true
  apart : ∀ i j zs t zs' t', ks[i]? = some (.made zs t) → ks[j]? = some (.made zs' t') → l.getD i false = true → l.getD j false = true → i ≠ j → γ i ≠ γ j
/-- What is to be shown of an operation. -/
def KindOk (P : Program) (ops : Array Oper) (S : World → Prop) (F : (Nat → Nat) → Act) (o : Oper) : Kind → Prop
  | (Sum.inl v) => ∀ γ, Region.wanted o (yielded ops (F γ).tmps) = true ∧ ∀ w, S w → (execOp (F γ).eval o).run P w = .ok (.value v) w
  | (Sum.inr (Sum.inl ())) => ∀ γ, Region.wanted o (yielded ops (F γ).tmps) = false
  | (Sum.inr (Sum.inr (Sum.inl v))) => ∀ γ, Region.wanted o (yielded ops (F γ).tmps) = true ∧ ∀ w, S w → ∃ f args, (execOp (F γ).eval o).run P w = .ok (.enter f args) w ∧ Calls P f args w (fun e w' => e = .returned v ∧ Below w.heap.size w w')
  | (Sum.inr (Sum.inr (Sum.inr (Sum.inl (zs, t))))) => ∀ γ, Region.wanted o (yielded ops (F γ).tmps) = true ∧ ∀ w, (execOp (F γ).eval o).run P w = .ok (.value (.pointer (some ⟨w.heap.size, 0, none⟩))) (w.alloc (.cells zs.toArray t))
  | (Sum.inr (Sum.inr (Sum.inr (Sum.inr (j, zs, cs))))) => ∀ γ, Region.wanted o (yielded ops (F γ).tmps) = true ∧ o.dst = none ∧ zs.length = cs.length ∧ ∀ w, Blk w (γ j) zs → (execOp (F γ).eval o).run P w = .ok .skip (w.setCells (γ j) 0 cs)
def AllOk (P : Program) (ops : Array Oper) (S : World → Prop) (F : (Nat → Nat) → Act) : List Oper → List Kind → Prop
  | o :: os, k :: ks => KindOk P ops S F o k ∧ AllOk P ops S F os ks
  | _, _ => True
theorem AllOk.at {S : World → Prop} {F : (Nat → Nat) → Act} : ∀ {os : List Oper} {ks : List Kind}, AllOk P ops S F os ks → ∀ {i : Nat} {o : Oper} {k : Kind}, os[i]? = some o → ks[i]? = some k → KindOk P ops S F o k
  | [], _, _, _, _, _, h, _ => by simp at h
  | _ :: _, [], _, _, _, _, _, h => by simp at h
  | o' :: os, k' :: ks, h, 0, o, k, ho, hk => by simp at ho hk; subst ho hk; exact h.1
  | o' :: os, k' :: ks, h, i + 1, o, k, ho, hk => AllOk.at (os := os) (ks := ks) h.2 (by simpa using ho) (by simpa using hk)
/-- Who waits for operation j. -/
def waits (o : Oper) (j : Nat) : Bool := o.after.any fun e => Region.binds .any e && e.on == j
def eachOp (ops : Array Oper) (p : Nat → Oper → Bool) : Bool := (List.range ops.size).all fun i => match ops[i]? with | none => true | some o => p i o
theorem eachOp_spec {p : Nat → Oper → Bool} (h : eachOp ops p = true) {i : Nat} {o : Oper} (ho : ops[i]? = some o) : p i o = true := by
  have hi : i < ops.size := (Array.getElem?_eq_some_iff.1 ho).1
  have := List.all_eq_true.1 h i (List.mem_range.2 hi)
  rw [ho] at this
  exact this
/-- The region is such that what it says of the order suffices: nobody waits for a later one; every slot is there; who looks at a slot waits for all that write it; no slot is written twice; who lays cells waits for the block's maker, and nobody else lays there. -/
def orderly (ops : Array Oper) (ks : List Kind) (n : Nat) : Bool :=
  Region.noSelect ops && ks.length == ops.size &&
  eachOp ops (fun i o => o.after.all fun e => !Region.binds .any e || decide (e.on < i)) &&
  eachOp ops (fun _ o => match o.dst with | none => true | some d => decide (d < n)) &&
  eachOp ops (fun _ o => (o.looksAt ops).all fun d => eachOp ops fun j oj => oj.dst != some d || waits o j) &&
  eachOp ops (fun i o => match o.dst with | none => true | some d => eachOp ops fun j oj => j == i || oj.dst != some d) &&
  eachOp ops (fun i o => match ks[i]? with | some ((Sum.inr (Sum.inr (Sum.inr (Sum.inr (j, _, _)))))) => waits o j && eachOp ops fun s _ => s == i || (match ks[s]? with | some ((Sum.inr (Sum.inr (Sum.inr (Sum.inr (j', _, _)))))) => j' != j | _ => true) | _ => true)
structure Orderly (ops : Array Oper) (ks : List Kind) (n : Nat) : Prop where
  noSelect : Region.noSelect ops = true
  size : ks.length = ops.size
  up : ∀ {i : Nat} {o : Oper}, ops[i]? = some o → ∀ e ∈ o.after, Region.binds .any e = true → e.on < i
  dst : ∀ {i : Nat} {o : Oper} {d : Tmp}, ops[i]? = some o → o.dst = some d → d < n
  looks : ∀ {i : Nat} {o : Oper} {d : Tmp} {j : Nat} {oj : Oper}, ops[i]? = some o → d ∈ o.looksAt ops → ops[j]? = some oj → oj.dst = some d → waits o j = true
  once : ∀ {i : Nat} {o : Oper} {d : Tmp} {j : Nat} {oj : Oper}, ops[i]? = some o → o.dst = some d → ops[j]? = some oj → oj.dst = some d → j = i
  laid : ∀ {i : Nat} {o : Oper} {j : Nat} {zs cs : List Value}, ops[i]? = some o → ks[i]? = some (.laid j zs cs) → waits o j = true
  lone : ∀ {i : Nat} {o : Oper} {j : Nat} {zs cs : List Value} {s : Nat} {zs' cs' : List Value}, ops[i]? = some o → ks[i]? = some (.laid j zs cs) → ks[s]? = some (.laid j zs' cs') → s = i
theorem Orderly.of {n : Nat} (h : orderly ops ks n = true) : Orderly ops ks n := by
  unfold orderly at h
  simp only [Bool.and_eq_true] at h
  obtain ⟨⟨⟨⟨⟨⟨h1, h2⟩, h3⟩, h4⟩, h5⟩, h6⟩, h7⟩ := h
  have hsz : ks.length = ops.size := by simpa using h2
  refine ⟨h1, hsz, ?_, ?_, ?_, ?_, ?_, ?_⟩
  · intro i o ho e he hb
    have := eachOp_spec h3 ho
    have := Array.all_eq_true_iff_forall_mem.1 this e he
    simpa [hb] using this
  · intro i o d ho hd
    have := eachOp_spec h4 ho
    rw [hd] at this
    simpa using this
  · intro i o d j oj ho hd hj hdj
    have := eachOp_spec (List.all_eq_true.1 (eachOp_spec h5 ho) d hd) hj
    simpa [hdj] using this
  · intro i o d j oj ho hd hj hdj
    have := eachOp_spec h6 ho
    rw [hd] at this
    have := eachOp_spec this hj
    simpa [hdj] using this
  · intro i o j zs cs ho hk
    have := eachOp_spec h7 ho
    rw [hk] at this
    simp only [Bool.and_eq_true] at this
    exact this.1
  · intro i o j zs cs s zs' cs' ho hk hs
    have := eachOp_spec h7 ho
    rw [hk] at this
    simp only [Bool.and_eq_true] at this
    have hlt : s < ops.size := by rw [← hsz]; exact (List.getElem?_eq_some_iff.1 hs).1
    have := eachOp_spec this.2 (Array.getElem?_eq_getElem hlt)
    rw [hs] at this
    simpa using this
def LaidOk (all : List Kind) : List Kind → Prop
  | [] => True
  | (Sum.inr (Sum.inr (Sum.inr (Sum.inr (j, zs, _))))) :: r => (∃ t, all[j]? = some (.made zs t)) ∧ LaidOk all r
  | _ :: r => LaidOk all r
theorem LaidOk.at {all : List Kind} : ∀ {r : List Kind}, LaidOk all r → ∀ {s j : Nat} {zs cs : List Value}, r[s]? = some (.laid j zs cs) → ∃ t, all[j]? = some (.made zs t)
  | [], _, _, _, _, _, h => by simp at h
  | k :: r, hl, 0, j, zs, cs, h => by
    simp at h
    subst h
    exact hl.1
  | k :: r, hl, s + 1, j, zs, cs, h => by
    have hr : LaidOk all r := by
      cases k using Kind.each <;> first | exact hl | exact hl.2
    exact hr.at (s := s) (by simpa using h)
theorem waits_spec {o : Oper} {j : Nat} (h : waits o j = true) {l : Array Bool} (hl : ∀ e ∈ o.after, Region.binds .any e = true → l.getD e.on false = true) : l.getD j false = true := by
  unfold waits at h
  obtain ⟨e, he, hb⟩ := Array.any_eq_true'.1 h
  simp only [Bool.and_eq_true, beq_iff_eq] at hb
  rw [← hb.2]
  exact hl e he hb.1
structure Agree (ops : Array Oper) (ks : List Kind) (a₀ : Act) (l : Array Bool) (γ : Nat → Nat) (a : Act) : Prop where
  defers : a.defers = a₀.defers
  size : a.tmps.size = a₀.tmps.size
  slots : ∀ d, (∀ i o, ops[i]? = some o → o.dst = some d → l.getD i false = true) → a.tmps[d]? = (fill γ 0 ops.toList ks a₀).tmps[d]?
theorem kind_at {n : Nat} (hO : Orderly ops ks n) {i : Nat} {o : Oper} (ho : ops[i]? = some o) : ∃ k, ks[i]? = some k := by
  have hi : i < ops.size := (Array.getElem?_eq_some_iff.1 ho).1
  exact ⟨_, List.getElem?_eq_getElem (by rw [hO.size]; exact hi)⟩
theorem fill_one {n : Nat} (hO : Orderly ops ks n) (hn : n = a₀.tmps.size) (γ : Nat → Nat) {i : Nat} {o : Oper} {k : Kind} {d : Tmp} (ho : ops[i]? = some o) (hk : ks[i]? = some k) (hd : o.dst = some d) :
    (fill γ 0 ops.toList ks a₀).tmps[d]? = some (k.val γ i) := by
  have := fill_at γ d o k hd i 0 ops.toList ks a₀ (by simpa using ho) hk (by rw [← hn]; exact hO.dst ho hd) (fun j' o' hlt ho' hd' => by
    have := hO.once ho hd (by simpa using ho' : ops[j']? = some o') hd'
    omega)
  rw [Nat.zero_add] at this
  exact this
theorem Agree.step {n : Nat} (hO : Orderly ops ks n) (hn : n = a₀.tmps.size) {l : Array Bool} {γ γ' : Nat → Nat} {a : Act} (h : Agree ops ks a₀ l γ a) {i : Nat} {o : Oper} {k : Kind} (ho : ops[i]? = some o) (hk : ks[i]? = some k)
    (hγ : ∀ j, j ≠ i → γ' j = γ j) : Agree ops ks a₀ (l.setIfInBounds i true) γ' (a.put o.dst (k.val γ' i)) := by
  refine ⟨by rw [put_defers']; exact h.defers, by rw [put_size]; exact h.size, fun d hd => ?_⟩
  by_cases e : o.dst = some d
  · rw [fill_one hO hn γ' ho hk e, e, put_same _ _ _ (by rw [h.size, ← hn]; exact hO.dst ho e)]
  · rw [put_other _ _ _ _ e, h.slots d (fun j oj hj hdj => by
      have hne : i ≠ j := fun he => by subst he; rw [ho] at hj; injection hj with hj; subst hj; exact e hdj
      have := hd j oj hj hdj
      rw [getD_set_ne false hne] at this
      exact this)]
    by_cases hw : ∃ (j : Nat) (oj : Oper), ops[j]? = some oj ∧ oj.dst = some d
    · obtain ⟨j, oj, hj, hdj⟩ := hw
      obtain ⟨kj, hkj⟩ := kind_at hO hj
      have hne : j ≠ i := fun he => by subst he; rw [ho] at hj; injection hj with hj; subst hj; exact e hdj
      rw [fill_one hO hn γ hj hkj hdj, fill_one hO hn γ' hj hkj hdj]
      cases kj using Kind.each <;> first | rfl | (show some (Value.pointer _) = some (Value.pointer _); rw [hγ j hne])
    · have hno : ∀ o' ∈ ops.toList, o'.dst ≠ some d := fun o' ho' hd' => by
        obtain ⟨j, hj, ej⟩ := List.getElem_of_mem ho'
        exact hw ⟨j, o', by rw [← Array.getElem?_toList, List.getElem?_eq_getElem hj, ej], hd'⟩
      rw [fill_other γ d 0 _ _ _ hno, fill_other γ' d 0 _ _ _ hno]
/-- An operation that may come up sees what it will have seen in the end. -/
theorem Agree.sees {n : Nat} (hO : Orderly ops ks n) {l : Array Bool} {γ : Nat → Nat} {a : Act} (h : Agree ops ks a₀ l γ a) {i : Nat} {o : Oper} (ho : ops[i]? = some o)
    (hl : ∀ e ∈ o.after, Region.binds .any e = true → l.getD e.on false = true) :
    execOp a.eval o = execOp (fill γ 0 ops.toList ks a₀).eval o ∧ Region.wanted o (yielded ops a.tmps) = Region.wanted o (yielded ops (fill γ 0 ops.toList ks a₀).tmps) := by
  have hs : ∀ d ∈ o.looksAt ops, a.tmps[d]? = (fill γ 0 ops.toList ks a₀).tmps[d]? := fun d hd =>
    h.slots d (fun j oj hj hdj => waits_spec (hO.looks ho hd hj hdj) hl)
  refine ⟨execOp_congr o (fun cs b => Region.noSelect_spec hO.noSelect i o cs b ho) (fun x hx => ?_), ?_⟩
  · cases x with
    | tmp t =>
      have := hs t (List.mem_append_left _ (List.mem_filterMap.2 ⟨.tmp t, by simpa using hx, rfl⟩))
      simp only [Act.eval, Array.getD_eq_getD_getElem?, this]
    | _ => rfl
  · unfold Region.wanted
    cases hg : o.guard with
    | none => rfl
    | some gw =>
      obtain ⟨g, want⟩ := gw
      have hy : yielded ops a.tmps g = yielded ops (fill γ 0 ops.toList ks a₀).tmps g := by
        unfold yielded
        cases ht : (ops[g]?).bind (·.dst) with
        | none => rfl
        | some t =>
          have := hs t (by simp [Oper.looksAt, hg, ht])
          simp only [Option.bind_some, this]
      simp only [hy]
theorem all_listed {n : Nat} (hO : Orderly ops ks n) {l : Array Bool} (hsz : l.size = ops.size) (hr : Region.ready .any ops l = []) : ∀ i, i < ops.size → l.getD i false = true := by
  intro i
  induction i using Nat.strongRecOn with
  | _ i ih =>
    intro hi
    have hi' : i < l.size := by omega
    cases hl : l.getD i true with
    | true => simpa [hi'] using hl
    | false =>
      exfalso
      have : i ∈ Region.ready .any ops l := mem_ready.2 ⟨hl, ops[i], Array.getElem?_eq_getElem hi, fun e he hb => by
        have h1 := hO.up (Array.getElem?_eq_getElem hi) e he hb
        exact ih e.on h1 (by omega)⟩
      rw [hr] at this
      cases this
theorem Agree.whole {l : Array Bool} {γ : Nat → Nat} {a : Act} (h : Agree ops ks a₀ l γ a) (hl : ∀ i, i < ops.size → l.getD i false = true) : a = fill γ 0 ops.toList ks a₀ := by
  have ht : a.tmps = (fill γ 0 ops.toList ks a₀).tmps := Array.ext_getElem? fun d =>
    h.slots d (fun i o ho _ => hl i (Array.getElem?_eq_some_iff.1 ho).1)
  have hd : a.defers = (fill γ 0 ops.toList ks a₀).defers := by rw [h.defers, fill_defers]
  cases a
  cases hf : fill γ 0 ops.toList ks a₀
  rw [hf] at ht hd
  simp only at ht hd
  rw [ht, hd]
/-! The memory, step by step. -/
theorem getD_true {l : Array Bool} {i j : Nat} (h : l.getD j false = true) : (l.setIfInBounds i true).getD j false = true := by
  by_cases e : i = j
  · subst e
    have hi : i < l.size := by
      rcases Nat.lt_or_ge i l.size with h' | h'
      · exact h'
      · simp [Array.getElem?_eq_none h'] at h
    simp [hi]
  · rw [getD_set_ne false e]; exact h
theorem getD_same {l : Array Bool} {i : Nat} (h : l.getD i true = false) : l.getD i false = false ∧ (l.setIfInBounds i true).getD i false = true := by
  rcases Nat.lt_or_ge i l.size with h' | h'
  · simp [h'] at h
    simp [h', h]
  · simp [Array.getElem?_eq_none h'] at h
theorem Mem.still {l : Array Bool} {γ : Nat → Nat} {w w' : World} (h : Mem ks w₀ l γ w) (hb : Below w.heap.size w w') {i : Nat} {k : Kind} (hk : ks[i]? = some k) (h1 : ∀ zs t, k ≠ .made zs t) (h2 : ∀ j zs cs, k ≠ .laid j zs cs) :
    Mem ks w₀ (l.setIfInBounds i true) γ w' := by
  have ne1 : ∀ j zs t, ks[j]? = some (.made zs t) → i ≠ j := fun j zs t hj he => by subst he; rw [hk] at hj; injection hj with hj; exact h1 _ _ hj
  have ne2 : ∀ s j zs cs, ks[s]? = some (.laid j zs cs) → i ≠ s := fun s j zs cs hj he => by subst he; rw [hk] at hj; injection hj with hj; exact h2 _ _ _ hj
  refine ⟨h.below.trans (hb.mono h.below.size), ?_, ?_, ?_, ?_, ?_⟩
  · intro j zs t hj hl
    rw [getD_set_ne false (ne1 j zs t hj)] at hl
    obtain ⟨x, y⟩ := h.made j zs t hj hl
    exact ⟨x, Nat.lt_of_lt_of_le y hb.size⟩
  · intro j zs t hj hl hs
    rw [getD_set_ne false (ne1 j zs t hj)] at hl
    exact (h.raw j zs t hj hl (fun s zs' cs hs' => by have := hs s zs' cs hs'; rwa [getD_set_ne false (ne2 s j zs' cs hs')] at this)).below hb (h.made j zs t hj hl).2
  · intro s j zs cs hs hl
    rw [getD_set_ne false (ne2 s j zs cs hs)] at hl
    exact ⟨(h.full s j zs cs hs hl).1.below hb (h.full s j zs cs hs hl).2, Nat.lt_of_lt_of_le (h.full s j zs cs hs hl).2 hb.size⟩
  · intro s j zs cs hs hl
    rw [getD_set_ne false (ne2 s j zs cs hs)] at hl
    exact getD_true (h.order s j zs cs hs hl)
  · intro x y zs t zs' t' hx hy hlx hly hne
    rw [getD_set_ne false (ne1 x zs t hx)] at hlx
    rw [getD_set_ne false (ne1 y zs' t' hy)] at hly
    exact h.apart x y zs t zs' t' hx hy hlx hly hne
theorem Mem.make {l : Array Bool} {γ : Nat → Nat} {w : World} (h : Mem ks w₀ l γ w) {i : Nat} {zs : List Value} {t : TypeId} (hk : ks[i]? = some (.made zs t)) (hun : l.getD i true = false) :
    Mem ks w₀ (l.setIfInBounds i true) (fun j => if j = i then w.heap.size else γ j) (w.alloc (.cells zs.toArray t)) := by
  obtain ⟨hf, _⟩ := getD_same hun
  have ne2 : ∀ s j zs cs, ks[s]? = some (.laid j zs cs) → i ≠ s := fun s j zs cs hj he => by subst he; rw [hk] at hj; injection hj with hj; cases hj
  have hsz := h.below.size
  refine ⟨h.below.alloc hsz _, ?_, ?_, ?_, ?_, ?_⟩
  · intro j zs' t' hj hl
    by_cases e : j = i
    · subst e
      simp only [if_pos, World.size_alloc]
      omega
    · rw [getD_set_ne false (Ne.symm e)] at hl
      have := h.made j zs' t' hj hl
      simp only [if_neg e, World.size_alloc]
      omega
  · intro j zs' t' hj hl hs
    by_cases e : j = i
    · subst e
      rw [hk] at hj
      injection hj with hj
      obtain ⟨hj, _⟩ := Kind.madeInj hj
      subst hj
      simp only [if_pos]
      exact Blk.new w zs t
    · rw [getD_set_ne false (Ne.symm e)] at hl
      simp only [if_neg e]
      exact (h.raw j zs' t' hj hl (fun s z c hs' => by have := hs s z c hs'; rwa [getD_set_ne false (ne2 s j z c hs')] at this)).alloc (h.made j zs' t' hj hl).2 _
  · intro s j z c hs hl
    rw [getD_set_ne false (ne2 s j z c hs)] at hl
    have e : j ≠ i := fun he => by have := h.order s j z c hs hl; rw [he, hf] at this; cases this
    have := h.full s j z c hs hl
    simp only [if_neg e, World.size_alloc]
    exact ⟨this.1.alloc this.2 _, by omega⟩
  · intro s j z c hs hl
    rw [getD_set_ne false (ne2 s j z c hs)] at hl
    exact getD_true (h.order s j z c hs hl)
  · intro x y zs1 t1 zs2 t2 hx hy hlx hly hne
    by_cases ex : x = i
    · have ey : y ≠ i := fun he => hne (by rw [ex, he])
      rw [getD_set_ne false (Ne.symm ey)] at hly
      have := h.made y zs2 t2 hy hly
      simp only [if_pos ex, if_neg ey]
      omega
    · rw [getD_set_ne false (Ne.symm ex)] at hlx
      by_cases ey : y = i
      · have := h.made x zs1 t1 hx hlx
        simp only [if_pos ey, if_neg ex]
        omega
      · rw [getD_set_ne false (Ne.symm ey)] at hly
        simp only [if_neg ex, if_neg ey]
        exact h.apart x y zs1 t1 zs2 t2 hx hy hlx hly hne
theorem Mem.lay {n : Nat} (hO : Orderly ops ks n) (hL : LaidOk ks ks) {l : Array Bool} {γ : Nat → Nat} {w : World} (h : Mem ks w₀ l γ w) {s i : Nat} {o : Oper} {zs cs : List Value} (ho : ops[s]? = some o) (hk : ks[s]? = some (.laid i zs cs)) (hlen : zs.length = cs.length)
    (hun : l.getD s true = false) (hli : l.getD i false = true) : Blk w (γ i) zs ∧ Mem ks w₀ (l.setIfInBounds s true) γ (w.setCells (γ i) 0 cs) := by
  obtain ⟨hf, hset⟩ := getD_same hun
  obtain ⟨t, hmi⟩ := hL.at hk
  have ne1 : ∀ j zs t, ks[j]? = some (.made zs t) → s ≠ j := fun j zs t hj he => by subst he; rw [hk] at hj; injection hj with hj; cases hj
  have hraw : Blk w (γ i) zs := h.raw i zs t hmi hli (fun s' z c hs' => by rw [hO.lone ho hk hs']; exact hf)
  refine ⟨hraw, below_setCells _ (h.made i zs t hmi hli).1 _ _ _ h.below, ?_, ?_, ?_, ?_, ?_⟩
  · intro j zs' t' hj hl
    rw [getD_set_ne false (ne1 j zs' t' hj)] at hl
    rw [size_setCells]
    exact h.made j zs' t' hj hl
  · intro j zs' t' hj hl hs
    rw [getD_set_ne false (ne1 j zs' t' hj)] at hl
    have e : j ≠ i := fun he => by
      subst he
      have := hs s zs cs hk
      rw [hset] at this
      cases this
    refine (h.raw j zs' t' hj hl (fun s' z c hs' => ?_)).other (h.apart j i zs' t' zs t hj hmi hl hli e)
    have := hs s' z c hs'
    cases hb : l.getD s' false with
    | false => rfl
    | true => rw [getD_true hb] at this; exact this
  · intro s' j z c hs' hl
    rw [size_setCells]
    by_cases e : s' = s
    · subst e
      rw [hk] at hs'
      injection hs' with hs'
      obtain ⟨e1, e2, e3⟩ := Kind.laidInj hs'
      subst e1 e2 e3
      exact ⟨hraw.laid hlen, (h.made i zs t hmi hli).2⟩
    · rw [getD_set_ne false (Ne.symm e)] at hl
      have hj : j ≠ i := fun he => by
        subst he
        exact e (hO.lone ho hk hs')
      obtain ⟨t', hmj⟩ := hL.at hs'
      have := h.full s' j z c hs' hl
      exact ⟨this.1.other (h.apart j i z t' zs t hmj hmi (h.order s' j z c hs' hl) hli hj), this.2⟩
  · intro s' j z c hs' hl
    by_cases e : s' = s
    · subst e
      rw [hk] at hs'
      injection hs' with hs'
      obtain ⟨e1, _, _⟩ := Kind.laidInj hs'
      subst e1
      exact getD_true hli
    · rw [getD_set_ne false (Ne.symm e)] at hl
      exact getD_true (h.order s' j z c hs' hl)
  · intro x y zs1 t1 zs2 t2 hx hy hlx hly hne
    rw [getD_set_ne false (ne1 x zs1 t1 hx)] at hlx
    rw [getD_set_ne false (ne1 y zs2 t2 hy)] at hly
    exact h.apart x y zs1 t1 zs2 t2 hx hy hlx hly hne
theorem count_set {l : Array Bool} {i : Nat} (h : l.getD i true = false) : (l.setIfInBounds i true).toList.count false + 1 = l.toList.count false := by
  rcases Nat.lt_or_ge i l.size with h' | h'
  · simp [h'] at h
    rw [Array.toList_setIfInBounds, List.count_set (by simpa using h')]
    have h2 : l.toList[i]'(by simpa using h') = false := by simpa using h
    have h3 : 0 < l.toList.count false := List.count_pos_iff.2 (by rw [← h2]; exact List.getElem_mem _)
    rw [h2, if_pos (by decide), if_neg (by decide)]
    omega
  · simp [Array.getElem?_eq_none h'] at h
set_option maxHeartbeats 1000000 in
theorem any_inv {n : Nat} (hO : Orderly ops ks n) (hn : n = a₀.tmps.size) (hL : LaidOk ks ks) {S : World → Prop} (hS : ∀ w, Below w₀.heap.size w₀ w → S w)
    (hops : AllOk P ops S (fun γ => fill γ 0 ops.toList ks a₀) ops.toList ks)
    (hend : ∀ γ w l, Mem ks w₀ l γ w → (∀ i, i < ops.size → l.getD i false = true) → Q .normal (fill γ 0 ops.toList ks a₀) w) :
    ∀ (fuel : Nat) (l : Array Bool) (γ : Nat → Nat) (a : Act) (w : World), l.size = ops.size → l.toList.count false ≤ fuel → Agree ops ks a₀ l γ a → Mem ks w₀ l γ w → wpAny P .any ops Q fuel l a w := by
  intro fuel
  induction fuel with
  | zero =>
    intro l γ a w hsz hc hA hM
    have hr : Region.ready .any ops l = [] := by
      refine List.eq_nil_iff_forall_not_mem.2 fun i hi => ?_
      have h1 := count_set (mem_ready.1 hi).1
      omega
    have hall := all_listed hO hsz hr
    refine ⟨hr, ?_⟩
    rw [hA.whole hall]
    exact hend γ w l hM hall
  | succ fuel ih =>
    intro l γ a w hsz hc hA hM
    refine ⟨fun hr => ?_, fun i hi => ?_⟩
    · have hall := all_listed hO hsz hr
      rw [hA.whole hall]
      exact hend γ w l hM hall
    · obtain ⟨hun, o, ho, hedge⟩ := mem_ready.1 hi
      obtain ⟨k, hk⟩ := kind_at hO ho
      have hok := hops.at (by simpa using ho) hk
      obtain ⟨he, hw⟩ := hA.sees hO ho hedge
      have hc' := count_set hun
      have next : ∀ (γ' : Nat → Nat) (w' : World), (∀ j, j ≠ i → γ' j = γ j) → Mem ks w₀ (l.setIfInBounds i true) γ' w' → wpAny P .any ops Q fuel (l.setIfInBounds i true) (a.put o.dst (k.val γ' i)) w' := fun γ' w' hγ hM' =>
        ih _ γ' _ w' (by simp [hsz]) (by omega) (hA.step hO hn ho hk hγ) hM'
      refine wpOp_step ho (fun K' hK => ?_)
      rw [hw]
      cases k using Kind.each with
      | quiet v =>
        obtain ⟨h1, h2⟩ := hok γ
        rw [if_pos h1]
        unfold Oper.wp
        rw [he, h2 w (hS w hM.below)]
        exact hK _ _ (next γ w (fun _ _ => rfl) (hM.still (Below.refl _ _) hk (fun _ _ h => by cases h) (fun _ _ _ h => by cases h)))
      | gone =>
        rw [if_neg (by rw [hok γ]; decide)]
        exact hK _ _ (next γ w (fun _ _ => rfl) (hM.still (Below.refl _ _) hk (fun _ _ h => by cases h) (fun _ _ _ h => by cases h)))
      | call v =>
        obtain ⟨h1, h2⟩ := hok γ
        rw [if_pos h1]
        obtain ⟨f, args, h3, h4⟩ := h2 w (hS w hM.below)
        unfold Oper.wp
        rw [he, h3]
        refine Calls.mono h4 ?_
        rintro e w' ⟨rfl, hb⟩
        exact hK _ _ (next γ w' (fun _ _ => rfl) (hM.still hb hk (fun _ _ h => by cases h) (fun _ _ _ h => by cases h)))
      | made zs t =>
        obtain ⟨h1, h2⟩ := hok γ
        rw [if_pos h1]
        unfold Oper.wp
        rw [he, h2 w]
        have := next _ _ (fun j hj => if_neg hj) (hM.make hk hun)
        simp only [Kind.val, if_pos] at this
        exact hK _ _ this
      | laid j zs cs =>
        obtain ⟨h1, h2, h3, h4⟩ := hok γ
        rw [if_pos h1]
        have hli : l.getD j false = true := waits_spec (hO.laid ho hk) hedge
        obtain ⟨hr, hM'⟩ := hM.lay hO hL ho hk h3 hun hli
        unfold Oper.wp
        rw [he, h4 w hr]
        exact hK _ _ (next γ _ (fun _ _ => rfl) hM')
/-- **The law**: a region that draws its order. -/
theorem region_inv {id : Nat} {a : Act} {w : World} (hm : P.follows .mixedOrders = true) (ks : List Kind) (S : World → Prop)
    (hor : orderly ops ks a.tmps.size = true) (hL : LaidOk ks ks) (hS : ∀ w', Below w.heap.size w w' → S w')
    (hops : AllOk P ops S (fun γ => fill γ 0 ops.toList ks a) ops.toList ks)
    (hend : ∀ γ w' l, Mem ks w l γ w' → (∀ i, i < ops.size → l.getD i false = true) → Q .normal (fill γ 0 ops.toList ks a) w') :
    (Code.region id ops true).wp P Q a w := by
  have none_listed : ∀ i, (Array.replicate ops.size false).getD i false = false := fun i => by
    rcases Nat.lt_or_ge i ops.size with h | h <;> simp [h]
  refine wp_region_any hm (any_inv (Orderly.of hor) rfl hL hS hops hend ops.size _ (fun _ => 0) a w.drew (by simp) (by simp) ⟨rfl, rfl, fun d hd => ?_⟩ ?_)
  · have hno : ∀ o' ∈ ops.toList, o'.dst ≠ some d := fun o' ho' hd' => by
      obtain ⟨j, hj, ej⟩ := List.getElem_of_mem ho'
      have := hd j o' (by rw [← Array.getElem?_toList, List.getElem?_eq_getElem hj, ej]) hd'
      rw [none_listed] at this
      cases this
    rw [fill_other _ d 0 _ _ _ hno]
  · refine ⟨(Below.refl _ _).drew, ?_, ?_, ?_, ?_, ?_⟩
    · intro i zs t _ h; rw [none_listed] at h; cases h
    · intro i zs t _ h; rw [none_listed] at h; cases h
    · intro s i zs cs _ h; rw [none_listed] at h; cases h
    · intro s i zs cs _ h; rw [none_listed] at h; cases h
    · intro i j zs t zs' t' _ _ h; rw [none_listed] at h; cases h
end
end Go.Proofs.YtkkloakcphigeaaDoor
end
section
namespace Go.Proofs.YtkkloakcphigeaaDoor
open Go.RowKit
abbrev O6 (v : Nat) : Obj := .cells #[.int .u64 (wd v 0), .int .u64 (wd v 1), .int .u64 (wd v 2), .int .u64 (wd v 3), .int .u64 (wd v 4), .int .u64 (wd v 5)] 33
abbrev Z6 : Obj := .cells #[.int .u64 0, .int .u64 0, .int .u64 0, .int .u64 0, .int .u64 0, .int .u64 0] 33
/-- The blocks of the list hold its numbers. -/
def Rws (wr : World) (l : List (Nat × Nat)) : Prop := ∀ g v, (g, v) ∈ l → g < wr.heap.size ∧ Row wr g 6 (wd v)
theorem Rws.nil (w : World) : Rws w [] := fun _ _ h => by cases h
theorem Rws.below {wr w1 : World} {l : List (Nat × Nat)} (h : Rws wr l) (hb : Below wr.heap.size wr w1) : Rws w1 l :=
  fun g v hm => ⟨Nat.lt_of_lt_of_le (h g v hm).1 hb.size, Row.below hb (h g v hm).2 (h g v hm).1⟩
theorem Rws.alloc {wr : World} {l : List (Nat × Nat)} (h : Rws wr l) (v : Nat) {g : Nat} (hg : g = wr.heap.size) : Rws (wr.alloc (O6 v)) ((g, v) :: l) := by
  intro g' v' hm
  rcases List.mem_cons.1 hm with h1 | h1
  · injection h1 with h2 h3
    subst h2 h3 hg
    exact ⟨by simp, Row.new wr _ 33 rfl (six_lt rfl)⟩
  · exact ⟨by simp; have := (h g' v' h1).1; omega, (h g' v' h1).2.alloc (h g' v' h1).1 _⟩
theorem Rws.drew {wr : World} {l : List (Nat × Nat)} (h : Rws wr l) : Rws wr.drew l := fun g v hm => ⟨(h g v hm).1, (h g v hm).2.drew⟩
theorem Rws.at {wr : World} {l : List (Nat × Nat)} (h : Rws wr l) {g v : Nat} (hm : (g, v) ∈ l) : g < wr.heap.size ∧ wr.cell? ⟨g, 0, none⟩ = some (.int .u64 (wd v 0)) ∧ wr.cell? ⟨g, 1, none⟩ = some (.int .u64 (wd v 1)) ∧ wr.cell? ⟨g, 2, none⟩ = some (.int .u64 (wd v 2)) ∧ wr.cell? ⟨g, 3, none⟩ = some (.int .u64 (wd v 3)) ∧ wr.cell? ⟨g, 4, none⟩ = some (.int .u64 (wd v 4)) ∧ wr.cell? ⟨g, 5, none⟩ = some (.int .u64 (wd v 5)) :=
  ⟨(h g v hm).1, (h g v hm).2.reads⟩
abbrev cells6 (v : Nat) : List Value := [.int .u64 (wd v 0), .int .u64 (wd v 1), .int .u64 (wd v 2), .int .u64 (wd v 3), .int .u64 (wd v 4), .int .u64 (wd v 5)]
abbrev zero6 : List Value := [.int .u64 0, .int .u64 0, .int .u64 0, .int .u64 0, .int .u64 0, .int .u64 0]
theorem Blk.row {w : World} {g v : Nat} (h : Blk w g (cells6 v)) : Row w g 6 (wd v) := fun j hj => by
  match j, hj with
  | 0, _ => exact h 0 _ rfl
  | 1, _ => exact h 1 _ rfl
  | 2, _ => exact h 2 _ rfl
  | 3, _ => exact h 3 _ rfl
  | 4, _ => exact h 4 _ rfl
  | 5, _ => exact h 5 _ rfl
theorem Rws.cons {wr : World} {l : List (Nat × Nat)} (h : Rws wr l) {g v : Nat} (hb : Blk wr g (cells6 v) ∧ g < wr.heap.size) : Rws wr ((g, v) :: l) := by
  intro g' v' hm
  rcases List.mem_cons.1 hm with e | hm
  · injection e with e1 e2
    subst e1 e2
    exact ⟨hb.2, hb.1.row⟩
  · exact h g' v' hm
theorem exec_load6 {ρ : Operand → Value} {o : Oper} {x : Operand} {g v : Nat} {w : World} {l : List (Nat × Nat)} (h : Rws w l) (hm : (g, v) ∈ l) (ho : o.op = .load 33 x) (hx : ρ x = .pointer (some ⟨g, 0, none⟩)) :
    (execOp ρ o).run Tryd.prog w = .ok (.value (N v)) w := by
  obtain ⟨h0, c0, c1, c2, c3, c4, c5⟩ := h.at hm
  clear h hm
  simp only [execOp, ho, hx]
  go_simp
theorem exec_made6 {ρ : Operand → Value} {o : Oper} {w : World} (ho : o.op = .alloc 33) :
    (execOp ρ o).run Tryd.prog w = .ok (.value (.pointer (some ⟨w.heap.size, 0, none⟩))) (w.alloc (.cells zero6.toArray 33)) := by
  simp only [execOp, ho]
  go_simp
theorem exec_laid6 {ρ : Operand → Value} {o : Oper} {x y : Operand} {g v : Nat} {w : World} (h : Blk w g zero6) (ho : o.op = .store 33 x y) (hx : ρ x = .pointer (some ⟨g, 0, none⟩)) (hy : ρ y = N v) :
    (execOp ρ o).run Tryd.prog w = .ok .skip (w.setCells g 0 (cells6 v)) := by
  obtain ⟨c0, f0⟩ := h 0 _ rfl
  obtain ⟨c1, f1⟩ := h 1 _ rfl
  obtain ⟨c2, f2⟩ := h 2 _ rfl
  obtain ⟨c3, f3⟩ := h 3 _ rfl
  obtain ⟨c4, f4⟩ := h 4 _ rfl
  obtain ⟨c5, f5⟩ := h 5 _ rfl
  clear h
  simp only [execOp, ho, hx, hy]
  go_simp
  simp [World.setCells]
theorem exec_call {P : Program} {ρ : Operand → Value} {o : Oper} {f : FuncId} {xs : Array Operand} {ts : Array TypeId} {args : Array Value} {w : World} (ho : o.op = .call { callee := .value (.func f), args := xs, argTypes := ts }) (hc : ∀ args w, (callFunc f args).run P w = .ok (.enter f args) w) (hf : ρ (.func f) = .func (.func f) #[] #[]) (hx : xs.map ρ = args) :
    (execOp ρ o).run P w = .ok (.enter f args) w := by
  subst hx
  simp only [execOp, ho, resolve, hf]
  simp [go_sem, Deferred.ofValue, invoke, hc]
theorem call55 : ∀ args w, (callFunc 55 args).run Tryd.prog w = .ok (.enter 55 args) w := by intro args w; go_simp
theorem call53 : ∀ args w, (callFunc 53 args).run Tryd.prog w = .ok (.enter 53 args) w := by intro args w; go_simp
theorem call69 : ∀ args w, (callFunc 69 args).run Tryd.prog w = .ok (.enter 69 args) w := by intro args w; go_simp
theorem call36 : ∀ args w, (callFunc 36 args).run Tryd.prog w = .ok (.enter 36 args) w := by intro args w; go_simp
theorem call35 : ∀ args w, (callFunc 35 args).run Tryd.prog w = .ok (.enter 35 args) w := by intro args w; go_simp
theorem call18 : ∀ args w, (callFunc 18 args).run Tryd.prog w = .ok (.enter 18 args) w := by intro args w; go_simp
theorem AllOk.cons {P : Program} {ops : Array Oper} {S : World → Prop} {F : (Nat → Nat) → Act} {o : Oper} {os : List Oper} {k : Kind} {ks : List Kind} (h : KindOk P ops S F o k) (hs : AllOk P ops S F os ks) : AllOk P ops S F (o :: os) (k :: ks) := ⟨h, hs⟩
/-- The law, with the frame behind the region written out. -/
theorem region_law {P : Program} {ops : Array Oper} {Q : Exit → Act → World → Prop} {id : Nat} {a : Act} {w : World} (hm : P.follows .mixedOrders = true) (ks : List Kind) (S : World → Prop) (F : (Nat → Nat) → Act)
    (hF : ∀ γ, fill γ 0 ops.toList ks a = F γ) (hor : orderly ops ks a.tmps.size = true) (hL : LaidOk ks ks) (hS : ∀ w', Below w.heap.size w w' → S w') (hops : AllOk P ops S F ops.toList ks)
    (hend : ∀ γ w' l, Mem ks w l γ w' → (∀ i, i < ops.size → l.getD i false = true) → Q .normal (F γ) w') : (Code.region id ops true).wp P Q a w := by
  obtain rfl : (fun γ => fill γ 0 ops.toList ks a) = F := funext hF
  exact region_inv hm ks S hor hL hS hops hend
end Go.Proofs.YtkkloakcphigeaaDoor
end
section
namespace Go.Proofs.YtkkloakcphigeaaDoor
open Go.RowKit
theorem div_zero_of (a m : Nat) (ha : a < big) (hm : 384 ≤ m) : a / 2 ^ m = 0 := Nat.div_eq_of_lt (Nat.lt_of_lt_of_le ha (big_le m hm))
theorem shv_high (a n : Nat) (ha : a < big) (hn : n < 64) : shv a ((n : Int) - 384) = a / 2 ^ (384 - n) := by
  unfold shv
  by_cases h : n = 0
  · rw [if_pos (by omega)]
    exact (div_zero_of a (384 - n) ha (by omega)).symm
  · rw [if_neg (by omega), if_pos (by omega)]
    have e : (-((n : Int) - 384)).toNat = 384 - n := by omega
    rw [e]
theorem long_top (a n : Nat) (hn : n < 64) : wd (a / 2 ^ (384 - n)) 0 = wd (a * 2 ^ n) 6 := by
  unfold wd
  rw [Nat.mul_zero, Nat.pow_zero, Nat.div_one]
  have e : 64 * 6 = n + (384 - n) := by omega
  rw [e, Nat.pow_add, ← Nat.div_div_eq_div_mul, Nat.mul_div_cancel _ (Nat.two_pow_pos n)]
/-- The world when shiftLong begins its work. -/
abbrev W0 (w : World) (a : Nat) : World := (w.alloc (.cells #[.int .u64 (wd a 0), .int .u64 (wd a 1), .int .u64 (wd a 2), .int .u64 (wd a 3), .int .u64 (wd a 4), .int .u64 (wd a 5)] 33)).alloc (.cells #[.int .u64 0, .int .u64 0, .int .u64 0, .int .u64 0, .int .u64 0, .int .u64 0, .int .u64 0] 73)
set_option maxHeartbeats 4000000 in
set_option maxRecDepth 100000 in
theorem shiftLong_any (a n : Nat) (ha : a < big) (hn : n < 64) (w : World) :
    Calls Tryd.prog 37 #[N a, .int .i64 n] w fun e w' => e = .returned (L7 (a * 2 ^ n)) ∧ Below w.heap.size w w' := by
  have c1 := fun w => shift_up a n (by omega) w
  have c2 := fun w => shift_any a ((n : Int) - 384) ha w
  rw [shv_high a n ha hn] at c2
  have ht : Hid _ := long_top a n hn
  generalize a / 2 ^ (384 - n) = hi at c2 ht
  have C1 : Hid _ := c1
  have C2 : Hid _ := c2
  have ew : IntKind.i64.wrap ((n : Int) - 384) = (n : Int) - 384 := by rw [IntKind.wrap_i64]; omega
  clear c1 c2 ha
  go_enter Tryd.func37, Tryd.ntmps37
  go_wp2
  have HR : Hid (Rws (W0 w a) [(w.heap.size, a)]) := ((Rws.nil w).alloc a rfl).below ((Below.refl _ _).alloc (Nat.le_refl _) _)
  refine region_law (by kernel_rfl) [.quiet (N a), .quiet (.int .i64 n), .call (N (a * 2 ^ n % big)), .quiet (N a), .quiet (.int .i64 n), .quiet (.int .i64 ((n : Int) - 384)), .call (N hi), .made zero6 33, .made zero6 33, .laid 7 zero6 (cells6 (a * 2 ^ n % big)), .laid 8 zero6 (cells6 hi)] (fun w' => Rws w' [(w.heap.size, a)]) ?F1 (fun γ => ?hF) (by kernel_rfl) ?hL ?hS ?ho ?he
  case hF =>
    simp only [fill, Kind.val, Act.put, List.setIfInBounds_toArray, List.set_cons_zero, List.set_cons_succ]
    exact rfl
  case hL => exact ⟨⟨_, rfl⟩, ⟨_, rfl⟩, trivial⟩
  case hS => exact fun w' hb => HR.out.below hb
  case ho =>
    refine AllOk.cons ?_ ?_
    · exact fun γ => ⟨rfl, fun w' h => exec_load6 h (by simp) rfl rfl⟩
    refine AllOk.cons ?_ ?_
    · exact fun γ => ⟨rfl, fun w' _ => rfl⟩
    refine AllOk.cons ?_ ?_
    · exact fun γ => ⟨rfl, fun w' h => ⟨36, #[N a, .int .i64 n], exec_call rfl call36 rfl (by simp only [List.map_toArray, List.map_cons, List.map_nil]; rfl), C1.out w'⟩⟩
    refine AllOk.cons ?_ ?_
    · exact fun γ => ⟨rfl, fun w' h => exec_load6 h (by simp) rfl rfl⟩
    refine AllOk.cons ?_ ?_
    · exact fun γ => ⟨rfl, fun w' _ => rfl⟩
    refine AllOk.cons ?_ ?_
    · (refine fun γ => ⟨rfl, fun w' h => ?_⟩; clear h; go_simp)
    refine AllOk.cons ?_ ?_
    · exact fun γ => ⟨rfl, fun w' h => ⟨36, #[N a, .int .i64 ((n : Int) - 384)], exec_call rfl call36 rfl (by simp only [List.map_toArray, List.map_cons, List.map_nil]; rfl), C2.out w'⟩⟩
    refine AllOk.cons ?_ ?_
    · exact fun γ => ⟨rfl, fun w' => exec_made6 rfl⟩
    refine AllOk.cons ?_ ?_
    · exact fun γ => ⟨rfl, fun w' => exec_made6 rfl⟩
    refine AllOk.cons ?_ ?_
    · exact fun γ => ⟨rfl, rfl, rfl, fun w' h => exec_laid6 h rfl rfl rfl⟩
    refine AllOk.cons ?_ ?_
    · exact fun γ => ⟨rfl, rfl, rfl, fun w' h => exec_laid6 h rfl rfl rfl⟩
    exact trivial
  case he =>
    intro γ wc l hM hl
    obtain ⟨hq5, hg2⟩ := hM.full 9 7 _ _ rfl (hl 9 (by decide))
    obtain ⟨hq6, hg3⟩ := hM.full 10 8 _ _ rfl (hl 10 (by decide))
    have hg1 := (hM.made 7 _ _ rfl (hl 7 (by decide))).1
    have hbw := hM.below
    simp only [World.size_alloc] at hg1 hbw
    have q6 := (hq6 0 _ rfl).1
    have hq := hq5.row
    clear hM hl l hq5 hq6 HR
    generalize γ 7 = g5 at hq hg2 hg1 ⊢
    generalize γ 8 = g6 at q6 hg3 ⊢
    clear γ
    have hS5 : Hid (∀ j, j < 6 → wc.cell? ⟨g5, j, none⟩ = some (.int .u64 (wd (a * 2 ^ n) j))) := by
      intro j hj
      rw [← wd_mod _ _ hj]
      exact (hq j hj).1
    have hZ : Row wc (w.heap.size + 1) 7 (fun _ => 0) := Row.below hbw (Row.new _ _ 73 (by first | omega | (simp <;> omega)) (seven_lt (f := fun _ => 0) rfl)) (by omega)
    have hw : Below w.heap.size w wc := (((Below.refl _ _).alloc (Nat.le_refl _) _).alloc (by first | omega | (simp <;> omega)) _).trans (hbw.mono (by omega))
    have HB : Hid (_ ∧ _ ∧ _) := ⟨q6, hZ, hw⟩
    clear q6 hq hbw hZ hw
    go_wp2
    go_loopw [16] (fun i wr => ∃ k : Nat, k ≤ 6 ∧ i = .int .i64 k ∧ (∀ j, j < 6 → wr.cell? ⟨g5, j, none⟩ = some (.int .u64 (wd (a * 2 ^ n) j))) ∧ wr.cell? ⟨g6, 0, none⟩ = some (.int .u64 (wd hi 0)) ∧ Row wr (w.heap.size + 1) 7 (fun _ => 0) ∧ Row wr wc.heap.size 7 (part (a * 2 ^ n) k) ∧ Below w.heap.size w wr) (fun i _ => 6 - (RowKit.intOf i).toNat)
    case atStart =>
      obtain ⟨q6, hZ, hw⟩ := HB.out
      refine ⟨0, by omega, rfl, fun j hj => ?_, ?_, hZ.alloc (by omega) _, Row.new _ _ 73 rfl (seven_lt (f := part (a * 2 ^ n) 0) rfl), hw.alloc hw.size _⟩
      · rw [World.cell?_alloc_past _ _ _ hg2]; exact hS5.out j hj
      · rw [World.cell?_alloc_past _ _ _ hg3]; exact q6
    case round =>
      clear HB hS5
      obtain ⟨k, hk, rfl, hA, h6, hZ, hS, hw⟩ := hrel
      by_cases hlt : k < 6
      · obtain ⟨hS1, hS2⟩ := hS k (by omega)
        have hA1 := hA k hlt
        have HM : Hid (_ ∧ _ ∧ _ ∧ _ ∧ _) := ⟨hA, h6, hZ, hS, hw⟩
        clear hA h6 hZ hS hw
        go_wp2
        go_roundw
        case rel =>
          obtain ⟨hA, h6, hZ, hS, hw⟩ := HM.out
          refine ⟨k + 1, by omega, by go_num, fun j hj => ?_, ?_, hZ.set_other _ (by simp <;> omega), (hS.set _).congr (fun j _ => part_step rfl j), hw.setCell (by simp <;> omega) _⟩
          · rw [World.cell?_setCell_other _ _ _ _ (by intro h; injection h with h1 h2; omega)]; exact hA j hj
          · rw [World.cell?_setCell_other _ _ _ _ (by intro h; injection h with h1 h2; omega)]; exact h6
        case measure => simp [RowKit.intOf] <;> omega
      · have hk6 : k = 6 := by omega
        subst hk6
        obtain ⟨f1, f2⟩ := hS 6 (by omega)
        have hS' := (hS.set (k := 6) (wd hi 0)).congr (f' := wd (a * 2 ^ n)) (fun j hj => by
          unfold upd
          by_cases e : j = 6
          · subst e; rw [if_pos rfl]; exact ht.out
          · rw [if_neg e, part_lt (by omega)])
        obtain ⟨s0, s1, s2, s3, s4, s5, s6⟩ := hS'.reads7
        have hZ' := hZ.set_other (a := ⟨wc.heap.size, 6, none⟩) (.int .u64 (wd hi 0)) (by simp <;> omega)
        obtain ⟨z0, z1, z2, z3, z4, z5, z6⟩ := hZ'.writes7
        obtain ⟨y0, y1, y2, y3, y4, y5, y6⟩ := hZ'.reads7
        have HW : Hid _ := hw.setCell (p := ⟨wc.heap.size, 6, none⟩) (by simp <;> omega) (.int .u64 (wd hi 0))
        clear hA hZ hS hS' hZ' hw
        rw [show ((6 : Nat) : Int) = 6 from rfl]
        go_wp2
        refine bodyPost_ret (v := L7 (a * 2 ^ n)) ?_ rfl ⟨rfl, ?_⟩
        · simp [results, Tryd.results37, go_sem, *]
        · exact below7 HW.out (by omega) _ _ _ _ _ _ _
end Go.Proofs.YtkkloakcphigeaaDoor
end
section
namespace Go.Proofs.YtkkloakcphigeaaDoor
open Go.RowKit Go.Lib
/-- How many bits a number needs. -/
def bl (v : Nat) : Nat := if v = 0 then 0 else Nat.log2 v + 1
theorem bl_lt (v : Nat) : v < 2 ^ bl v := by
  unfold bl
  by_cases h : v = 0
  · rw [if_pos h, h]; decide
  · rw [if_neg h]; exact (Nat.log2_lt h).1 (Nat.lt_succ_self _)
theorem bl_le (v : Nat) (h : v ≠ 0) : 2 ^ (bl v - 1) ≤ v := by
  unfold bl
  rw [if_neg h, Nat.add_sub_cancel]
  exact Nat.log2_self_le h
theorem bl_pos (v : Nat) (h : v ≠ 0) : 1 ≤ bl v := by unfold bl; rw [if_neg h]; omega
theorem bl_unique (v L : Nat) (h1 : 2 ^ L ≤ v) (h2 : v < 2 ^ (L + 1)) : bl v = L + 1 := by
  have hv : v ≠ 0 := by have := Nat.two_pow_pos L; omega
  have a1 := bl_lt v
  have a2 := bl_le v hv
  have a3 := bl_pos v hv
  have c1 : L < bl v := (Nat.pow_lt_pow_iff_right (by decide : 1 < 2)).1 (Nat.lt_of_le_of_lt h1 a1)
  have c2 : bl v - 1 < L + 1 := (Nat.pow_lt_pow_iff_right (by decide : 1 < 2)).1 (Nat.lt_of_le_of_lt a2 h2)
  omega
theorem bl_le_of (v n : Nat) (h : v < 2 ^ n) : bl v ≤ n := by
  by_cases hv : v = 0
  · subst hv; exact Nat.zero_le _
  · have a2 := bl_le v hv
    have : bl v - 1 < n := (Nat.pow_lt_pow_iff_right (by decide : 1 < 2)).1 (Nat.lt_of_le_of_lt a2 h)
    omega
theorem bl_high (v k x : Nat) (hx : x ≠ 0) (hv : v / 2 ^ k = x) : bl v = k + bl x := by
  have a1 := bl_lt x
  have a2 := bl_le x hx
  have a3 := bl_pos x hx
  have hp := Nat.two_pow_pos k
  have e : k + bl x = (k + (bl x - 1)) + 1 := by omega
  rw [e]
  apply bl_unique
  · rw [Nat.pow_add]
    calc 2 ^ k * 2 ^ (bl x - 1) ≤ 2 ^ k * x := Nat.mul_le_mul_left _ a2
      _ ≤ v := by rw [← hv]; exact Nat.mul_div_le v (2 ^ k)
  · have : v < 2 ^ k * (x + 1) := by rw [← hv]; exact Nat.lt_mul_div_succ v hp
    rw [show k + (bl x - 1) + 1 = k + bl x by omega, Nat.pow_add]
    exact Nat.lt_of_lt_of_le this (Nat.mul_le_mul_left _ a1)
theorem tab_size : len8tab.size = 256 := by decide +kernel
theorem tab_bl : ∀ n : Fin 256, (len8tab[n.val]'(by rw [tab_size]; exact n.isLt)).toNat = bl n.val := by decide +kernel
theorem tab_at (d : Nat) (hd : d < len8tab.size) : (len8tab[d]).toNat = bl d := tab_bl ⟨d, by rw [tab_size] at hd; exact hd⟩
theorem len_way0 (x : Int) (hd : x.toNat < len8tab.size) : wrap64 (wrap64 ((len8tab[x.toNat]).toNat : Int)) = (bl x.toNat : Int) := by
  rw [tab_at _ hd]
  have : bl x.toNat ≤ 8 := bl_le_of _ 8 (by rw [tab_size] at hd; exact hd)
  rw [IntWalk.wrap64_in (bl x.toNat : Int) ⟨by omega, by omega⟩, IntWalk.wrap64_in (bl x.toNat : Int) ⟨by omega, by omega⟩]
theorem len_way (k : Nat) (x d : Int) (hd : d.toNat < len8tab.size) (h0 : d.toNat ≠ 0) (h : x.toNat / 2 ^ k = d.toNat) (hk : k ≤ 56) : wrap64 ((k : Int) + wrap64 ((len8tab[d.toNat]).toNat : Int)) = (bl x.toNat : Int) := by
  rw [tab_at _ hd, bl_high x.toNat k d.toNat h0 h]
  have : bl d.toNat ≤ 8 := bl_le_of _ 8 (by rw [tab_size] at hd; exact hd)
  rw [IntWalk.wrap64_in (bl d.toNat : Int) ⟨by omega, by omega⟩, IntWalk.wrap64_in _ ⟨by omega, by omega⟩]
  rfl
set_option maxHeartbeats 1000000 in
set_option maxRecDepth 100000 in
theorem len64_any (x : Int) (w : World) (h0 : 0 ≤ x) (h1 : x ≤ 18446744073709551615) :
    Calls Tryd.prog 61 #[.int .u64 x] w fun e w' => e = .returned (.int .i64 (bl x.toNat)) ∧ w' = w := by
  have hsz : len8tab.size = 256 := tab_size
  go_enter Tryd.func61, Tryd.ntmps61
  go_wp2
  all_goals (go_ret; refine ⟨congrArg Ending.returned (congrArg (Value.int IntKind.i64) ?_), rfl⟩)
  all_goals first
    | exact len_way0 x (by omega)
    | exact len_way 56 x _ (by omega) (by omega) (by omega) (by omega)
    | exact len_way 48 x _ (by omega) (by omega) (by omega) (by omega)
    | exact len_way 40 x _ (by omega) (by omega) (by omega) (by omega)
    | exact len_way 32 x _ (by omega) (by omega) (by omega) (by omega)
    | exact len_way 24 x _ (by omega) (by omega) (by omega) (by omega)
    | exact len_way 16 x _ (by omega) (by omega) (by omega) (by omega)
    | exact len_way 8 x _ (by omega) (by omega) (by omega) (by omega)
theorem lz64_any (x : Int) (w : World) (h0 : 0 ≤ x) (h1 : x ≤ 18446744073709551615) :
    Calls Tryd.prog 80 #[.int .u64 x] w fun e w' => e = .returned (.int .i64 (64 - (bl x.toNat : Int))) ∧ w' = w := by
  have hl : bl x.toNat ≤ 64 := bl_le_of _ 64 (by omega)
  go_enter Tryd.func80, Tryd.ntmps80
  go_wp2_with (go_at_call 61; refine (len64_any x _ h0 h1).mono ?_; rintro e w' ⟨rfl, rfl⟩)
  go_ret
  exact ⟨rfl, rfl⟩
theorem bl_num (v i : Nat) (hi : i < 6) (hz : ∀ j, i < j → j < 6 → wd v j = 0) (hv : v < big) (hx : wd v i ≠ 0) : bl v = 64 * i + bl (wd v i).toNat := by
  have key : ∀ m, i + m ≤ 6 → 1 ≤ m → v < 2 ^ (64 * (i + m)) → v < 2 ^ (64 * (i + 1)) := by
    intro m
    induction m with
    | zero => intro _ h; omega
    | succ m ih =>
      intro h1 _ h3
      by_cases hm : m = 0
      · subst hm; simpa using h3
      · refine ih (by omega) (by omega) ?_
        have hw := hz (i + m) (by omega) (by omega)
        unfold wd at hw
        have hw2 : v / 2 ^ (64 * (i + m)) % 18446744073709551616 = 0 := Int.ofNat.inj hw
        rw [← Nat.add_assoc, pow_step] at h3
        have hp := pow_pos' (i + m)
        have h4 : v / 2 ^ (64 * (i + m)) < 18446744073709551616 := (Nat.div_lt_iff_lt_mul hp).2 (by rw [Nat.mul_comm]; exact h3)
        have h5 : ∀ d : Nat, d % 18446744073709551616 = 0 → d < 18446744073709551616 → d = 0 := fun d h1 h2 => by omega
        exact (Nat.div_eq_zero_iff_lt hp).1 (h5 _ hw2 h4)
  have h1 : v < 2 ^ (64 * (i + 1)) := by
    obtain ⟨n, hn, e⟩ := big_pow
    rw [e] at hv
    have := key (n - i) (by omega) (by omega)
    rw [show i + (n - i) = n by omega] at this
    exact this hv
  rw [pow_step] at h1
  have h2 : v / 2 ^ (64 * i) < 18446744073709551616 := (Nat.div_lt_iff_lt_mul (pow_pos' i)).2 (by rw [Nat.mul_comm]; exact h1)
  unfold wd at hx ⊢
  rw [Nat.mod_eq_of_lt h2] at hx ⊢
  rw [Int.toNat_natCast]
  exact bl_high v (64 * i) _ (by omega) rfl
set_option maxHeartbeats 400000 in
set_option maxRecDepth 100000 in
theorem len_any (a : Nat) (ha : a < big) (w : World) :
    Calls Tryd.prog 35 #[N a] w fun e w' => e = .returned (.int .i64 (bl a)) ∧ Below w.heap.size w w' := by
  have HA : Hid (a < big) := ha
  clear ha
  go_enter Tryd.func35, Tryd.ntmps35
  go_wp2
  go_loopw [3] (fun i wr => ∃ k : Nat, k ≤ 6 ∧ i = .int .i64 ((k : Int) - 1) ∧ (∀ j, k ≤ j → j < 6 → wd a j = 0) ∧ Row wr w.heap.size 6 (wd a) ∧ Below w.heap.size w wr) (fun i _ => (RowKit.intOf i + 1).toNat)
  case atStart => exact ⟨6, by omega, rfl, fun j h1 h2 => by omega, Row.new w _ 33 rfl (six_lt rfl), (Below.refl _ _).alloc (Nat.le_refl _) _⟩
  case round =>
    obtain ⟨k, hk, rfl, hz, hA, hw⟩ := hrel
    have HZ : Hid _ := hz
    clear hz
    by_cases h0 : 1 ≤ k
    · obtain ⟨i, rfl⟩ : ∃ i, k = i + 1 := ⟨k - 1, by omega⟩
      rw [show (((i + 1 : Nat) : Int) - 1) = (i : Int) by omega]
      have hA1 := (hA i (by omega)).1
      have hwd := wd_bd a i
      have HR : Hid (_ ∧ _) := ⟨hA, hw⟩
      clear hA hw
      by_cases hx : wd a i = 0
      · have hb : (wd a i != 0) = false := by simp [hx]
        clear hx hwd
        go_wp2
        go_roundw
        case rel =>
          obtain ⟨hA, hw⟩ := HR.out
          refine ⟨i, by omega, by go_num, fun j h1 h2 => ?_, hA, hw⟩
          by_cases e : j = i
          · subst e; simpa using hb
          · exact HZ.out j (by omega) h2
        case measure => simp [RowKit.intOf] <;> omega
      · have hb : (wd a i != 0) = true := by simp [hx]
        have hfin : Hid (bl a = 64 * i + bl (wd a i).toNat) := bl_num a i (by omega) (fun j h1 h2 => HZ.out j (by omega) h2) HA.out hx
        have hl64 : bl (wd a i).toNat ≤ 64 := bl_le_of _ 64 (by omega)
        have hc := fun w => len64_any (wd a i) w hwd.1 (by omega)
        have HC : Hid _ := hc
        clear hc hx hwd
        go_wp2_with (go_at_call 61; refine (HC.out _).mono ?_; rintro e w' ⟨rfl, rfl⟩)
        go_ret
        refine ⟨?_, HR.out.2⟩
        rw [hfin.out]
        refine congrArg Ending.returned (congrArg (Value.int IntKind.i64) ?_)
        omega
    · have hk0 : k = 0 := by omega
      subst hk0
      have hfin : Hid (bl a = 0) := by
        have h1 := HZ.out
        have : a = 0 := by
          by_cases ha : a = 0
          · exact ha
          · exfalso
            have hl := bl_le a ha
            have hp := bl_pos a ha
            have hlt : bl a ≤ 384 := by
              obtain ⟨n, hn, e⟩ := big_pow
              have := HA.out
              rw [e] at this
              have := bl_le_of a _ this
              omega
            have hz := h1 ((bl a - 1) / 64) (by omega) (by omega)
            unfold wd at hz
            have hz2 : a / 2 ^ (64 * ((bl a - 1) / 64)) % 18446744073709551616 = 0 := Int.ofNat.inj hz
            have hlt2 := bl_lt a
            have hd : a / 2 ^ (64 * ((bl a - 1) / 64)) < 18446744073709551616 := by
              rw [Nat.div_lt_iff_lt_mul (Nat.two_pow_pos _)]
              have : (18446744073709551616 : Nat) = 2 ^ 64 := by decide
              rw [this, ← Nat.pow_add]
              exact Nat.lt_of_lt_of_le hlt2 (pow_le' _ _ (by omega))
            rw [Nat.mod_eq_of_lt hd, Nat.div_eq_zero_iff_lt (Nat.two_pow_pos _)] at hz2
            have := pow_le' (64 * ((bl a - 1) / 64)) (bl a - 1) (by omega)
            omega
        show bl a = 0
        rw [this]; rfl
      rw [show (((0 : Nat) : Int) - 1) = -1 from rfl]
      go_wp2
      go_ret
      exact ⟨by rw [hfin.out]; rfl, hw⟩
end Go.Proofs.YtkkloakcphigeaaDoor
end
section
namespace Go.Proofs.YtkkloakcphigeaaDoor
open Go.RowKit
theorem qmul (q Y M : Nat) (h : q * Y ≤ M) (hY : 0 < Y) : q ≤ M / Y := (Nat.le_div_iff_mul_le hY).2 h
/-- The guess is too great: so one less is not too small. -/
theorem half_more (U y1 y0 u q r : Nat) (hq : q * y1 + r = U) (hY : 0 < y1 * 4294967296 + y0) (h : r * 4294967296 + u < q * y0) :
    (U * 4294967296 + u) / (y1 * 4294967296 + y0) + 1 ≤ q := by
  have h1 : U * 4294967296 + u < q * (y1 * 4294967296 + y0) := by
    subst hq
    have e : q * (y1 * 4294967296 + y0) = q * y1 * 4294967296 + q * y0 := by rw [Nat.mul_add, Nat.mul_assoc]
    rw [e]
    clear e
    generalize q * y1 = A
    rw [Nat.add_mul, Nat.add_assoc]
    exact Nat.add_lt_add_left h _
  exact (Nat.div_lt_iff_lt_mul hY).2 h1
theorem half_big (U y1 y0 u q : Nat) (hu : u < 4294967296) (hU : U < y1 * 4294967296 + y0) (h : 4294967296 ≤ q) :
    (U * 4294967296 + u) / (y1 * 4294967296 + y0) + 1 ≤ q := by
  have hY : 0 < y1 * 4294967296 + y0 := by omega
  have h1 : U * 4294967296 + u < 4294967296 * (y1 * 4294967296 + y0) := by omega
  have := (Nat.div_lt_iff_lt_mul hY).2 h1
  omega
theorem half_enough (U y1 y0 u q r : Nat) (hq : q * y1 + r = U) (hY : 0 < y1 * 4294967296 + y0) (h : q * y0 ≤ r * 4294967296 + u) :
    q ≤ (U * 4294967296 + u) / (y1 * 4294967296 + y0) := by
  apply qmul _ _ _ _ hY
  subst hq
  have e : q * (y1 * 4294967296 + y0) = q * y1 * 4294967296 + q * y0 := by rw [Nat.mul_add, Nat.mul_assoc]
  rw [e]
  clear e
  generalize q * y1 = A
  generalize q * y0 = B at h ⊢
  omega
theorem half_start (U y1 y0 : Nat) (hy0 : y0 < 4294967296) (hy1 : 2147483648 ≤ y1) (hU : U < y1 * 4294967296 + y0) : U / y1 ≤ 4294967297 := by
  have h1 : U < 4294967298 * y1 := by omega
  have := (Nat.div_lt_iff_lt_mul (by omega : 0 < y1)).2 h1
  omega
theorem half_ge (U y1 y0 u : Nat) (hu : u < 4294967296) (hy1 : 0 < y1) : (U * 4294967296 + u) / (y1 * 4294967296 + y0) ≤ U / y1 := by
  have h1 : (U * 4294967296 + u) / (y1 * 4294967296 + y0) ≤ (U * 4294967296 + u) / (y1 * 4294967296) := Nat.div_le_div_left (by omega) (by omega)
  have h2 : (U * 4294967296 + u) / (y1 * 4294967296) = U / y1 := by
    rw [Nat.mul_comm y1, ← Nat.div_div_eq_div_mul]
    congr 1
    omega
  omega
/-- Both halves. -/
theorem halves_join (M Y u0 : Nat) (hY : 0 < Y) : M / Y * 4294967296 + (M % Y * 4294967296 + u0) / Y = (M * 4294967296 + u0) / Y := by
  have d := Nat.div_add_mod M Y
  have e : M * 4294967296 + u0 = (M % Y * 4294967296 + u0) + Y * (M / Y * 4294967296) := by
    have e1 : M * 4294967296 = Y * (M / Y * 4294967296) + M % Y * 4294967296 := by rw [← Nat.mul_assoc, ← Nat.add_mul, d]
    rw [e1]
    generalize Y * (M / Y * 4294967296) = Z
    omega
  rw [e, Nat.add_mul_div_left _ _ hY, Nat.add_comm]
theorem norm_div (n y s : Nat) : n * 2 ^ s / (y * 2 ^ s) = n / y := Nat.mul_div_mul_right _ _ (Nat.two_pow_pos s)
end Go.Proofs.YtkkloakcphigeaaDoor
end
section
namespace Go.Proofs.YtkkloakcphigeaaDoor
open Go.RowKit
/-- What Div64 makes of its arguments first: Y the divisor, shifted; U, u1, u0 the dividend, shifted. -/
theorem norm_parts (hi lo y : Nat) (h1 : hi < y) (hy : y < 18446744073709551616) (hl : lo < 18446744073709551616) :
    ∃ Y U u1 u0 y1 y0 : Nat, Y = y * 2 ^ (64 - bl y) ∧ 9223372036854775808 ≤ Y ∧ Y < 18446744073709551616 ∧ Y = y1 * 4294967296 + y0 ∧ y0 < 4294967296 ∧ 2147483648 ≤ y1 ∧ y1 < 4294967296 ∧ u1 < 4294967296 ∧ u0 < 4294967296 ∧ U < Y ∧
      (hi * 18446744073709551616 + lo) * 2 ^ (64 - bl y) = (U * 4294967296 + u1) * 4294967296 + u0 ∧
      IntKind.u64.wrap ((y : Int) * 2 ^ (64 - bl y)) = Y ∧ bits .or .u64 (IntKind.u64.wrap ((hi : Int) * 2 ^ (64 - bl y))) ((lo : Int) / 2 ^ (64 - (64 - bl y))) = U ∧
      IntKind.u64.wrap ((lo : Int) * 2 ^ (64 - bl y)) / 4294967296 = u1 ∧ bits .and .u64 (IntKind.u64.wrap ((lo : Int) * 2 ^ (64 - bl y))) 4294967295 = u0 ∧ (Y : Int) / 4294967296 = y1 ∧ bits .and .u64 (Y : Int) 4294967295 = y0 := by
  have hb1 : bl y ≤ 64 := bl_le_of y 64 hy
  have hb2 : 1 ≤ bl y := bl_pos y (by omega)
  have hlt := bl_lt y
  have hle := bl_le y (by omega)
  generalize hs : 64 - bl y = s
  have hbs : bl y = 64 - s := by omega
  have hs2 : s < 64 := by omega
  rw [hbs] at hlt hle
  have p64 : (18446744073709551616 : Nat) = 2 ^ 64 := by decide
  have p63 : (9223372036854775808 : Nat) = 2 ^ 63 := by decide
  have hY1 : y * 2 ^ s < 18446744073709551616 := by
    rw [p64, show (64 : Nat) = (64 - s) + s by omega, Nat.pow_add]
    have : 64 - s + s - s = 64 - s := by omega
    exact Nat.mul_lt_mul_of_pos_right hlt (Nat.two_pow_pos s)
  have hY2 : 9223372036854775808 ≤ y * 2 ^ s := by
    have e : (63 : Nat) = (64 - s - 1) + s := by omega
    rw [p63, e, Nat.pow_add]
    exact Nat.mul_le_mul_right _ hle
  -- the dividend
  have hN : hi * 18446744073709551616 + lo < y * 18446744073709551616 := by omega
  generalize hNe : (hi * 18446744073709551616 + lo) * 2 ^ s = M
  have hM : M < y * 2 ^ s * 18446744073709551616 := by
    rw [← hNe, Nat.mul_right_comm]
    exact Nat.mul_lt_mul_of_pos_right hN (Nat.two_pow_pos s)
  have hU : M / 18446744073709551616 < y * 2 ^ s := (Nat.div_lt_iff_lt_mul (by decide)).2 hM
  have hlow : M % 18446744073709551616 = lo * 2 ^ s % 18446744073709551616 := by
    rw [← hNe, Nat.add_mul, Nat.mul_right_comm, Nat.mul_add_mod_self_right]
  have hUo : (hi <<< s % 2 ^ 64) ||| (lo >>> (64 - s)) = M / 18446744073709551616 := by
    have hUlt : M / 18446744073709551616 < 2 ^ 64 := by rw [← p64]; omega
    rw [← Nat.mod_eq_of_lt hUlt, ← hNe, p64, ← Nat.shiftLeft_eq _ s, ← Nat.shiftRight_eq_div_pow]
    apply Nat.eq_of_testBit_eq
    intro i
    have eor : hi * 2 ^ 64 + lo = hi <<< 64 ||| lo := by rw [← Nat.shiftLeft_eq, Nat.shiftLeft_add_eq_or_of_lt (by rw [← p64]; exact hl)]
    rw [eor]
    simp only [Nat.testBit_or, Nat.testBit_mod_two_pow, Nat.testBit_shiftLeft, Nat.testBit_shiftRight]
    by_cases h64 : i < 64
    · by_cases his : s ≤ i
      · have f1 : s ≤ 64 + i := by omega
        have f2 : 64 ≤ 64 + i - s := by omega
        have f3 : 64 + i - s - 64 = i - s := by omega
        have f4 : 64 - s + i = 64 + i - s := by omega
        have f5 : lo.testBit (64 + i - s) = false := Nat.testBit_lt_two_pow (Nat.lt_of_lt_of_le (by rw [← p64]; exact hl) (Nat.pow_le_pow_right (by decide) f2))
        simp [h64, his, f1, f2, f3, f4, f5]
      · have f1 : s ≤ 64 + i := by omega
        have f2 : ¬ 64 ≤ 64 + i - s := by omega
        have f4 : 64 - s + i = 64 + i - s := by omega
        simp [h64, his, f1, f2, f4]
    · have f5 : lo.testBit (64 - s + i) = false := Nat.testBit_lt_two_pow (Nat.lt_of_lt_of_le (by rw [← p64]; exact hl) (Nat.pow_le_pow_right (by decide) (by omega)))
      simp [h64, f5]
  refine ⟨y * 2 ^ s, M / 18446744073709551616, M % 18446744073709551616 / 4294967296, M % 18446744073709551616 % 4294967296, y * 2 ^ s / 4294967296, y * 2 ^ s % 4294967296, rfl, hY2, hY1, by omega, by omega, by omega, by omega, by omega, by omega, hU, by omega, ?_, ?_, ?_, ?_, ?_, ?_⟩
  · rw [wrap_shl, Nat.shiftLeft_eq, ← p64, Nat.mod_eq_of_lt hY1]
  · rw [wrap_shl, div_shr, bits_or_u64_nat _ _ (Nat.mod_lt _ (by decide)) (by rw [Nat.shiftRight_eq_div_pow]; exact Nat.lt_of_le_of_lt (Nat.div_le_self _ _) hl), hUo]
  · rw [wrap_shl, Nat.shiftLeft_eq, ← p64, hlow]; rfl
  · rw [wrap_shl, Nat.shiftLeft_eq, ← p64, hlow, Mul64.maskN _ (Nat.mod_lt _ (by decide))]
  · rfl
  · rw [Mul64.maskN _ hY1]
end Go.Proofs.YtkkloakcphigeaaDoor
end
section
namespace Go.Proofs.YtkkloakcphigeaaDoor
open Go.RowKit
theorem quo_wrap (U y1 q : Nat) (h : U / y1 = q) (hq : q < 18446744073709551616) : IntKind.u64.wrap ((U : Int) / (y1 : Int)) = q := by
  rw [← Int.natCast_ediv, h]; exact Mul64.wrapN q hq
theorem rem_wrap (U y1 q r : Nat) (h : q * y1 + r = U) (hU : U < 18446744073709551616) : IntKind.u64.wrap ((U : Int) - IntKind.u64.wrap ((q : Int) * (y1 : Int))) = r := by
  have h1 : q * y1 < 18446744073709551616 := by omega
  rw [← Int.natCast_mul, Mul64.wrapN _ h1]
  have : (U : Int) - ((q * y1 : Nat) : Int) = (r : Int) := by omega
  rw [this]; exact Mul64.wrapN r (by omega)
theorem hb_break (U y1 y0 u q r Y Q : Nat) (dy : Y = y1 * 4294967296 + y0) (hQ : Q = (U * 4294967296 + u) / Y) (h : (q + 1) * y1 + r = U) (hle : q + 1 ≤ 4294967297) (b3 : y0 < 4294967296) (b4 : 0 < y1) (c2 : 4294967296 ≤ r + y1) (hge : Q + 1 ≤ q + 1) : q = Q := by
  have h2 : q * y1 + (r + y1) = U := by rw [Nat.add_mul] at h; omega
  have h3 : q * y0 ≤ 4294967296 * 4294967295 := Nat.mul_le_mul (by omega) (by omega)
  have h4 := half_enough U y1 y0 u q (r + y1) h2 (by omega) (by omega)
  rw [← dy, ← hQ] at h4
  omega
theorem hb_exit (U y1 y0 u q r Y Q : Nat) (dy : Y = y1 * 4294967296 + y0) (hQ : Q = (U * 4294967296 + u) / Y) (h : q * y1 + r = U) (b4 : 0 < y1) (c : q * y0 ≤ 4294967296 * r + u) (hge : Q ≤ q) : q = Q := by
  have h4 := half_enough U y1 y0 u q r h (by omega) (by rw [Nat.mul_comm r]; exact c)
  rw [← dy, ← hQ] at h4
  omega
theorem hb_more1 (U y1 y0 u q Y Q : Nat) (dy : Y = y1 * 4294967296 + y0) (hQ : Q = (U * 4294967296 + u) / Y) (hu : u < 4294967296) (hU : U < Y) (h : 4294967296 ≤ q) : Q + 1 ≤ q := by
  have h4 := half_big U y1 y0 u q hu (by rw [← dy]; exact hU) h
  rw [← dy, ← hQ] at h4
  exact h4
theorem hb_more2 (U y1 y0 u q r Y Q : Nat) (dy : Y = y1 * 4294967296 + y0) (hQ : Q = (U * 4294967296 + u) / Y) (h : q * y1 + r = U) (b4 : 0 < y1) (c : 4294967296 * r + u < q * y0) : Q + 1 ≤ q := by
  have h4 := half_more U y1 y0 u q r h (by omega) (by rw [Nat.mul_comm r]; exact c)
  rw [← dy, ← hQ] at h4
  exact h4
theorem hb_step (U y1 q r : Nat) (h : (q + 1) * y1 + r = U) : q * y1 + (r + y1) = U := by rw [Nat.add_mul] at h; omega
theorem mul_small (q y0 : Nat) (hq : q < 4294967296) (h : y0 < 4294967296) : q * y0 < 18446744073709551616 := by
  have h3 : q * y0 ≤ 4294967295 * 4294967295 := Nat.mul_le_mul (by omega) (by omega)
  omega
set_option maxHeartbeats 2000000 in
set_option maxRecDepth 100000 in
theorem div64_hi (hi lo y : Nat) (h1 : hi < y) (hy : y < 18446744073709551616) (hl : lo < 18446744073709551616) (h0 : hi ≠ 0) (w : World) :
    Calls Tryd.prog 76 #[.int .u64 hi, .int .u64 lo, .int .u64 y] w fun e w' => ∃ rr : Int, e = .returned (.tuple #[.int .u64 ((hi * 18446744073709551616 + lo) / y : Nat), .int .u64 rr]) ∧ w' = w := by
  have hc := fun w => lz64_any y w (Int.natCast_nonneg y) (by omega)
  rw [Int.toNat_natCast] at hc
  have HC : Hid _ := hc
  have hb1 : bl y ≤ 64 := bl_le_of y 64 hy
  have hb2 : 1 ≤ bl y := bl_pos y (by omega)
  obtain ⟨Y, U, u1, u0, y1, y0, dY, b1, b2, dy, b3, b4, b5, b6, b7, b8, dM, eY, eU, eu1, eu0, ey1, ey0⟩ := norm_parts hi lo y h1 hy hl
  obtain ⟨Q1, hQ1⟩ : ∃ Q1, Q1 = (U * 4294967296 + u1) / Y := ⟨_, rfl⟩
  obtain ⟨R1, hR1⟩ : ∃ R1, R1 = (U * 4294967296 + u1) % Y := ⟨_, rfl⟩
  obtain ⟨Q0, hQ0⟩ : ∃ Q0, Q0 = (R1 * 4294967296 + u0) / Y := ⟨_, rfl⟩
  have hfin : (hi * 18446744073709551616 + lo) / y = Q1 * 4294967296 + Q0 := by
    rw [hQ0, hR1, hQ1, halves_join _ _ _ (by omega), ← dM, dY, norm_div]
  rw [hfin]
  have HN : Hid _ := And.intro b1 (And.intro b2 (And.intro dy (And.intro b8 (And.intro hQ1 (And.intro hR1 hQ0)))))
  have e1 : ((y : Int) == 0) = false := by simp; omega
  have e2 : ((hi : Int) == 0) = false := by simp; omega
  have e3 : (1 : Int) ≤ y1 := by omega
  clear hc hy hl dY dM hfin b1 b2 dy b8 hQ1 hR1 hQ0
  go_enter Tryd.func76, Tryd.ntmps76
  go_upto_block 0 with (go_at_call 80; refine (HC.out _).mono ?_; rintro e w' ⟨rfl, hw'⟩; rw [hw']; clear hw')
  go_cut [15, 16] (fun qv rv wq => qv = .int .u64 Q1 ∧ (∃ r : Int, rv = .int .u64 r) ∧ wq = w)
  case first =>
    go_wp2
    go_loop [15, 16] (fun qv rv => ∃ q r : Nat, qv = .int .u64 q ∧ rv = .int .u64 r ∧ q * y1 + r = U ∧ Q1 ≤ q ∧ q ≤ 4294967297 ∧ r < 4294967296) (fun q _ => (RowKit.intOf q).toNat)
    case atStart =>
      obtain ⟨b1, b2, dy, b8, hQ1, hR1, hQ0⟩ := HN.out
      have hs := half_start U y1 y0 b3 b4 (by omega)
      have hg := half_ge U y1 y0 u1 b6 (by omega)
      have e1 := quo_wrap U y1 (U / y1) rfl (by omega)
      have dm := Nat.div_add_mod U y1
      have e2 := rem_wrap U y1 (U / y1) (U % y1) (by rw [Nat.mul_comm]; exact dm) (by omega)
      have hm := Nat.mod_lt U (by omega : 0 < y1)
      rw [e1, e2]
      exact ⟨U / y1, U % y1, rfl, rfl, by rw [Nat.mul_comm]; exact dm, by rw [hQ1, dy]; exact hg, hs, by omega⟩
    case round =>
      obtain ⟨q, r, rfl, rfl, hqr, hge, hle, hr⟩ := hrel
      have HQ : Hid _ := hqr
      clear hqr
      by_cases c1 : 4294967296 ≤ q
      · have hmore : Q1 + 1 ≤ q := by
          obtain ⟨b1, b2, dy, b8, hQ1, hR1, hQ0⟩ := HN.out
          exact hb_more1 U y1 y0 u1 q Y Q1 dy hQ1 b6 b8 c1
        obtain ⟨p, rfl⟩ : ∃ p, q = p + 1 := ⟨q - 1, by omega⟩
        have HB : Hid (Q1 + 1 ≤ p + 1 ∧ p + 1 ≤ 4294967297 ∧ r < 4294967296) := ⟨hmore, hle, hr⟩
        have i1 : (4294967296 : Int) ≤ (p : Int) + 1 := by omega
        have i2 : (p : Int) + 1 ≤ 4294967297 := by omega
        have i3 : (r : Int) < 4294967296 := by omega
        have i4 : (y1 : Int) < 4294967296 := by omega
        clear c1 hmore hle hr hge
        rw [show ((p + 1 : Nat) : Int) = (p : Int) + 1 by omega]
        by_cases c2 : (4294967296 : Int) ≤ (r : Int) + (y1 : Int)
        · go_wp2
          go_meet
          case rel =>
            obtain ⟨b1, b2, dy, b8, hQ1, hR1, hQ0⟩ := HN.out
            exact ⟨by rw [hb_break U y1 y0 u1 p r Y Q1 dy hQ1 HQ.out HB.out.2.1 b3 (by omega) (by omega) HB.out.1], ⟨_, rfl⟩, rfl⟩
        · go_wp2
          go_round
          case rel => exact ⟨p, r + y1, rfl, by go_num, hb_step U y1 p r HQ.out, by have := HB.out.1; omega, by have := HB.out.2.1; omega, by omega⟩
          case measure => simp [RowKit.intOf] <;> omega
      · obtain ⟨P, hP⟩ : ∃ P, P = q * y0 := ⟨_, rfl⟩
        have hPb : P < 18446744073709551616 := by rw [hP]; exact mul_small q y0 (by omega) b3
        by_cases c3 : (4294967296 : Int) * (r : Int) + (u1 : Int) < (P : Int)
        · have hq1 : 1 ≤ q := by
            by_cases hq0 : q = 0
            · subst hq0; rw [Nat.zero_mul] at hP; omega
            · omega
          have hmore : Q1 + 1 ≤ q := by
            obtain ⟨b1, b2, dy, b8, hQ1, hR1, hQ0⟩ := HN.out
            exact hb_more2 U y1 y0 u1 q r Y Q1 dy hQ1 HQ.out (by omega) (by rw [← hP]; omega)
          obtain ⟨p, rfl⟩ : ∃ p, q = p + 1 := ⟨q - 1, by omega⟩
          have HB : Hid (Q1 + 1 ≤ p + 1 ∧ p + 1 ≤ 4294967297 ∧ r < 4294967296) := ⟨hmore, hle, hr⟩
          have i1 : (p : Int) + 1 < 4294967296 := by omega
          have i3 : (r : Int) < 4294967296 := by omega
          have i4 : (y1 : Int) < 4294967296 := by omega
          have i5 : (u1 : Int) < 4294967296 := by omega
          have eP : IntKind.u64.wrap (((p : Int) + 1) * (y0 : Int)) = (P : Int) := by
            rw [show ((p : Int) + 1) = ((p + 1 : Nat) : Int) by omega, ← Int.natCast_mul, ← hP]; exact Mul64.wrapN P hPb
          clear c1 hmore hle hr hge hP hPb hq1
          rw [show ((p + 1 : Nat) : Int) = (p : Int) + 1 by omega]
          by_cases c2 : (4294967296 : Int) ≤ (r : Int) + (y1 : Int)
          · go_wp2
            go_meet
            case rel =>
              obtain ⟨b1, b2, dy, b8, hQ1, hR1, hQ0⟩ := HN.out
              exact ⟨by rw [hb_break U y1 y0 u1 p r Y Q1 dy hQ1 HQ.out HB.out.2.1 b3 (by omega) (by omega) HB.out.1], ⟨_, rfl⟩, rfl⟩
          · go_wp2
            go_round
            case rel => exact ⟨p, r + y1, rfl, by go_num, hb_step U y1 p r HQ.out, by have := HB.out.1; omega, by have := HB.out.2.1; omega, by omega⟩
            case measure => simp [RowKit.intOf] <;> omega
        · have HE : Hid (q = Q1) := by
            obtain ⟨b1, b2, dy, b8, hQ1, hR1, hQ0⟩ := HN.out
            exact hb_exit U y1 y0 u1 q r Y Q1 dy hQ1 HQ.out (by omega) (by rw [← hP]; omega) hge
          have eP : IntKind.u64.wrap ((q : Int) * (y0 : Int)) = (P : Int) := by
            rw [← Int.natCast_mul, ← hP]; exact Mul64.wrapN P hPb
          obtain ⟨z, hz⟩ : ∃ z : Int, z = (q : Int) := ⟨_, rfl⟩
          obtain ⟨x, hx⟩ : ∃ x : Int, x = (P : Int) := ⟨_, rfl⟩
          obtain ⟨v, hv⟩ : ∃ v : Int, v = (r : Int) := ⟨_, rfl⟩
          have HZ : Hid (z = (Q1 : Int)) := by rw [hz, HE.out]; rfl
          have i0 : 0 ≤ z := by omega
          have i1 : z < 4294967296 := by omega
          have i2 : 0 ≤ v := by omega
          have i3 : v < 4294967296 := by omega
          have i6 : x ≤ 4294967296 * v + (u1 : Int) := by omega
          rw [← hz, ← hx] at eP
          rw [← hz, ← hv]
          clear c1 c3 hle hr hge hP hPb HE hz hx hv
          go_wp2
          go_meet
          case rel => exact ⟨by rw [HZ.out], ⟨_, rfl⟩, rfl⟩
  case rest =>
    obtain ⟨rfl, ⟨rv, rfl⟩, rfl⟩ := hcut
    have eR : IntKind.u64.wrap (IntKind.u64.wrap (IntKind.u64.wrap ((U : Int) * 4294967296) + (u1 : Int)) - IntKind.u64.wrap ((Q1 : Int) * (Y : Int))) = (R1 : Int) := by
      obtain ⟨b1, b2, dy, b8, hQ1, hR1, hQ0⟩ := HN.out
      have dm := Nat.div_add_mod (U * 4294967296 + u1) Y
      have b9 : R1 < Y := by rw [hR1]; exact Nat.mod_lt _ (by omega)
      rw [← hQ1, ← hR1, Nat.mul_comm] at dm
      rw [IntKind.wrap_u64, IntKind.wrap_u64, IntKind.wrap_u64, IntKind.wrap_u64, ← Int.natCast_mul]
      generalize Q1 * Y = Z at dm ⊢
      omega
    go_upto_block 2 with (fail)
    go_cut [18, 16] (fun qv rv wq => qv = .int .u64 Q0 ∧ (∃ r : Int, rv = .int .u64 r) ∧ wq = wc)
    case first =>
      go_wp2
      go_loop [18, 16] (fun qv rv => ∃ q r : Nat, qv = .int .u64 q ∧ rv = .int .u64 r ∧ q * y1 + r = R1 ∧ Q0 ≤ q ∧ q ≤ 4294967297 ∧ r < 4294967296) (fun q _ => (RowKit.intOf q).toNat)
      case atStart =>
        obtain ⟨b1, b2, dy, b8, hQ1, hR1, hQ0⟩ := HN.out; have b9 : R1 < Y := by rw [hR1]; exact Nat.mod_lt _ (by omega)
        have hs := half_start R1 y1 y0 b3 b4 (by omega)
        have hg := half_ge R1 y1 y0 u0 b7 (by omega)
        have e1 := quo_wrap R1 y1 (R1 / y1) rfl (by omega)
        have dm := Nat.div_add_mod R1 y1
        have e2 := rem_wrap R1 y1 (R1 / y1) (R1 % y1) (by rw [Nat.mul_comm]; exact dm) (by omega)
        have hm := Nat.mod_lt R1 (by omega : 0 < y1)
        rw [e1, e2]
        exact ⟨R1 / y1, R1 % y1, rfl, rfl, by rw [Nat.mul_comm]; exact dm, by rw [hQ0, dy]; exact hg, hs, by omega⟩
      case round =>
        obtain ⟨q, r, rfl, rfl, hqr, hge, hle, hr⟩ := hrel
        have HQ : Hid _ := hqr
        clear hqr
        by_cases c1 : 4294967296 ≤ q
        · have hmore : Q0 + 1 ≤ q := by
            obtain ⟨b1, b2, dy, b8, hQ1, hR1, hQ0⟩ := HN.out; have b9 : R1 < Y := by rw [hR1]; exact Nat.mod_lt _ (by omega)
            exact hb_more1 R1 y1 y0 u0 q Y Q0 dy hQ0 b7 b9 c1
          obtain ⟨p, rfl⟩ : ∃ p, q = p + 1 := ⟨q - 1, by omega⟩
          have HB : Hid (Q0 + 1 ≤ p + 1 ∧ p + 1 ≤ 4294967297 ∧ r < 4294967296) := ⟨hmore, hle, hr⟩
          have i1 : (4294967296 : Int) ≤ (p : Int) + 1 := by omega
          have i2 : (p : Int) + 1 ≤ 4294967297 := by omega
          have i3 : (r : Int) < 4294967296 := by omega
          have i4 : (y1 : Int) < 4294967296 := by omega
          clear c1 hmore hle hr hge
          rw [show ((p + 1 : Nat) : Int) = (p : Int) + 1 by omega]
          by_cases c2 : (4294967296 : Int) ≤ (r : Int) + (y1 : Int)
          · go_wp2
            go_meet
            case rel =>
              obtain ⟨b1, b2, dy, b8, hQ1, hR1, hQ0⟩ := HN.out; have b9 : R1 < Y := by rw [hR1]; exact Nat.mod_lt _ (by omega)
              exact ⟨by rw [hb_break R1 y1 y0 u0 p r Y Q0 dy hQ0 HQ.out HB.out.2.1 b3 (by omega) (by omega) HB.out.1], ⟨_, rfl⟩, rfl⟩
          · go_wp2
            go_round
            case rel => exact ⟨p, r + y1, rfl, by go_num, hb_step R1 y1 p r HQ.out, by have := HB.out.1; omega, by have := HB.out.2.1; omega, by omega⟩
            case measure => simp [RowKit.intOf] <;> omega
        · obtain ⟨P, hP⟩ : ∃ P, P = q * y0 := ⟨_, rfl⟩
          have hPb : P < 18446744073709551616 := by rw [hP]; exact mul_small q y0 (by omega) b3
          by_cases c3 : (4294967296 : Int) * (r : Int) + (u0 : Int) < (P : Int)
          · have hq1 : 1 ≤ q := by
              by_cases hq0 : q = 0
              · subst hq0; rw [Nat.zero_mul] at hP; omega
              · omega
            have hmore : Q0 + 1 ≤ q := by
              obtain ⟨b1, b2, dy, b8, hQ1, hR1, hQ0⟩ := HN.out; have b9 : R1 < Y := by rw [hR1]; exact Nat.mod_lt _ (by omega)
              exact hb_more2 R1 y1 y0 u0 q r Y Q0 dy hQ0 HQ.out (by omega) (by rw [← hP]; omega)
            obtain ⟨p, rfl⟩ : ∃ p, q = p + 1 := ⟨q - 1, by omega⟩
            have HB : Hid (Q0 + 1 ≤ p + 1 ∧ p + 1 ≤ 4294967297 ∧ r < 4294967296) := ⟨hmore, hle, hr⟩
            have i1 : (p : Int) + 1 < 4294967296 := by omega
            have i3 : (r : Int) < 4294967296 := by omega
            have i4 : (y1 : Int) < 4294967296 := by omega
            have i5 : (u0 : Int) < 4294967296 := by omega
            have eP : IntKind.u64.wrap (((p : Int) + 1) * (y0 : Int)) = (P : Int) := by
              rw [show ((p : Int) + 1) = ((p + 1 : Nat) : Int) by omega, ← Int.natCast_mul, ← hP]; exact Mul64.wrapN P hPb
            clear c1 hmore hle hr hge hP hPb hq1
            rw [show ((p + 1 : Nat) : Int) = (p : Int) + 1 by omega]
            by_cases c2 : (4294967296 : Int) ≤ (r : Int) + (y1 : Int)
            · go_wp2
              go_meet
              case rel =>
                obtain ⟨b1, b2, dy, b8, hQ1, hR1, hQ0⟩ := HN.out; have b9 : R1 < Y := by rw [hR1]; exact Nat.mod_lt _ (by omega)
                exact ⟨by rw [hb_break R1 y1 y0 u0 p r Y Q0 dy hQ0 HQ.out HB.out.2.1 b3 (by omega) (by omega) HB.out.1], ⟨_, rfl⟩, rfl⟩
            · go_wp2
              go_round
              case rel => exact ⟨p, r + y1, rfl, by go_num, hb_step R1 y1 p r HQ.out, by have := HB.out.1; omega, by have := HB.out.2.1; omega, by omega⟩
              case measure => simp [RowKit.intOf] <;> omega
          · have HE : Hid (q = Q0) := by
              obtain ⟨b1, b2, dy, b8, hQ1, hR1, hQ0⟩ := HN.out; have b9 : R1 < Y := by rw [hR1]; exact Nat.mod_lt _ (by omega)
              exact hb_exit R1 y1 y0 u0 q r Y Q0 dy hQ0 HQ.out (by omega) (by rw [← hP]; omega) hge
            have eP : IntKind.u64.wrap ((q : Int) * (y0 : Int)) = (P : Int) := by
              rw [← Int.natCast_mul, ← hP]; exact Mul64.wrapN P hPb
            obtain ⟨z, hz⟩ : ∃ z : Int, z = (q : Int) := ⟨_, rfl⟩
            obtain ⟨x, hx⟩ : ∃ x : Int, x = (P : Int) := ⟨_, rfl⟩
            obtain ⟨v, hv⟩ : ∃ v : Int, v = (r : Int) := ⟨_, rfl⟩
            have HZ : Hid (z = (Q0 : Int)) := by rw [hz, HE.out]; rfl
            have i0 : 0 ≤ z := by omega
            have i1 : z < 4294967296 := by omega
            have i2 : 0 ≤ v := by omega
            have i3 : v < 4294967296 := by omega
            have i6 : x ≤ 4294967296 * v + (u0 : Int) := by omega
            rw [← hz, ← hx] at eP
            rw [← hz, ← hv]
            clear c1 c3 hle hr hge hP hPb HE hz hx hv
            go_wp2
            go_meet
            case rel => exact ⟨by rw [HZ.out], ⟨_, rfl⟩, rfl⟩
    case rest =>
      obtain ⟨rfl, ⟨rv2, rfl⟩, rfl⟩ := hcut
      have eQ : IntKind.u64.wrap (IntKind.u64.wrap ((Q1 : Int) * 4294967296) + (Q0 : Int)) = ((Q1 * 4294967296 + Q0 : Nat) : Int) := by
        obtain ⟨b1, b2, dy, b8, hQ1, hR1, hQ0⟩ := HN.out
        have b9 : R1 < Y := by rw [hR1]; exact Nat.mod_lt _ (by omega)
        have q1 : Q1 < 4294967296 := by rw [hQ1]; exact (Nat.div_lt_iff_lt_mul (by omega)).2 (by omega)
        have q0 : Q0 < 4294967296 := by rw [hQ0]; exact (Nat.div_lt_iff_lt_mul (by omega)).2 (by omega)
        rw [IntKind.wrap_u64, IntKind.wrap_u64]
        omega
      go_wp2
      rw [show ((Q1 : Int) * 4294967296 + (Q0 : Int)) = ((Q1 * 4294967296 + Q0 : Nat) : Int) by omega]
      go_ret2
      exact ⟨_, rfl, rfl⟩
end Go.Proofs.YtkkloakcphigeaaDoor
end
section
namespace Go.Proofs.YtkkloakcphigeaaDoor
open Go.RowKit
set_option maxHeartbeats 400000 in
theorem div64_zero (lo y : Nat) (h1 : 0 < y) (hl : lo < 18446744073709551616) (w : World) :
    Calls Tryd.prog 76 #[.int .u64 0, .int .u64 lo, .int .u64 y] w fun e w' => ∃ rr : Int, e = .returned (.tuple #[.int .u64 (lo / y : Nat), .int .u64 rr]) ∧ ∃ n, w' = w.drewN n := by
  have e1 : ((y : Int) == 0) = false := by simp; omega
  have e3 : (1 : Int) ≤ y := by omega
  have eq : Hid _ := quo_wrap lo y (lo / y) rfl (Nat.lt_of_le_of_lt (Nat.div_le_self _ _) hl)
  clear hl
  go_enter Tryd.func76, Tryd.ntmps76
  go_wp2
  go_quiet (fail)
  go_wp2
  rw [eq.out]
  go_ret2
  exact ⟨_, rfl, _, rfl⟩
theorem div64_any (hi lo y : Nat) (h1 : hi < y) (hy : y < 18446744073709551616) (hl : lo < 18446744073709551616) (w : World) :
    Calls Tryd.prog 76 #[.int .u64 hi, .int .u64 lo, .int .u64 y] w fun e w' => ∃ rr : Int, e = .returned (.tuple #[.int .u64 ((hi * 18446744073709551616 + lo) / y : Nat), .int .u64 rr]) ∧ ∃ n, w' = w.drewN n := by
  by_cases h0 : hi = 0
  · subst h0
    rw [Nat.zero_mul, Nat.zero_add]
    exact div64_zero lo y (by omega) hl w
  · refine (div64_hi hi lo y h1 hy hl h0 w).mono ?_
    rintro e w' ⟨rr, rfl, hw⟩
    exact ⟨rr, rfl, 0, hw⟩
/-- What guess tells. -/
def gs (h l t : Nat) : Nat := if t ≤ h then 18446744073709551615 else (h * 18446744073709551616 + l) / t
set_option maxHeartbeats 400000 in
theorem guess_any (h l t : Nat) (hl : l < 18446744073709551616) (ht : t < 18446744073709551616) (w : World) :
    Calls Tryd.prog 64 #[.int .u64 h, .int .u64 l, .int .u64 t] w fun e w' => e = .returned (.int .u64 (gs h l t : Nat)) ∧ ∃ n, w' = w.drewN n := by
  unfold gs
  by_cases c : t ≤ h
  · rw [if_pos c]
    clear hl ht
    go_enter Tryd.func64, Tryd.ntmps64
    go_wp2
    go_ret
    exact ⟨rfl, 0, rfl⟩
  · rw [if_neg c]
    have hc := fun w => div64_any h l t (by omega) ht hl w
    generalize (h * 18446744073709551616 + l) / t = q at hc ⊢
    have HC : Hid _ := hc
    clear hc hl ht
    go_enter Tryd.func64, Tryd.ntmps64
    go_wp2_with (go_at_call 76; refine (HC.out _).mono ?_; rintro e w' ⟨rr, rfl, hb⟩)
    go_ret
    exact ⟨rfl, hb⟩
theorem gs_lt (h l t : Nat) (hh : h < t) (hl : l < 18446744073709551616) : gs h l t < 18446744073709551616 := by
  unfold gs
  rw [if_neg (by omega)]
  rw [Nat.div_lt_iff_lt_mul (by omega)]
  omega
theorem gs_bd (h l t : Nat) (hl : l < 18446744073709551616) : gs h l t < 18446744073709551616 := by
  by_cases c : t ≤ h
  · unfold gs; rw [if_pos c]; omega
  · exact gs_lt h l t (by omega) hl
end Go.Proofs.YtkkloakcphigeaaDoor
end
section
namespace Go.Proofs.YtkkloakcphigeaaDoor
open Go.RowKit
theorem Row.store7 {w : World} {g : Nat} {f0 : Nat → Int} (h : Row w g 7 f0) (f : Nat → Int) : Row (((((((w.setCell ⟨g, 0, none⟩ (.int .u64 (f 0))).setCell ⟨g, 1, none⟩ (.int .u64 (f 1))).setCell ⟨g, 2, none⟩ (.int .u64 (f 2))).setCell ⟨g, 3, none⟩ (.int .u64 (f 3))).setCell ⟨g, 4, none⟩ (.int .u64 (f 4))).setCell ⟨g, 5, none⟩ (.int .u64 (f 5))).setCell ⟨g, 6, none⟩ (.int .u64 (f 6))) g 7 f := by
  refine (((((((h.set (k := 0) (f 0)).set (k := 1) (f 1)).set (k := 2) (f 2)).set (k := 3) (f 3)).set (k := 4) (f 4)).set (k := 5) (f 5)).set (k := 6) (f 6)).congr ?_
  intro j hj
  match j, hj with
  | 0, _ | 1, _ | 2, _ | 3, _ | 4, _ | 5, _ | 6, _ => simp [upd]
theorem Row.past7 {w : World} {g g' n : Nat} {f : Nat → Int} (h : Row w g' n f) (hne : g ≠ g') (v0 v1 v2 v3 v4 v5 v6 : Value) : Row (((((((w.setCell ⟨g, 0, none⟩ v0).setCell ⟨g, 1, none⟩ v1).setCell ⟨g, 2, none⟩ v2).setCell ⟨g, 3, none⟩ v3).setCell ⟨g, 4, none⟩ v4).setCell ⟨g, 5, none⟩ v5).setCell ⟨g, 6, none⟩ v6) g' n f :=
  ((((((h.set_other (a := ⟨g, 0, none⟩) _ hne).set_other (a := ⟨g, 1, none⟩) _ hne).set_other (a := ⟨g, 2, none⟩) _ hne).set_other (a := ⟨g, 3, none⟩) _ hne).set_other (a := ⟨g, 4, none⟩) _ hne).set_other (a := ⟨g, 5, none⟩) _ hne).set_other (a := ⟨g, 6, none⟩) _ hne
theorem size7 (w : World) (g : Nat) (v0 v1 v2 v3 v4 v5 v6 : Value) : (((((((w.setCell ⟨g, 0, none⟩ v0).setCell ⟨g, 1, none⟩ v1).setCell ⟨g, 2, none⟩ v2).setCell ⟨g, 3, none⟩ v3).setCell ⟨g, 4, none⟩ v4).setCell ⟨g, 5, none⟩ v5).setCell ⟨g, 6, none⟩ v6).heap.size = w.heap.size := by simp [World.setCell]
/-- The guess is not too small. -/
theorem gs_ge (X d s : Nat) (hd0 : 0 < d) (hd : d < 2 ^ (64 * (s + 1))) (hX : X < d * 18446744073709551616) : X / d ≤ gs (wn X (s + 1)) (wn X s) (wn d s) := by
  unfold gs
  have hq : X / d < 18446744073709551616 := (Nat.div_lt_iff_lt_mul hd0).2 (by rw [Nat.mul_comm]; exact hX)
  by_cases c : wn d s ≤ wn X (s + 1)
  · rw [if_pos c]; omega
  · rw [if_neg c]
    rw [Nat.le_div_iff_mul_le (by omega)]
    have hp := pow_pos' s
    -- the divisor's top word
    have td : wn d s = d / 2 ^ (64 * s) := by
      unfold wn
      rw [Nat.mod_eq_of_lt]
      rw [Nat.div_lt_iff_lt_mul hp, Nat.mul_comm, ← pow_step]; exact hd
    have tX : wn X (s + 1) * 18446744073709551616 + wn X s = X / 2 ^ (64 * s) := by
      unfold wn
      rw [pow_step, ← Nat.div_div_eq_div_mul]
      have hlt : X / 2 ^ (64 * s) / 18446744073709551616 < 18446744073709551616 := by
        rw [Nat.div_div_eq_div_mul, ← pow_step, Nat.div_lt_iff_lt_mul (pow_pos' _)]
        calc X < d * 18446744073709551616 := hX
          _ ≤ 2 ^ (64 * (s + 1)) * 18446744073709551616 := Nat.mul_le_mul_right _ (Nat.le_of_lt hd)
          _ = 18446744073709551616 * 2 ^ (64 * (s + 1)) := Nat.mul_comm _ _
      rw [Nat.mod_eq_of_lt hlt]
      omega
    rw [tX, td, Nat.le_div_iff_mul_le hp]
    calc X / d * (d / 2 ^ (64 * s)) * 2 ^ (64 * s) = X / d * (d / 2 ^ (64 * s) * 2 ^ (64 * s)) := Nat.mul_assoc _ _ _
      _ ≤ X / d * d := Nat.mul_le_mul_left _ (Nat.div_mul_le_self _ _)
      _ ≤ X := Nat.div_mul_le_self _ _
/-- What a step of mending does. -/
theorem mend (X d o M : Nat) (hX : X < (o + 1) * d) (ho : (o + 1) * d ≤ M) :
    (X + M - (o + 1) * d) % M = X + M - (o + 1) * d ∧ (X + M - (o + 1) * d + d) % M = (X + M - o * d) % M ∧ decide (M ≤ X + M - (o + 1) * d + d) = decide (o * d ≤ X) := by
  rw [Nat.add_mul, Nat.one_mul] at hX ho ⊢
  refine ⟨Nat.mod_eq_of_lt (by omega), by congr 1; omega, ?_⟩
  by_cases c : o * d ≤ X
  · rw [decide_eq_true c]; exact decide_eq_true (by omega)
  · rw [decide_eq_false c]; exact decide_eq_false (by omega)
theorem mended (X d o M : Nat) (hd0 : 0 < d) (hle : o * d ≤ X) (hge : X / d ≤ o) (hXM : X < M) : o = X / d ∧ (X + M - o * d) % M = X % d := by
  have h1 : o ≤ X / d := (Nat.le_div_iff_mul_le hd0).2 hle
  have h2 : o = X / d := by omega
  refine ⟨h2, ?_⟩
  have e : X + M - o * d = (X - o * d) + M := by omega
  rw [e, Nat.add_mod_right, Nat.mod_eq_of_lt (by omega)]
  have := Nat.div_add_mod X d
  rw [Nat.mul_comm, ← h2] at this
  omega
end Go.Proofs.YtkkloakcphigeaaDoor
end
section
namespace Go.Proofs.YtkkloakcphigeaaDoor
open Go.RowKit
abbrev O7 (v : Nat) : Obj := .cells #[.int .u64 (wd v 0), .int .u64 (wd v 1), .int .u64 (wd v 2), .int .u64 (wd v 3), .int .u64 (wd v 4), .int .u64 (wd v 5), .int .u64 (wd v 6)] 73
abbrev Z7 : Obj := .cells #[.int .u64 0, .int .u64 0, .int .u64 0, .int .u64 0, .int .u64 0, .int .u64 0, .int .u64 0] 73
set_option maxHeartbeats 2000000 in
set_option maxRecDepth 100000 in
theorem divideStep_any (r d i s : Nat) (hd0 : 0 < d) (hd : d < 2 ^ (64 * (s + 1))) (hr : r / 2 ^ (64 * i) < d * 18446744073709551616) (his : i + s ≤ 5) (w : World) :
    Calls Tryd.prog 38 #[L7 r, N d, .int .i64 i, .int .i64 ((s : Int) + 1)] w fun e w' =>
      e = .returned (.tuple #[.int .u64 (r / 2 ^ (64 * i) / d : Nat), L7 (glue r i (r / 2 ^ (64 * i) % d))]) ∧ Below w.heap.size w w' := by
  obtain ⟨X, hX⟩ : ∃ X, X = r / 2 ^ (64 * i) := ⟨_, rfl⟩
  obtain ⟨M, hM⟩ : ∃ M, M = 2 ^ (64 * (s + 1 + 1)) := ⟨_, rfl⟩
  have hdM : d * 18446744073709551616 < M := by
    rw [hM, pow_step]
    exact Nat.mul_lt_mul_of_pos_right hd (by decide)
  have hrr : r < 2 ^ (64 * (i + (s + 1 + 1))) := by
    rw [← glue_self r i]
    exact glue_lt r i (s + 1 + 1) _ (by rw [← hM]; omega)
  -- the guess
  obtain ⟨o, ho⟩ : ∃ o, o = gs (wn X (s + 1)) (wn X s) (wn d s) := ⟨_, rfl⟩
  have ho2 : o < 18446744073709551616 := by rw [ho]; exact gs_bd _ _ _ (wn_lt _ _)
  have ho1 : X / d ≤ o := by rw [ho]; exact gs_ge X d s hd0 hd (by rw [hX]; exact hr)
  have hg := fun w => guess_any (wn X (s + 1)) (wn X s) (wn d s) (wn_lt _ _) (wn_lt _ _) w
  rw [← ho, ← wd_wn, ← wd_wn, ← wd_wn, hX, ← wd_off, ← wd_off] at hg
  have HG : Hid _ := hg
  -- taking o times
  have ht := fun w => takeTimes_any r d o i (s + 1) hrr hd ho2 (by omega) (by omega) w
  rw [← hX, ← hM, show (((s + 1 : Nat) : Int)) = (s : Int) + 1 by omega] at ht
  have HT : Hid _ := ht
  have hp := fun (z : Nat) (hz : z < M) w => putBack_any (glue r i z) d i (s + 1) (glue_lt r i (s + 1 + 1) z (by rw [← hM]; exact hz)) hd (by omega) (by omega) w
  rw [← hM, show (((s + 1 : Nat) : Int)) = (s : Int) + 1 by omega] at hp
  have HP : Hid _ := hp
  have HX : Hid (X < d * 18446744073709551616 ∧ 0 < d ∧ d * 18446744073709551616 < M ∧ X / d ≤ o ∧ o < 18446744073709551616) := ⟨by rw [hX]; exact hr, hd0, hdM, ho1, ho2⟩
  rw [← hX]
  clear hX hM hdM hrr ho ho1 ho2 hg ht hp hd0 hd hr
  go_enter Tryd.func38, Tryd.ntmps38
  go_wp2
  have f1 : Row (((w.alloc (O7 r)).alloc (O6 d)).alloc Z7) w.heap.size 7 (wd r) := ((Row.new w _ 73 rfl (seven_lt (f := wd r) rfl)).alloc (by first | omega | (simp <;> omega)) _).alloc (by first | omega | (simp <;> omega)) _
  have f2 : Row (((w.alloc (O7 r)).alloc (O6 d)).alloc Z7) (w.heap.size + 1) 6 (wd d) := (Row.new _ _ 33 (by first | omega | (simp <;> omega)) (six_lt rfl)).alloc (by first | omega | (simp <;> omega)) _
  have f3 : Row (((w.alloc (O7 r)).alloc (O6 d)).alloc Z7) (w.heap.size + 1 + 1) 7 (fun _ => 0) := Row.new _ _ 73 (by first | omega | (simp <;> omega)) (seven_lt (f := fun _ => 0) rfl)
  have f4 : Below w.heap.size w (((w.alloc (O7 r)).alloc (O6 d)).alloc Z7) := (((Below.refl _ _).alloc (Nat.le_refl _) _).alloc (by first | omega | (simp <;> omega)) _).alloc (by first | omega | (simp <;> omega)) _
  have f5 : w.heap.size + 1 + 1 < (((w.alloc (O7 r)).alloc (O6 d)).alloc Z7).heap.size := by simp
  generalize ((w.alloc (O7 r)).alloc (O6 d)).alloc Z7 = wx at f1 f2 f3 f4 f5 ⊢
  have k1 := (f1 (i + (s + 1)) (by omega)).1
  have k2 := (f1 (i + s) (by omega)).1
  have k3 := (f2 s (by omega)).1
  have g1 : (0 : Int) ≤ (i : Int) + ((s : Int) + 1) := by omega
  have g2 : (i : Int) + ((s : Int) + 1) < 7 := by omega
  have e1 : IntKind.i64.wrap ((i : Int) + ((s : Int) + 1)) = (i : Int) + ((s : Int) + 1) := by rw [IntKind.wrap_i64]; omega
  have e2 : IntKind.i64.wrap ((i : Int) + ((s : Int) + 1) - 1) = (i : Int) + (s : Int) := by rw [IntKind.wrap_i64]; omega
  have e3 : IntKind.i64.wrap (s : Int) = (s : Int) := by rw [IntKind.wrap_i64]; omega
  have t1 : ((i : Int) + ((s : Int) + 1)).toNat = i + (s + 1) := by omega
  have t2 : ((i : Int) + (s : Int)).toNat = i + s := by omega
  have g3 : (0 : Int) ≤ (i : Int) + (s : Int) := by omega
  have g4 : (i : Int) + (s : Int) < 7 := by omega
  have g5 : (s : Int) < 6 := by omega
  have HF : Hid (_ ∧ _ ∧ _ ∧ _) := ⟨f1, f2, f3, f4⟩
  obtain ⟨a0, a1, a2, a3, a4, a5, a6⟩ := f1.reads7
  obtain ⟨b0, b1, b2, b3, b4, b5⟩ := f2.reads
  obtain ⟨w0, w1, w2, w3, w4, w5, w6⟩ := f1.writes7
  clear f1 f2 f3 f4
  go_quiet ((go_at_call 64; exact Calls.quiet_of (HG.out _)))
  clear k1 k2 k3 g1 g2 g3 g4 g5 e1 e2 e3 t1 t2
  go_wp2_with fail
  refine (HT.out _).mono ?_
  rintro e wt ⟨rfl, hbt⟩
  have q1 : Row wt w.heap.size 7 (wd r) := Row.below hbt HF.out.1 (show w.heap.size < wx.heap.size by omega)
  have q2 : Row wt (w.heap.size + 1) 6 (wd d) := Row.below hbt HF.out.2.1 (show w.heap.size + 1 < wx.heap.size by omega)
  have q3 : Row wt (w.heap.size + 1 + 1) 7 (fun _ => 0) := Row.below hbt HF.out.2.2.1 (show w.heap.size + 1 + 1 < wx.heap.size by omega)
  have q4 : Below w.heap.size w wt := (below_drewN HF.out.2.2.2 nq).trans (hbt.mono (show w.heap.size ≤ wx.heap.size by omega))
  have q5 : w.heap.size + 1 + 1 < wt.heap.size := Nat.lt_of_lt_of_le f5 hbt.size
  clear hbt a0 a1 a2 a3 a4 a5 a6 b0 b1 b2 b3 b4 b5 w0 w1 w2 w3 w4 w5 w6 f5 HF
  obtain ⟨a0, a1, a2, a3, a4, a5, a6⟩ := q1.reads7
  obtain ⟨w0, w1, w2, w3, w4, w5, w6⟩ := q1.writes7
  have HF : Hid (_ ∧ _ ∧ _ ∧ _ ∧ _) := ⟨q1, q2, q3, q4, q5⟩
  clear q1 q2 q3 q4 q5
  go_wp2
  go_loopw [10, 11] (fun ov bv wr => ∃ o' : Nat, ov = .int .u64 o' ∧ bv = .bool (decide (X < o' * d)) ∧ X / d ≤ o' ∧ o' ≤ o ∧ Row wr w.heap.size 7 (wd (glue r i ((X + M - o' * d) % M))) ∧ Row wr (w.heap.size + 1) 6 (wd d) ∧ Row wr (w.heap.size + 1 + 1) 7 (fun _ => 0) ∧ Below w.heap.size w wr ∧ w.heap.size + 1 + 1 < wr.heap.size) (fun o' _ _ => (RowKit.intOf o').toNat)
  case atStart =>
    obtain ⟨q1, q2, q3, q4, q5⟩ := HF.out
    exact ⟨o, rfl, rfl, HX.out.2.2.2.1, Nat.le_refl _, q1.store7 (wd (glue r i ((X + M - o * d) % M))), q2.past7 (by omega) _ _ _ _ _ _ _, q3.past7 (by omega) _ _ _ _ _ _ _, below7 q4 (by omega) _ _ _ _ _ _ _, by rw [size7]; exact q5⟩
  case round =>
    clear a0 a1 a2 a3 a4 a5 a6 w0 w1 w2 w3 w4 w5 w6 HF
    obtain ⟨o', rfl, rfl, hge, hle, q1, q2, q3, q4, q5⟩ := hrel
    obtain ⟨a0, a1, a2, a3, a4, a5, a6⟩ := q1.reads7
    obtain ⟨b0, b1, b2, b3, b4, b5⟩ := q2.reads
    by_cases c : X < o' * d
    · have hc : decide (X < o' * d) = true := decide_eq_true c
      obtain ⟨p, rfl⟩ : ∃ p, o' = p + 1 := ⟨o' - 1, by
        have : o' ≠ 0 := by intro h; subst h; rw [Nat.zero_mul] at c; omega
        omega⟩
      obtain ⟨h1, h2, h3, h4, h5⟩ := HX.out
      have hoM : (p + 1) * d ≤ M := by
        have : (p + 1) * d ≤ 18446744073709551616 * d := Nat.mul_le_mul_right d (by omega)
        rw [Nat.mul_comm d] at h3
        omega
      obtain ⟨m1, m2, m3⟩ := mend X d p M c hoM
      have hZ : (X + M - (p + 1) * d) % M < M := Nat.mod_lt _ (by omega)
      have hP := fun w => HP.out _ hZ w
      rw [glue_div, glue_glue] at hP
      have hP2 : Hid (∀ (wz : World), Calls Tryd.prog 66 #[L7 (glue r i ((X + M - (p + 1) * d) % M)), N d, .int .i64 i, .int .i64 ((s : Int) + 1)] wz fun e w' => e = .returned (.tuple #[L7 (glue r i ((X + M - p * d) % M)), .bool (decide (p * d ≤ X))]) ∧ Below wz.heap.size wz w') := by
        intro wz
        have := hP wz
        rw [m1] at this ⊢
        rw [m2, m3] at this
        exact this
      have hp1 : Hid (X / d ≤ p) := by
        have : X / d < p + 1 := (Nat.div_lt_iff_lt_mul h2).2 c
        show X / d ≤ p
        omega
      have HB : Hid (p + 1 ≤ o) := hle
      have HF : Hid (_ ∧ _ ∧ _ ∧ _ ∧ _) := ⟨q1, q2, q3, q4, q5⟩
      have hneg : (!decide (p * d ≤ X)) = decide (X < p * d) := by
        by_cases hx : p * d ≤ X
        · rw [decide_eq_true hx, decide_eq_false (by omega)]; rfl
        · rw [decide_eq_false hx, decide_eq_true (by omega)]; rfl
      have HN : Hid _ := hneg
      have p64 : (p : Int) < 18446744073709551615 := by omega
      have ewp : IntKind.u64.wrap (p : Int) = (p : Int) := Mul64.wrapN p (by omega)
      clear h1 h2 h3 h4 h5 hoM m1 m2 m3 hZ hP hge hle q1 q2 q3 q4 q5 hneg p64 c
      rw [show ((p + 1 : Nat) : Int) = (p : Int) + 1 by omega, hc]
      clear hc
      generalize glue r i ((X + M - (p + 1) * d) % M) = R at a0 a1 a2 a3 a4 a5 a6 hP2 HF ⊢
      go_wp2_with fail
      refine (hP2.out _).mono ?_
      rintro e wt2 ⟨rfl, hbt⟩
      obtain ⟨q1, q2, q3, q4, q5⟩ := HF.out
      have r1 := Row.below hbt q1 (by omega)
      have r2 := Row.below hbt q2 (by omega)
      have r3 := Row.below hbt q3 (by omega)
      have r4 := q4.trans (hbt.mono (by omega))
      have r5 : w.heap.size + 1 + 1 < wt2.heap.size := Nat.lt_of_lt_of_le q5 hbt.size
      clear hbt a0 a1 a2 a3 a4 a5 a6 b0 b1 b2 b3 b4 b5 q1 q2 q3 q4 q5 HF
      obtain ⟨a0, a1, a2, a3, a4, a5, a6⟩ := r1.reads7
      obtain ⟨w0, w1, w2, w3, w4, w5, w6⟩ := r1.writes7
      have HF : Hid (_ ∧ _ ∧ _ ∧ _ ∧ _) := ⟨r1, r2, r3, r4, r5⟩
      clear r1 r2 r3 r4 r5
      go_wp2
      go_roundw
      case rel =>
        obtain ⟨r1, r2, r3, r4, r5⟩ := HF.out
        exact ⟨p, rfl, by rw [HN.out], hp1.out, by have := HB.out; omega, r1.store7 (wd (glue r i ((X + M - p * d) % M))), r2.past7 (by omega) _ _ _ _ _ _ _, r3.past7 (by omega) _ _ _ _ _ _ _, below7 r4 (by omega) _ _ _ _ _ _ _, by rw [size7]; exact r5⟩
      case measure => simp [RowKit.intOf] <;> omega
    · have hc : decide (X < o' * d) = false := decide_eq_false c
      obtain ⟨h1, h2, h3, h4, h5⟩ := HX.out
      obtain ⟨m1, m2⟩ := mended X d o' M h2 (by omega) hge (by omega)
      rw [m2] at a0 a1 a2 a3 a4 a5 a6
      rw [hc, m1]
      obtain ⟨z0, z1, z2, z3, z4, z5, z6⟩ := q3.writes7
      obtain ⟨y0, y1, y2, y3, y4, y5, y6⟩ := q3.reads7
      have HW : Hid _ := q4
      clear h1 h2 h3 h4 h5 m1 m2 hge hle q1 q2 q3 q4 q5 c hc
      generalize hQ : X / d = Q
      generalize hR : glue r i (X % d) = R at a0 a1 a2 a3 a4 a5 a6 ⊢
      have HQ : Hid _ := hQ
      have HR : Hid _ := hR
      clear hQ hR
      go_wp2
      go_region
      go_wp2
      refine bodyPost_ret (v := .tuple #[.int .u64 (Q : Nat), L7 R]) ?_ rfl ⟨by rw [HQ.out, HR.out], ?_⟩
      · simp [results, Tryd.results38, go_sem, *]
      · exact (below7 HW.out (by omega) _ _ _ _ _ _ _).drew
end Go.Proofs.YtkkloakcphigeaaDoor
end
section
namespace Go.Proofs.YtkkloakcphigeaaDoor
open Go.RowKit Go.Lib
set_option maxHeartbeats 400000 in
set_option maxRecDepth 100000 in
theorem add_any (a b : Nat) (ha : a < big) (hb : b < big) (w : World) :
    Calls Tryd.prog 55 #[N a, N b] w fun e w' => e = .returned (.tuple #[N ((a + b) % big), .bool (decide (big ≤ a + b))]) ∧ Below w.heap.size w w' := by
  have hend := cry_end a b ha hb
  have He : Hid ((cry a b 6 != 0) = decide (big ≤ a + b)) := hend
  clear hend ha hb
  go_enter Tryd.func55, Tryd.ntmps55
  go_wp2
  go_loopw [7, 9] (fun c i wr => ∃ k : Nat, k ≤ 6 ∧ i = .int .i64 k ∧ c = .int .u64 (cry a b k) ∧ Row wr w.heap.size 6 (wd a) ∧ Row wr (w.heap.size + 1) 6 (wd b) ∧ Row wr (w.heap.size + 1 + 1) 6 (fun _ => 0) ∧ Row wr (w.heap.size + 1 + 1 + 1) 6 (part (a + b) k) ∧ Below w.heap.size w wr) (fun _ i _ => 6 - (RowKit.intOf i).toNat)
  case atStart =>
    refine ⟨0, by omega, rfl, by simp [cry], ?_, ?_, ?_, ?_, ?_⟩
    · exact (((Row.new w _ 33 rfl (six_lt rfl)).alloc (by simp <;> omega) _).alloc (by simp <;> omega) _).alloc (by simp <;> omega) _
    · exact ((Row.new _ _ 33 (by simp <;> omega) (six_lt rfl)).alloc (by simp <;> omega) _).alloc (by simp <;> omega) _
    · exact (Row.new _ _ 33 (by simp <;> omega) (six_lt (f := fun _ => 0) rfl)).alloc (by simp <;> omega) _
    · exact Row.new _ _ 33 (by simp <;> omega) (six_lt (f := part (a + b) 0) rfl)
    · exact ((((Below.refl _ _).alloc (Nat.le_refl _) _).alloc (by simp <;> omega) _).alloc (by simp <;> omega) _).alloc (by simp <;> omega) _
  case round =>
    obtain ⟨k, hk, rfl, rfl, hA, hB, hZ, hS, hw⟩ := hrel
    by_cases hlt : k < 6
    · obtain ⟨hc0, hc1⟩ := cry_bd a b k
      have ha0 := (wd_bd a k).1
      have hb0 := (wd_bd b k).1
      have hA1 := (hA k hlt).1
      have hB1 := (hB k hlt).1
      obtain ⟨hS1, hS2⟩ := hS k hlt
      have h64 := fun w => add64' (wd a k) (wd b k) (cry a b k) ha0 hb0 hc0 hc1 w
      have r1 : Row wr w.heap.size 6 (wd a) ∧ Row wr (w.heap.size + 1) 6 (wd b) ∧ Row wr (w.heap.size + 1 + 1) 6 (fun _ => 0) ∧ Row wr (w.heap.size + 1 + 1 + 1) 6 (part (a + b) k) ∧ Below w.heap.size w wr := ⟨hA, hB, hZ, hS, hw⟩
      have R1 : Hid _ := r1
      clear hA hB hZ hS hw r1
      go_wp2
      go_region
      go_wp2
      go_roundw
      case rel =>
        obtain ⟨hA, hB, hZ, hS, hw⟩ := R1.out
        exact ⟨k + 1, by omega, by go_num, by rw [add_cry], (hA.set_other _ (by simp <;> omega)).drew, (hB.set_other _ (by simp <;> omega)).drew, (hZ.set_other _ (by simp <;> omega)).drew, ((hS.set _).congr (fun j _ => part_step (add_word a b k) j)).drew, (hw.setCell (by simp <;> omega) _).drew⟩
      case measure => simp [RowKit.intOf]; omega
    · have hk6 : k = 6 := by omega
      subst hk6
      obtain ⟨s0, s1, s2, s3, s4, s5⟩ := (hS.congr (f' := wd ((a + b) % big)) (fun j hj => by rw [part_lt hj, wd_mod _ _ hj])).reads
      obtain ⟨z0, z1, z2, z3, z4, z5⟩ := hZ.writes
      obtain ⟨y0, y1, y2, y3, y4, y5⟩ := hZ.reads
      clear hA hB hZ hS
      go_wp2
      rw [He.out]
      exact bodyPost_ret (v := .tuple #[N ((a + b) % big), .bool (decide (big ≤ a + b))]) (by simp [results, Tryd.results55, go_sem, *]) rfl ⟨rfl, (((((hw.setCell (by simp <;> omega) _).setCell (by simp <;> omega) _).setCell (by simp <;> omega) _).setCell (by simp <;> omega) _).setCell (by simp <;> omega) _).setCell (by simp <;> omega) _⟩
set_option maxHeartbeats 400000 in
set_option maxRecDepth 100000 in
theorem sub_any (a b : Nat) (ha : a < big) (hb : b < big) (w : World) :
    Calls Tryd.prog 53 #[N a, N b] w fun e w' => e = .returned (.tuple #[N ((a + big - b) % big), .bool (decide (a < b))]) ∧ Below w.heap.size w w' := by
  have hend := brw_end a b ha hb
  have He : Hid ((brw a b 6 != 0) = decide (a < b)) := hend
  have HB : Hid (b < big) := hb
  clear hend ha hb
  go_enter Tryd.func53, Tryd.ntmps53
  go_wp2
  go_loopw [7, 9] (fun c i wr => ∃ k : Nat, k ≤ 6 ∧ i = .int .i64 k ∧ c = .int .u64 (brw a b k) ∧ Row wr w.heap.size 6 (wd a) ∧ Row wr (w.heap.size + 1) 6 (wd b) ∧ Row wr (w.heap.size + 1 + 1) 6 (fun _ => 0) ∧ Row wr (w.heap.size + 1 + 1 + 1) 6 (part (a + big - b) k) ∧ Below w.heap.size w wr) (fun _ i _ => 6 - (RowKit.intOf i).toNat)
  case atStart =>
    refine ⟨0, by omega, rfl, by simp [brw, Nat.mod_one], ?_, ?_, ?_, ?_, ?_⟩
    · exact (((Row.new w _ 33 rfl (six_lt rfl)).alloc (by simp <;> omega) _).alloc (by simp <;> omega) _).alloc (by simp <;> omega) _
    · exact ((Row.new _ _ 33 (by simp <;> omega) (six_lt rfl)).alloc (by simp <;> omega) _).alloc (by simp <;> omega) _
    · exact (Row.new _ _ 33 (by simp <;> omega) (six_lt (f := fun _ => 0) rfl)).alloc (by simp <;> omega) _
    · exact Row.new _ _ 33 (by simp <;> omega) (six_lt (f := part (a + big - b) 0) rfl)
    · exact ((((Below.refl _ _).alloc (Nat.le_refl _) _).alloc (by simp <;> omega) _).alloc (by simp <;> omega) _).alloc (by simp <;> omega) _
  case round =>
    obtain ⟨k, hk, rfl, rfl, hA, hB, hZ, hS, hw⟩ := hrel
    by_cases hlt : k < 6
    · obtain ⟨hc0, hc1⟩ := brw_bd a b k
      have ha0 := (wd_bd a k).1
      have hb0 := (wd_bd b k).1
      have hb1 := (wd_bd b k).2
      have hA1 := (hA k hlt).1
      have hB1 := (hB k hlt).1
      obtain ⟨hS1, hS2⟩ := hS k hlt
      have h64 := fun w => sub64' (wd a k) (wd b k) (brw a b k) ha0 hb0 hb1 hc0 hc1 w
      clear hb1
      have r1 : Row wr w.heap.size 6 (wd a) ∧ Row wr (w.heap.size + 1) 6 (wd b) ∧ Row wr (w.heap.size + 1 + 1) 6 (fun _ => 0) ∧ Row wr (w.heap.size + 1 + 1 + 1) 6 (part (a + big - b) k) ∧ Below w.heap.size w wr := ⟨hA, hB, hZ, hS, hw⟩
      have R1 : Hid _ := r1
      clear hA hB hZ hS hw r1
      go_wp2
      go_region
      go_wp2
      go_roundw
      case rel =>
        obtain ⟨hA, hB, hZ, hS, hw⟩ := R1.out
        have hbb := HB.out
        exact ⟨k + 1, by omega, by go_num, by rw [sub_cry], (hA.set_other _ (by simp <;> omega)).drew, (hB.set_other _ (by simp <;> omega)).drew, (hZ.set_other _ (by simp <;> omega)).drew, ((hS.set _).congr (fun j _ => part_step (sub_word a b k hlt hbb) j)).drew, (hw.setCell (by simp <;> omega) _).drew⟩
      case measure => simp [RowKit.intOf]; omega
    · have hk6 : k = 6 := by omega
      subst hk6
      obtain ⟨s0, s1, s2, s3, s4, s5⟩ := (hS.congr (f' := wd ((a + big - b) % big)) (fun j hj => by rw [part_lt hj, wd_mod _ _ hj])).reads
      obtain ⟨z0, z1, z2, z3, z4, z5⟩ := hZ.writes
      obtain ⟨y0, y1, y2, y3, y4, y5⟩ := hZ.reads
      clear hA hB hZ hS
      go_wp2
      rw [He.out]
      exact bodyPost_ret (v := .tuple #[N ((a + big - b) % big), .bool (decide (a < b))]) (by simp [results, Tryd.results53, go_sem, *]) rfl ⟨rfl, (((((hw.setCell (by simp <;> omega) _).setCell (by simp <;> omega) _).setCell (by simp <;> omega) _).setCell (by simp <;> omega) _).setCell (by simp <;> omega) _).setCell (by simp <;> omega) _⟩
end Go.Proofs.YtkkloakcphigeaaDoor
end
