/- Texts of the proof, joined. -/
import Derived.Shelf.Bits.Mul64
import Derived.Shelf.Spec.BitsCarry
import Derived.Shelf.Spec.TrailingZeros
import Derived.Test.YtmanelnacifgcaaGreatDoorProg
import Derived.WalkKit
import Derived.WalkSpells
import Derived.Laws.Externs
import Derived.Laws.Bits64b
import Derived.BigRegion
import Derived.Deep.RegionWith
import Derived.Orders
import Derived.RegionTactic
import Derived.Below
import Derived.Laws.IdiomCopy
import Derived.Laws.NewBlocks
import Derived.Lib.Strings
import Derived.Lib.Slices
import Derived.Lib.Small
import Derived.Lib.Walk
import Derived.Lib.BitFns
import Derived.BigQuiet
import Derived.Deep.DeepCutAuto
import Derived.Deep.CutBlock
import Derived.WalkSmall
import Derived.Laws.StructEq
import Derived.Deep.RegionHeld3
import Derived.Deep.OwnRows
import Derived.Laws.BytesArg
set_option maxRecDepth 100000
namespace Go.Proofs.YtmanelnacifgcaaGreatDoor
open Go.RowKit
abbrev Rt (w : World) (v : Value) (e : Ending) (w' : World) : Prop := e = .returned v ∧ Below w.heap.size w w'
abbrev CO (n : FuncId) : Prop := ∀ args w, (callFunc n args).run Tryz.prog w = .ok (.enter n args) w
abbrev As22 := Tryz.sizeOf22
abbrev Ai4 := Tryz.isAgg4
abbrev Ai5 := Tryz.isAgg5
abbrev As179 := Tryz.sizeOf179
abbrev Ai179 := Tryz.isAgg179
abbrev As33 := Tryz.sizeOf33
abbrev Ai33 := Tryz.isAgg33
abbrev Ai76 := Tryz.isAgg76
abbrev Ai82 := Tryz.isAgg82
abbrev As82 := Tryz.sizeOf82
abbrev Ai86 := Tryz.isAgg86
abbrev As27 := Tryz.sizeOf27
abbrev Ai27 := Tryz.isAgg27
abbrev As85 := Tryz.sizeOf85
abbrev Ai85 := Tryz.isAgg85
abbrev Ai35 := Tryz.isAgg35
abbrev As35 := Tryz.sizeOf35
abbrev As96 := Tryz.sizeOf96
abbrev Ai96 := Tryz.isAgg96
abbrev As124 := Tryz.sizeOf124
abbrev Ai124 := Tryz.isAgg124
abbrev Ai46 := Tryz.isAgg46
abbrev Ai88 := Tryz.isAgg88
abbrev Ai93 := Tryz.isAgg93
abbrev As93 := Tryz.sizeOf93
abbrev Ai39 := Tryz.isAgg39
end Go.Proofs.YtmanelnacifgcaaGreatDoor
section
namespace Go.Proofs
open Go.Shelf
def Tryz.lays264_ren : Go.Shelf.Ren := ⟨fun | 264 => 64 | n => n, fun | 53 => 22 | 46 => 150 | n => n, fun | n => n⟩
theorem Tryz.lays264 : Go.Proofs.Lays.n264 Tryz.prog Tryz.lays264_ren := {
 mixed := by kernel_rfl
 f264 := Tryz.func64.trans (congrArg some (by kernel_rfl))
 t46 := Tryz.underlying150
 a46 := Tryz.isAgg150
 z46 := Tryz.sizeOf150
 v46 := Tryz.zeroValue150
 t53 := Tryz.underlying22
 a53 := Tryz.isAgg22
 z53 := Tryz.sizeOf22
 v53 := Tryz.zeroValue22 }
def Tryz.lays26_ren : Go.Shelf.Ren := ⟨fun | 26 => 63 | n => n, fun | 22 => 22 | n => n, fun | n => n⟩
theorem Tryz.lays26 : Go.Proofs.Lays7.n26 Tryz.prog Tryz.lays26_ren := {
 mixed := by kernel_rfl
 f26 := Tryz.func63.trans (congrArg some (by kernel_rfl))
 t22 := Tryz.underlying22
 a22 := Tryz.isAgg22
 z22 := Tryz.sizeOf22
 v22 := Tryz.zeroValue22
 i22 := by kernel_rfl }
def Tryz.lays29_ren : Go.Shelf.Ren := ⟨fun | 29 => 146 | n => n, fun | 25 => 150 | 54 => 192 | n => n, fun | 1 => 2 | n => n⟩
theorem Tryz.lays29 : Go.Proofs.Lays7.n29 Tryz.prog Tryz.lays29_ren := {
 mixed := by kernel_rfl
 f29 := Tryz.func146.trans (congrArg some (by kernel_rfl))
 t0 := Tryz.underlying0
 a0 := Tryz.isAgg0
 z0 := Tryz.sizeOf0
 v0 := Tryz.zeroValue0
 i0 := by kernel_rfl
 t3 := Tryz.underlying3
 a3 := Tryz.isAgg3
 z3 := Tryz.sizeOf3
 v3 := Tryz.zeroValue3
 i3 := by kernel_rfl
 t4 := Tryz.underlying4
 a4 := Tryz.isAgg4
 z4 := Tryz.sizeOf4
 v4 := Tryz.zeroValue4
 i4 := by kernel_rfl
 t5 := Tryz.underlying5
 a5 := Tryz.isAgg5
 z5 := Tryz.sizeOf5
 v5 := Tryz.zeroValue5
 i5 := by kernel_rfl
 t22 := Tryz.underlying22
 a22 := Tryz.isAgg22
 z22 := Tryz.sizeOf22
 v22 := Tryz.zeroValue22
 i22 := by kernel_rfl
 t25 := Tryz.underlying150
 a25 := Tryz.isAgg150
 z25 := Tryz.sizeOf150
 v25 := Tryz.zeroValue150
 i25 := by kernel_rfl
 t54 := Tryz.underlying192
 a54 := Tryz.isAgg192
 z54 := Tryz.sizeOf192
 g1 := by kernel_rfl }
end Go.Proofs
end
section
namespace Go.Proofs.YtmanelnacifgcaaGreatDoor
open Go.RowKit
/-- Word i of a number. -/
def wd (v i : Nat) : Int := ((v / 2 ^ (64 * i) % 18446744073709551616 : Nat) : Int)
theorem wd_bd (v i : Nat) : 0 ≤ wd v i ∧ wd v i < 18446744073709551616 := by unfold wd; omega
def big : Nat := 2 ^ (64 * 6)
theorem pow_step (k : Nat) : 2 ^ (64 * (k + 1)) = 2 ^ (64 * k) * 18446744073709551616 := by
 rw [Nat.mul_add, Nat.pow_add]
theorem big_eq : big = 2 ^ (64 * 6) := by rw [big]
theorem pow_pos' (k : Nat) : 0 < 2 ^ (64 * k) := Nat.two_pow_pos _
/-- A number as the six words of an array. -/
abbrev N (v : Nat) : Value := .agg #[.int .u64 (wd v 0), .int .u64 (wd v 1), .int .u64 (wd v 2), .int .u64 (wd v 3), .int .u64 (wd v 4), .int .u64 (wd v 5)]
/-- The words of v below place k, noughts from there on. -/
def part (v k j : Nat) : Int := if j < k then wd v j else 0
def upd (f : Nat → Int) (k : Nat) (v : Int) (j : Nat) : Int := if j = k then v else f j
theorem part_step {v k : Nat} {x : Int} (h : x = wd v k) (j : Nat) : upd (part v k) k x j = part v (k + 1) j := by
 unfold upd part
 by_cases h1 : j = k
 ·subst h1; simp [h]
 ·rw [if_neg h1]
  by_cases h2 : j < k
  ·rw [if_pos h2, if_pos (by omega)]
  ·rw [if_neg h2, if_neg (by omega)]
theorem part_lt {v k j : Nat} (h : j < k) : part v k j = wd v j := if_pos h
theorem wd_mod (v j : Nat) (h : j < 6) : wd (v % big) j = wd v j := by
 unfold wd
 have e : big = 2 ^ (64 * j) * (18446744073709551616 * 2 ^ (64 * (5 - j))) := by
  have : 64 * 6 = 64 * j + (64 + 64 * (5 - j)) := by omega
  rw [big, this, Nat.pow_add, Nat.pow_add]
 rw [e, Nat.mod_mul_right_div_self, Nat.mod_mul_right_mod]
/-! Sums. -/
def cry (a b k : Nat) : Int := (((a % 2 ^ (64 * k) + b % 2 ^ (64 * k)) / 2 ^ (64 * k) : Nat) : Int)
theorem cry_nat (a b k : Nat) : (a % 2 ^ (64 * k) + b % 2 ^ (64 * k)) / 2 ^ (64 * k) ≤ 1 := by
 have hp := pow_pos' k
 have h1 := Nat.mod_lt a hp
 have h2 := Nat.mod_lt b hp
 have h3 : (a % 2 ^ (64 * k) + b % 2 ^ (64 * k)) / 2 ^ (64 * k) < 2 := (Nat.div_lt_iff_lt_mul hp).2 (by omega)
 omega
theorem cry_bd (a b k : Nat) : 0 ≤ cry a b k ∧ cry a b k ≤ 1 := by
 exact ⟨Int.natCast_nonneg _, Int.ofNat_le.2 (cry_nat a b k)⟩
def addLo (x y c : Int) : Int := (x + y + c) % 18446744073709551616
def addHi (x y c : Int) : Int := (x + y + c) / 18446744073709551616
theorem div_split (a b B : Nat) (hB : 0 < B) : (a + b) / B = a / B + b / B + (a % B + b % B) / B := by
 have ha := Nat.div_add_mod a B
 have hb := Nat.div_add_mod b B
 have e : a + b = (a % B + b % B) + B * (a / B + b / B) := by rw [Nat.mul_add]; omega
 rw [e, Nat.add_mul_div_left _ _ hB]; omega
theorem add_word (a b k : Nat) : addLo (wd a k) (wd b k) (cry a b k) = wd (a + b) k := by
 unfold addLo wd cry
 rw [div_split a b _ (pow_pos' k)]
 omega
theorem add_cry (a b k : Nat) : addHi (wd a k) (wd b k) (cry a b k) = cry a b (k + 1) := by
 unfold addHi wd cry
 rw [pow_step, ← Nat.div_div_eq_div_mul, Nat.mod_mul, Nat.mod_mul]
 have hp := pow_pos' k
 generalize 2 ^ (64 * k) = B at hp ⊢
 have e : a % B + B * (a / B % 18446744073709551616) + (b % B + B * (b / B % 18446744073709551616)) = (a % B + b % B) + B * (a / B % 18446744073709551616 + b / B % 18446744073709551616) := by rw [Nat.mul_add]; omega
 rw [e, Nat.add_mul_div_left _ _ hp]
 generalize (a % B + b % B) / B = c
 omega
theorem cry_end (a b : Nat) (ha : a < big) (hb : b < big) : (cry a b 6 != 0) = decide (big ≤ a + b) := by
 have h := cry_nat a b 6
 unfold cry
 rw [← big_eq] at h ⊢
 rw [Nat.mod_eq_of_lt ha, Nat.mod_eq_of_lt hb] at h ⊢
 by_cases hs : big ≤ a + b
 ·have : 1 ≤ (a + b) / big := (Nat.le_div_iff_mul_le (by decide +kernel)).2 (by omega)
  rw [decide_eq_true hs, bne_iff_ne]; omega
 ·have : (a + b) / big = 0 := Nat.div_eq_of_lt (by omega)
  rw [decide_eq_false hs, this]; rfl
/-! Differences. -/
def bor (x y : Int) : Int := if x < y then 1 else 0
def subLo (x y b : Int) : Int := (x - y - b) % 18446744073709551616
def brw (a b k : Nat) : Int := if a % 2 ^ (64 * k) < b % 2 ^ (64 * k) then 1 else 0
theorem brw_bd (a b k : Nat) : 0 ≤ brw a b k ∧ brw a b k ≤ 1 := by unfold brw; split <;> omega
theorem sub_cry (a b k : Nat) : bor (wd a k) (wd b k + brw a b k) = brw a b (k + 1) := by
 unfold bor wd brw
 rw [pow_step, Nat.mod_mul, Nat.mod_mul]
 have hp := pow_pos' k
 generalize 2 ^ (64 * k) = B at hp ⊢
 have ha := Nat.mod_lt a hp
 have hb := Nat.mod_lt b hp
 generalize a / B % 18446744073709551616 = x
 generalize b / B % 18446744073709551616 = y
 generalize a % B = p at ha ⊢
 generalize b % B = q at hb ⊢
 by_cases h1 : x < y
 ·have h2 : B * (x + 1) ≤ B * y := Nat.mul_le_mul_left B h1
  rw [Nat.mul_add] at h2
  rw [if_pos (by split <;> omega), if_pos (by omega)]
 ·by_cases h3 : x = y
  ·subst h3
   by_cases h4 : p < q
   ·rw [if_pos (by rw [if_pos h4]; omega), if_pos (by omega)]
   ·rw [if_neg (by rw [if_neg h4]; omega), if_neg (by omega)]
  ·have h2 : B * (y + 1) ≤ B * x := Nat.mul_le_mul_left B (by omega)
   rw [Nat.mul_add] at h2
   rw [if_neg (by split <;> omega), if_neg (by omega)]
theorem sub_word (a b k : Nat) (hk : k < 6) (hb : b < big) : subLo (wd a k) (wd b k) (brw a b k) = wd (a + big - b) k := by
 unfold subLo wd brw
 have e : big = 2 ^ (64 * k) * (18446744073709551616 * 2 ^ (64 * (5 - k))) := by
  have : 64 * 6 = 64 * k + (64 + 64 * (5 - k)) := by omega
  rw [big, this, Nat.pow_add, Nat.pow_add]
 have hp := pow_pos' k
 rw [e] at hb ⊢
 generalize 2 ^ (64 * (5 - k)) = R at hb ⊢
 generalize 2 ^ (64 * k) = B at hp hb ⊢
 have hbh : b / B < 18446744073709551616 * R := (Nat.div_lt_iff_lt_mul hp).2 (by rw [Nat.mul_comm]; exact hb)
 have da := Nat.div_add_mod a B
 have db := Nat.div_add_mod b B
 have la := Nat.mod_lt a hp
 have lb := Nat.mod_lt b hp
 generalize a / B = x at da ⊢
 generalize b / B = y at db hbh ⊢
 generalize a % B = p at da la ⊢
 generalize b % B = q at db lb ⊢
 by_cases h : p < q
 ·have e2 : a + B * (18446744073709551616 * R) - b = (p + B - q) + B * (x + 18446744073709551616 * R - y - 1) := by
   have h3 : B * (x + 18446744073709551616 * R - y - 1) = B * x + B * (18446744073709551616 * R) - B * y - B := by
    rw [Nat.mul_sub, Nat.mul_sub, Nat.mul_add, Nat.mul_one]
   have h4 : B * y + B ≤ B * (18446744073709551616 * R) := by rw [← Nat.mul_succ]; exact Nat.mul_le_mul_left B hbh
   rw [h3]; omega
  rw [e2, Nat.add_mul_div_left _ _ hp, Nat.div_eq_of_lt (by omega : p + B - q < B), if_pos h]
  omega
 ·have e2 : a + B * (18446744073709551616 * R) - b = (p - q) + B * (x + 18446744073709551616 * R - y) := by
   have h3 : B * (x + 18446744073709551616 * R - y) = B * x + B * (18446744073709551616 * R) - B * y := by
    rw [Nat.mul_sub, Nat.mul_add]
   have h4 : B * y + B ≤ B * (18446744073709551616 * R) := by rw [← Nat.mul_succ]; exact Nat.mul_le_mul_left B hbh
   rw [h3]; omega
  rw [e2, Nat.add_mul_div_left _ _ hp, Nat.div_eq_of_lt (by omega : p - q < B), if_neg h]
  omega
theorem brw_end (a b : Nat) (ha : a < big) (hb : b < big) : (brw a b 6 != 0) = decide (a < b) := by
 unfold brw
 rw [← big_eq, Nat.mod_eq_of_lt ha, Nat.mod_eq_of_lt hb]
 by_cases h : a < b
 ·rw [if_pos h, decide_eq_true h]; rfl
 ·rw [if_neg h, decide_eq_false h]; rfl
/-! Rows of words in memory. -/
/-- Block g of w holds n words, as f tells them, and may be written. -/
def Row (w : World) (g n : Nat) (f : Nat → Int) : Prop := ∀ j, j < n → w.cell? ⟨g, j, none⟩ = some (.int .u64 (f j)) ∧ w.frozen? ⟨g, j, none⟩ = false
theorem Row.drew {w : World} {g n : Nat} {f : Nat → Int} (h : Row w g n f) : Row w.drew g n f := fun j hj => ⟨by rw [World.cell?_drew]; exact (h j hj).1, by rw [World.frozen?_drew]; exact (h j hj).2⟩
theorem Row.congr {w : World} {g n : Nat} {f f' : Nat → Int} (h : Row w g n f) (e : ∀ j, j < n → f j = f' j) : Row w g n f' := fun j hj => by rw [← e j hj]; exact h j hj
theorem Row.set {w : World} {g n : Nat} {f : Nat → Int} (h : Row w g n f) {k : Nat} (v : Int) : Row (w.setCell ⟨g, k, none⟩ (.int .u64 v)) g n (upd f k v) := by
 intro j hj
 obtain ⟨h1, h2⟩ := h j hj
 refine ⟨?_, by rw [World.frozen?_setCell]; exact h2⟩
 unfold upd
 by_cases e : j = k
 ·subst e; rw [if_pos rfl]; exact World.cell?_setCell_same _ _ _ h1
 ·rw [if_neg e, World.cell?_setCell_other _ _ _ _ (by intro h; injection h with h1 h2; exact e h2.symm)]; exact h1
theorem Row.set_other {w : World} {g n : Nat} {f : Nat → Int} (h : Row w g n f) {a : Addr} (v : Value) (hne : a.block ≠ g) : Row (w.setCell a v) g n f := by
 intro j hj
 obtain ⟨h1, h2⟩ := h j hj
 exact ⟨by rw [World.cell?_setCell_other _ _ _ _ (by intro h; apply hne; rw [h])]; exact h1, by rw [World.frozen?_setCell]; exact h2⟩
theorem Row.alloc {w : World} {g n : Nat} {f : Nat → Int} (h : Row w g n f) (hg : g < w.heap.size) (o : Obj) : Row (w.alloc o) g n f := by
 intro j hj
 obtain ⟨h1, h2⟩ := h j hj
 exact ⟨by rw [World.cell?_alloc_past _ _ _ hg]; exact h1, by rw [World.frozen?_alloc_past _ _ _ hg]; exact h2⟩
theorem Row.new (w : World) (c : Array Value) (t : TypeId) {g n : Nat} (hg : g = w.heap.size) {f : Nat → Int} (h : ∀ j, j < n → c[j]? = some (.int .u64 (f j))) : Row (w.alloc (.cells c t)) g n f := by
 intro j hj
 exact ⟨by rw [World.cell?_alloc_at _ _ _ _ hg]; exact h j hj, World.frozen?_alloc_at _ _ _ _ hg⟩
theorem Row.below {B : Nat} {w w' : World} (hb : Below B w w') {g n : Nat} {f : Nat → Int} (h : Row w g n f) (hg : g < B) : Row w' g n f := by
 intro j hj
 obtain ⟨h1, h2⟩ := h j hj
 exact ⟨by rw [hb.cell (p := ⟨g, j, none⟩) hg]; exact h1, by rw [hb.frozen (p := ⟨g, j, none⟩) hg]; exact h2⟩
theorem six_lt {f : Nat → Int} {c : Array Value} (h : c = #[.int .u64 (f 0), .int .u64 (f 1), .int .u64 (f 2), .int .u64 (f 3), .int .u64 (f 4), .int .u64 (f 5)]) : ∀ j, j < 6 → c[j]? = some (.int .u64 (f j)) := by
 subst h
 intro j hj
 match j, hj with
 | 0, _ => rfl
 | 1, _ => rfl
 | 2, _ => rfl
 | 3, _ => rfl
 | 4, _ => rfl
 | 5, _ => rfl
/-- Six words may be read and written. -/
theorem Row.reads {w : World} {g : Nat} {f : Nat → Int} (h : Row w g 6 f) : w.cell? ⟨g, 0, none⟩ = some (.int .u64 (f 0)) ∧ w.cell? ⟨g, 1, none⟩ = some (.int .u64 (f 1)) ∧ w.cell? ⟨g, 2, none⟩ = some (.int .u64 (f 2)) ∧ w.cell? ⟨g, 3, none⟩ = some (.int .u64 (f 3)) ∧ w.cell? ⟨g, 4, none⟩ = some (.int .u64 (f 4)) ∧ w.cell? ⟨g, 5, none⟩ = some (.int .u64 (f 5)) :=
 ⟨(h 0 (by omega)).1, (h 1 (by omega)).1, (h 2 (by omega)).1, (h 3 (by omega)).1, (h 4 (by omega)).1, (h 5 (by omega)).1⟩
theorem Row.writes {w : World} {g : Nat} {f : Nat → Int} (h : Row w g 6 f) : w.frozen? ⟨g, 0, none⟩ = false ∧ w.frozen? ⟨g, 1, none⟩ = false ∧ w.frozen? ⟨g, 2, none⟩ = false ∧ w.frozen? ⟨g, 3, none⟩ = false ∧ w.frozen? ⟨g, 4, none⟩ = false ∧ w.frozen? ⟨g, 5, none⟩ = false :=
 ⟨(h 0 (by omega)).2, (h 1 (by omega)).2, (h 2 (by omega)).2, (h 3 (by omega)).2, (h 4 (by omega)).2, (h 5 (by omega)).2⟩
/-- Six stores into one of the call's own blocks. -/
theorem below6 {B g : Nat} {w wr : World} (h : Below B w wr) (hg : B ≤ g) (v0 v1 v2 v3 v4 v5 : Value) : Below B w ((((((wr.setCell ⟨g, 0, none⟩ v0).setCell ⟨g, 1, none⟩ v1).setCell ⟨g, 2, none⟩ v2).setCell ⟨g, 3, none⟩ v3).setCell ⟨g, 4, none⟩ v4).setCell ⟨g, 5, none⟩ v5) :=
 (((((h.setCell (p := ⟨g, 0, none⟩) hg _).setCell (p := ⟨g, 1, none⟩) hg _).setCell (p := ⟨g, 2, none⟩) hg _).setCell (p := ⟨g, 3, none⟩) hg _).setCell (p := ⟨g, 4, none⟩) hg _).setCell (p := ⟨g, 5, none⟩) hg _
end Go.Proofs.YtmanelnacifgcaaGreatDoor
end
section
namespace Go.Proofs.YtmanelnacifgcaaGreatDoor
open Go.RowKit Go.Shelf
/-- bits.Add64: the lower word and what is carried. -/
theorem add64' (x y c : Int) (hx : 0 ≤ x) (hy : 0 ≤ y) (hc0 : 0 ≤ c) (hc : c ≤ 1) (w : World) : (callFunc 48 #[.int .u64 x, .int .u64 y, .int .u64 c]).run Tryz.prog w =
  .ok (.value (.tuple #[.int .u64 (addLo x y c), .int .u64 (addHi x y c)])) w := by
 have h := run_callFunc_extern Tryz.func48 (by kernel_rfl) (by kernel_rfl) (by kernel_rfl) (e := add64Entry) (by kernel_rfl) #[.int .u64 x, .int .u64 y, .int .u64 c] w
 rw [run_add64 x y c hx hy hc0 hc] at h
 exact h
/-- bits.Sub64: the lower word and what is borrowed. -/
theorem sub64' (x y b : Int) (hx : 0 ≤ x) (hy : 0 ≤ y) (hy' : y < 18446744073709551616) (hb0 : 0 ≤ b) (hb : b ≤ 1) (w : World) : (callFunc 63 #[.int .u64 x, .int .u64 y, .int .u64 b]).run Tryz.prog w =
  .ok (.value (.tuple #[.int .u64 (subLo x y b), .int .u64 (bor x (y + b))])) w := by
 have h := Any7.bits_Sub64 Tryz.lays26 x.toNat y.toNat b.toNat (by omega) w
 rw [Int.toNat_of_nonneg hx, Int.toNat_of_nonneg hy, Int.toNat_of_nonneg hb0] at h
 have lo : (((x.toNat + 18446744073709551616 - y.toNat - b.toNat) % 18446744073709551616 : Nat) : Int) = subLo x y b := by unfold subLo; omega
 have up : ((if x.toNat < y.toNat + b.toNat then 1 else 0 : Nat) : Int) = bor x (y + b) := by
  unfold bor
  by_cases c : x < y + b
  ·rw [if_pos c, if_pos (by omega)]; rfl
  ·rw [if_neg c, if_neg (by omega)]; rfl
 rw [lo, up] at h
 exact h
/-- bits.Mul64: the upper and the lower word of a product. -/
theorem mul64N (x y : Nat) (hx : x < 18446744073709551616) (hy : y < 18446744073709551616) (w : World) :
  Calls Tryz.prog 64 #[.int .u64 x, .int .u64 y] w fun e w' => e = .returned (.tuple #[.int .u64 ((x * y / 18446744073709551616 : Nat) : Int), .int .u64 ((x * y % 18446744073709551616 : Nat) : Int)]) ∧ w' = w :=
 Any.bits_Mul64 Tryz.lays264 x y hx hy w
end Go.Proofs.YtmanelnacifgcaaGreatDoor
end
section
namespace Go.Proofs.YtmanelnacifgcaaGreatDoor
open Go.RowKit Go.Lib
def mulLo (a b m c : Int) : Int := (a * b + m + c) % 18446744073709551616
def mulHi (a b m c : Int) : Int := (a * b + m + c) / 18446744073709551616
def pHi (x y : Nat) : Int := ((x * y / 18446744073709551616 : Nat) : Int)
def pLo (x y : Nat) : Int := ((x * y % 18446744073709551616 : Nat) : Int)
theorem mul64' (x y : Nat) (hx : x < 18446744073709551616) (hy : y < 18446744073709551616) (w : World) :
  Calls Tryz.prog 64 #[.int .u64 x, .int .u64 y] w fun e w' => e = .returned (.tuple #[.int .u64 (pHi x y), .int .u64 (pLo x y)]) ∧ w' = w := mul64N x y hx hy w
theorem prod_le (x y : Nat) (hx : x < 18446744073709551616) (hy : y < 18446744073709551616) : x * y ≤ 18446744073709551615 * 18446744073709551615 := Nat.mul_le_mul (by omega) (by omega)
theorem mulAdd_lo (x y : Nat) (m c : Int) : addLo (addLo (pLo x y) m 0) c 0 = mulLo x y m c := by
 unfold addLo pLo mulLo
 rw [← Int.natCast_mul]
 generalize x * y = p
 omega
theorem mulAdd_hi (x y : Nat) (m c : Int) (hx : x < 18446744073709551616) (hy : y < 18446744073709551616) (hm : 0 ≤ m) (hm' : m < 18446744073709551616) (hc : 0 ≤ c) (hc' : c < 18446744073709551616) :
  IntKind.u64.wrap (IntKind.u64.wrap (pHi x y + addHi (pLo x y) m 0) + addHi (addLo (pLo x y) m 0) c 0) = mulHi x y m c := by
 have h := prod_le x y hx hy
 rw [IntKind.wrap_u64, IntKind.wrap_u64]
 unfold addLo addHi pLo pHi mulHi
 rw [← Int.natCast_mul]
 generalize x * y = p at h ⊢
 omega
set_option maxHeartbeats 400000 in
theorem mulAdd_any (a b m c : Int) (ha : 0 ≤ a) (ha' : a < 18446744073709551616) (hb : 0 ≤ b) (hb' : b < 18446744073709551616) (hm : 0 ≤ m) (hm' : m < 18446744073709551616) (hc : 0 ≤ c) (hc' : c < 18446744073709551616) (w : World) :
  Calls Tryz.prog 160 #[.int .u64 a, .int .u64 b, .int .u64 m, .int .u64 c] w fun e w' => e = .returned (.tuple #[.int .u64 (mulLo a b m c), .int .u64 (mulHi a b m c)]) ∧ w' = w := by
 obtain ⟨x, rfl⟩ := Int.eq_ofNat_of_zero_le ha
 obtain ⟨y, rfl⟩ := Int.eq_ofNat_of_zero_le hb
 have hx : x < 18446744073709551616 := by omega
 have hy : y < 18446744073709551616 := by omega
 have e1 : Hid _ := mulAdd_hi x y m c hx hy hm hm' hc hc'
 have e2 : Hid _ := mulAdd_lo x y m c
 have h1 := fun w => add64' (pLo x y) m 0 (by unfold pLo; omega) hm (by omega) (by omega) w
 have h2 := fun w => add64' (addLo (pLo x y) m 0) c 0 (by unfold addLo; omega) hc (by omega) (by omega) w
 have h3 := fun w => mul64' x y hx hy w
 have H3 : Hid _ := h3
 clear ha ha' hb hb' hm hm' hc hc' hx hy h3
 go_enter Tryz.func160, Tryz.ntmps160
 go_wp2_with (go_at_call 64; refine (H3.out _).mono ?_; rintro e w' ⟨rfl, rfl⟩)
 rw [e1.out, e2.out]
 go_ret2
 exact ⟨rfl, rfl⟩
end Go.Proofs.YtmanelnacifgcaaGreatDoor
end
section
namespace Go.Proofs.YtmanelnacifgcaaGreatDoor
open Go.RowKit
/-- Word i as a natural number. -/
def wn (v i : Nat) : Nat := v / 2 ^ (64 * i) % 18446744073709551616
theorem wd_wn (v i : Nat) : wd v i = (wn v i : Int) := rfl
theorem wn_lt (v i : Nat) : wn v i < 18446744073709551616 := Nat.mod_lt _ (by decide)
theorem mod_step (v k : Nat) : v % 2 ^ (64 * (k + 1)) = v % 2 ^ (64 * k) + 2 ^ (64 * k) * wn v k := by
 rw [pow_step, Nat.mod_mul]; rfl
/-- The sum behind j rounds of row i: what was there, and word i of a times the lowest j words of b. -/
def sm (a b i j : Nat) : Nat := (a % 2 ^ (64 * i)) * b + wn a i * (b % 2 ^ (64 * j)) * 2 ^ (64 * i)
def pm (V S t m : Nat) : Int := if m < t then wd S m else wd V m
def mc (a b i j : Nat) : Int := ((((a % 2 ^ (64 * i)) * b) % 2 ^ (64 * (i + j)) + wn a i * (b % 2 ^ (64 * j)) * 2 ^ (64 * i)) / 2 ^ (64 * (i + j)) : Nat)
theorem pow_add' (i j : Nat) : 2 ^ (64 * (i + j)) = 2 ^ (64 * i) * 2 ^ (64 * j) := by rw [Nat.mul_add, Nat.pow_add]
theorem sm_zero (a b i : Nat) : sm a b i 0 = (a % 2 ^ (64 * i)) * b := by unfold sm; simp [Nat.mod_one]
theorem sm_end (a b i : Nat) (hb : b < big) : sm a b i 6 = (a % 2 ^ (64 * (i + 1))) * b := by
 unfold sm
 rw [← big_eq, Nat.mod_eq_of_lt hb, mod_step, Nat.add_mul]
 congr 1
 rw [Nat.mul_assoc, Nat.mul_comm b, ← Nat.mul_assoc, Nat.mul_comm (wn a i)]
theorem sm_step (a b i j : Nat) : sm a b i (j + 1) = sm a b i j + 2 ^ (64 * (i + j)) * (wn a i * wn b j) := by
 unfold sm
 rw [mod_step b j, Nat.mul_add, Nat.add_mul, ← Nat.add_assoc]
 congr 1
 rw [pow_add']
 simp only [Nat.mul_comm, Nat.mul_left_comm, Nat.mul_assoc]
theorem mc_nat (a b i j : Nat) : (((a % 2 ^ (64 * i)) * b) % 2 ^ (64 * (i + j)) + wn a i * (b % 2 ^ (64 * j)) * 2 ^ (64 * i)) / 2 ^ (64 * (i + j)) < 18446744073709551616 := by
 have hq := pow_pos' (i + j)
 have h1 := Nat.mod_lt ((a % 2 ^ (64 * i)) * b) hq
 have h2 := wn_lt a i
 have h3 := Nat.mod_lt b (pow_pos' j)
 rw [Nat.div_lt_iff_lt_mul hq]
 have h4 : wn a i * (b % 2 ^ (64 * j)) * 2 ^ (64 * i) ≤ 18446744073709551615 * 2 ^ (64 * j) * 2 ^ (64 * i) :=
  Nat.mul_le_mul_right _ (Nat.mul_le_mul (by omega) (by omega))
 have h5 : 18446744073709551615 * 2 ^ (64 * j) * 2 ^ (64 * i) = 18446744073709551615 * 2 ^ (64 * (i + j)) := by
  rw [pow_add', Nat.mul_assoc, Nat.mul_comm (2 ^ (64 * j))]
 generalize 2 ^ (64 * (i + j)) = Q at *
 omega
theorem mc_bd (a b i j : Nat) : 0 ≤ mc a b i j ∧ mc a b i j < 18446744073709551616 :=
 ⟨Int.natCast_nonneg _, Int.ofNat_lt.2 (mc_nat a b i j)⟩
theorem mc_zero (a b i : Nat) : mc a b i 0 = 0 := by
 unfold mc
 rw [Nat.add_zero, Nat.mul_zero, Nat.pow_zero, Nat.mod_one, Nat.mul_zero, Nat.zero_mul, Nat.add_zero, Nat.div_eq_of_lt (Nat.mod_lt _ (pow_pos' i))]
 rfl
/-- One step's two words. -/
theorem mul_core (V s : Nat) (x y : Nat) (Q : Nat) (hQ : 0 < Q) :
  (V % (Q * 18446744073709551616) + (s + Q * (x * y))) / (Q * 18446744073709551616) = (x * y + V / Q % 18446744073709551616 + (V % Q + s) / Q) / 18446744073709551616 ∧
  (V + (s + Q * (x * y))) / Q % 18446744073709551616 = (x * y + V / Q % 18446744073709551616 + (V % Q + s) / Q) % 18446744073709551616 := by
 constructor
 ·rw [Nat.mod_mul, ← Nat.div_div_eq_div_mul]
  have e : V % Q + Q * (V / Q % 18446744073709551616) + (s + Q * (x * y)) = (V % Q + s) + Q * (x * y + V / Q % 18446744073709551616) := by rw [Nat.mul_add]; omega
  rw [e, Nat.add_mul_div_left _ _ hQ]
  congr 1
  omega
 ·have e : V + (s + Q * (x * y)) = (V % Q + s) + Q * (x * y + V / Q) := by
   have := Nat.div_add_mod V Q
   rw [Nat.mul_add]; omega
  rw [e, Nat.add_mul_div_left _ _ hQ]
  omega
theorem mul_hi (a b i j : Nat) : mulHi (wd a i) (wd b j) (wd ((a % 2 ^ (64 * i)) * b) (i + j)) (mc a b i j) = mc a b i (j + 1) := by
 unfold mulHi mc
 have e := (mul_core ((a % 2 ^ (64 * i)) * b) (wn a i * (b % 2 ^ (64 * j)) * 2 ^ (64 * i)) (wn a i) (wn b j) _ (pow_pos' (i + j))).1
 have e2 : wn a i * (b % 2 ^ (64 * (j + 1))) * 2 ^ (64 * i) = wn a i * (b % 2 ^ (64 * j)) * 2 ^ (64 * i) + 2 ^ (64 * (i + j)) * (wn a i * wn b j) := by
  have := sm_step a b i j
  unfold sm at this
  omega
 rw [← Nat.add_assoc i j 1, pow_step (i + j), e2, e, wd_wn, wd_wn, wd_wn]
 unfold wn
 rw [← Int.natCast_mul, ← Int.natCast_add, ← Int.natCast_add]
 rfl
theorem mul_lo (a b i j : Nat) : mulLo (wd a i) (wd b j) (wd ((a % 2 ^ (64 * i)) * b) (i + j)) (mc a b i j) = wd (sm a b i (j + 1)) (i + j) := by
 unfold mulLo mc
 have e := (mul_core ((a % 2 ^ (64 * i)) * b) (wn a i * (b % 2 ^ (64 * j)) * 2 ^ (64 * i)) (wn a i) (wn b j) _ (pow_pos' (i + j))).2
 rw [wd_wn (sm a b i (j + 1))]
 unfold wn at e ⊢
 have es : sm a b i (j + 1) = (a % 2 ^ (64 * i)) * b + (wn a i * (b % 2 ^ (64 * j)) * 2 ^ (64 * i) + 2 ^ (64 * (i + j)) * (wn a i * wn b j)) := by
  rw [sm_step]; unfold sm; omega
 rw [es]
 unfold wn
 rw [e, wd_wn, wd_wn, wd_wn]
 unfold wn
 rw [← Int.natCast_mul, ← Int.natCast_add, ← Int.natCast_add]
 rfl
/-- Words below place t don't see what is added from place t on. -/
theorem wd_low (S x t m : Nat) (h : m < t) : wd (S + 2 ^ (64 * t) * x) m = wd S m := by
 unfold wd
 have e : 2 ^ (64 * t) = 2 ^ (64 * m) * (18446744073709551616 * 2 ^ (64 * (t - m - 1))) := by
  have : 64 * t = 64 * m + (64 + 64 * (t - m - 1)) := by omega
  rw [this, Nat.pow_add, Nat.pow_add]
 rw [e, Nat.mul_assoc, Nat.add_mul_div_left _ _ (pow_pos' m), Nat.mul_assoc, Nat.add_mul_mod_self_left]
theorem pm_step (a b i j m : Nat) : upd (pm ((a % 2 ^ (64 * i)) * b) (sm a b i j) (i + j)) (i + j) (wd (sm a b i (j + 1)) (i + j)) m = pm ((a % 2 ^ (64 * i)) * b) (sm a b i (j + 1)) (i + j + 1) m := by
 unfold upd pm
 by_cases h1 : m = i + j
 ·subst h1; rw [if_pos rfl, if_pos (by omega)]
 ·rw [if_neg h1]
  by_cases h2 : m < i + j
  ·rw [if_pos h2, if_pos (by omega), sm_step, wd_low _ _ _ _ h2]
  ·rw [if_neg h2, if_neg (by omega)]
theorem wd_high (S t m : Nat) (hS : S < 2 ^ (64 * t)) (h : t ≤ m) : wd S m = 0 := by
 unfold wd
 have : S < 2 ^ (64 * m) := Nat.lt_of_lt_of_le hS (Nat.pow_le_pow_right (by omega) (by omega))
 rw [Nat.div_eq_of_lt this]; rfl
theorem low_lt (a b i : Nat) (hb : b < big) : (a % 2 ^ (64 * i)) * b < 2 ^ (64 * (i + 6)) := by
 rw [pow_add', ← big_eq]
 have h1 := Nat.mod_lt a (pow_pos' i)
 calc (a % 2 ^ (64 * i)) * b ≤ 2 ^ (64 * i) * b := Nat.mul_le_mul_right _ (by omega)
  _ < 2 ^ (64 * i) * big := Nat.mul_lt_mul_of_pos_left hb (pow_pos' i)
theorem sm_def (a b i j : Nat) : sm a b i j = (a % 2 ^ (64 * i)) * b + wn a i * (b % 2 ^ (64 * j)) * 2 ^ (64 * i) := rfl
theorem sm_lt (a b i : Nat) (hb : b < big) : sm a b i 6 < 2 ^ (64 * (i + 6 + 1)) := by
 rw [sm_end a b i hb]
 have h := low_lt a b (i + 1) hb
 have e : i + 1 + 6 = i + 6 + 1 := by omega
 rw [e] at h
 exact h
theorem mc_end' (a b i n : Nat) (h1 : (a % 2 ^ (64 * i)) * b < 2 ^ (64 * (i + n))) (hlt : sm a b i n < 2 ^ (64 * (i + n + 1))) : mc a b i n = wd (sm a b i n) (i + n) := by
 rw [pow_step] at hlt
 unfold mc wd
 rw [Nat.mod_eq_of_lt h1, ← sm_def]
 generalize sm a b i n = S at hlt ⊢
 have hp := pow_pos' (i + n)
 generalize 2 ^ (64 * (i + n)) = Q at hlt hp ⊢
 rw [Nat.mod_eq_of_lt ((Nat.div_lt_iff_lt_mul hp).2 (by rw [Nat.mul_comm]; exact hlt))]
theorem mc_end (a b i : Nat) (hb : b < big) : mc a b i 6 = wd (sm a b i 6) (i + 6) := mc_end' a b i 6 (low_lt a b i hb) (sm_lt a b i hb)
theorem pm_end (a b i m : Nat) (hb : b < big) : upd (pm ((a % 2 ^ (64 * i)) * b) (sm a b i 6) (i + 6)) (i + 6) (mc a b i 6) m = wd ((a % 2 ^ (64 * (i + 1))) * b) m := by
 rw [mc_end a b i hb, ← sm_end a b i hb]
 unfold upd pm
 by_cases h1 : m = i + 6
 ·subst h1; rw [if_pos rfl]
 ·rw [if_neg h1]
  by_cases h2 : m < i + 6
  ·rw [if_pos h2]
  ·rw [if_neg h2, wd_high _ (i + 6) _ (low_lt a b i hb) (by omega)]
   rw [wd_high _ (i + 6 + 1) _ (sm_lt a b i hb) (by omega)]
theorem pm_start (a b i m : Nat) : pm ((a % 2 ^ (64 * i)) * b) (sm a b i 0) (i + 0) m = wd ((a % 2 ^ (64 * i)) * b) m := by
 unfold pm; rw [sm_zero]; split <;> rfl
theorem wd_hi (v j : Nat) : wd v (j + 6) = wd (v / big) j := by
 unfold wd
 rw [Nat.add_comm j 6, pow_add', ← big_eq, Nat.div_div_eq_div_mul]
theorem wd_shr (v k : Nat) : wd v k = ((v >>> (64 * k) % 2 ^ 64 : Nat) : Int) := by unfold wd; rw [Nat.shiftRight_eq_div_pow]
theorem up_bits1 (a n k : Nat) (h : k = n / 64) : ((a >>> (64 * (k - n / 64)) % 2 ^ 64) <<< (n % 64)) % 2 ^ 64 = (a <<< n) >>> (64 * k) % 2 ^ 64 := by
 apply Nat.eq_of_testBit_eq
 intro i
 simp only [Nat.testBit_mod_two_pow, Nat.testBit_shiftLeft, Nat.testBit_shiftRight]
 by_cases hi : i < 64
 ·by_cases ht : n % 64 ≤ i
  ·have e1 : n ≤ 64 * k + i := by omega
   have e2 : 64 * (k - n / 64) + (i - n % 64) = 64 * k + i - n := by omega
   have e3 : i - n % 64 < 64 := by omega
   simp [hi, ht, e1, e2, e3]
  ·have e1 : ¬ n ≤ 64 * k + i := by omega
   simp [hi, ht, e1]
 ·simp [hi]
theorem up_bits (a n k : Nat) (h : n / 64 < k) : ((a >>> (64 * (k - n / 64)) % 2 ^ 64) <<< (n % 64)) % 2 ^ 64 ||| (a >>> (64 * (k - n / 64 - 1)) % 2 ^ 64) >>> (64 - n % 64) = (a <<< n) >>> (64 * k) % 2 ^ 64 := by
 apply Nat.eq_of_testBit_eq
 intro i
 simp only [Nat.testBit_or, Nat.testBit_mod_two_pow, Nat.testBit_shiftLeft, Nat.testBit_shiftRight]
 by_cases hi : i < 64
 ·have e1 : n ≤ 64 * k + i := by omega
  by_cases ht : n % 64 ≤ i
  ·have e2 : 64 * (k - n / 64) + (i - n % 64) = 64 * k + i - n := by omega
   have e3 : i - n % 64 < 64 := by omega
   have e4 : ¬ 64 - n % 64 + i < 64 := by omega
   simp [hi, ht, e1, e2, e3, e4]
  ·have e4 : 64 - n % 64 + i < 64 := by omega
   have e5 : 64 * (k - n / 64 - 1) + (64 - n % 64 + i) = 64 * k + i - n := by omega
   simp [hi, ht, e1, e4, e5]
 ·have e4 : ¬ 64 - n % 64 + i < 64 := by omega
  simp [hi, e4]
theorem down_bits (a n k : Nat) (h : n / 64 ≤ k) : (a >>> (64 * k) % 2 ^ 64) >>> (n % 64) ||| ((a >>> (64 * (k + 1)) % 2 ^ 64) <<< (64 - n % 64)) % 2 ^ 64 = (a >>> n) >>> (64 * (k - n / 64)) % 2 ^ 64 := by
 apply Nat.eq_of_testBit_eq
 intro i
 simp only [Nat.testBit_or, Nat.testBit_mod_two_pow, Nat.testBit_shiftLeft, Nat.testBit_shiftRight]
 by_cases hi : i < 64
 ·by_cases ht : n % 64 + i < 64
  ·have e2 : 64 * k + (n % 64 + i) = n + (64 * (k - n / 64) + i) := by omega
   have e3 : ¬ 64 - n % 64 ≤ i := by omega
   simp [hi, ht, e2, e3]
  ·have e3 : 64 - n % 64 ≤ i := by omega
   have e4 : i - (64 - n % 64) < 64 := by omega
   have e5 : 64 * (k + 1) + (i - (64 - n % 64)) = n + (64 * (k - n / 64) + i) := by omega
   simp [hi, ht, e3, e4, e5]
 ·have e4 : ¬ n % 64 + i < 64 := by omega
  simp [hi, e4]
theorem wrap_shl (x t : Nat) : IntKind.u64.wrap ((x : Int) * 2 ^ t) = ((x <<< t % 2 ^ 64 : Nat) : Int) := by
 rw [IntKind.wrap_u64, Nat.shiftLeft_eq]
 have : (x : Int) * 2 ^ t = ((x * 2 ^ t : Nat) : Int) := by rw [Int.natCast_mul, Int.natCast_pow]; rfl
 rw [this]; rfl
theorem div_shr (x t : Nat) : (x : Int) / 2 ^ t = ((x >>> t : Nat) : Int) := by
 rw [Nat.shiftRight_eq_div_pow]
 have : ((2 : Int) ^ t) = ((2 ^ t : Nat) : Int) := by rw [Int.natCast_pow]; rfl
 rw [this]; rfl
theorem up_word1 (a n k : Nat) (h : k = n / 64) : IntKind.u64.wrap (wd a (k - n / 64) * 2 ^ (n % 64)) = wd (a * 2 ^ n) k := by
 rw [wd_shr, wrap_shl, up_bits1 a n k h, wd_shr, Nat.shiftLeft_eq]
theorem up_word (a n k : Nat) (h : n / 64 < k) : bits .or .u64 (IntKind.u64.wrap (wd a (k - n / 64) * 2 ^ (n % 64))) (wd a (k - n / 64 - 1) / 2 ^ (64 - n % 64)) = wd (a * 2 ^ n) k := by
 rw [wd_shr, wrap_shl, wd_shr, div_shr, wd_shr, ← Nat.shiftLeft_eq, ← up_bits a n k h]
 refine bits_or_u64_nat _ _ (Nat.mod_lt _ (by decide)) ?_
 rw [Nat.shiftRight_eq_div_pow]
 exact Nat.lt_of_le_of_lt (Nat.div_le_self _ _) (Nat.mod_lt _ (by decide))
theorem down_word (a n k : Nat) (h : n / 64 ≤ k) : bits .or .u64 (wd a k / 2 ^ (n % 64)) (IntKind.u64.wrap (wd a (k + 1) * 2 ^ (64 - n % 64))) = wd (a / 2 ^ n) (k - n / 64) := by
 rw [wd_shr, wd_shr, wrap_shl, div_shr, wd_shr, ← Nat.shiftRight_eq_div_pow, ← down_bits a n k h]
 refine bits_or_u64_nat _ _ ?_ (Nat.mod_lt _ (by decide))
 rw [Nat.shiftRight_eq_div_pow (n := n % 64)]
 exact Nat.lt_of_le_of_lt (Nat.div_le_self _ _) (Nat.mod_lt _ (by decide))
theorem pow_le' (j m : Nat) (h : j ≤ m) : 2 ^ j ≤ 2 ^ m := Nat.pow_le_pow_right (by decide) h
theorem big_pow : ∃ n, n = 6 ∧ big = 2 ^ (64 * n) := ⟨6, rfl, big_eq⟩
theorem big_le (m : Nat) (h : 384 ≤ m) : big ≤ 2 ^ m := by
 obtain ⟨n, hn, e⟩ := big_pow
 rw [e]; exact pow_le' _ _ (by omega)
theorem pow_mono (j k : Nat) (h : j ≤ k) : 2 ^ (64 * j) ≤ 2 ^ (64 * k) := Nat.pow_le_pow_right (by decide) (Nat.mul_le_mul_left 64 h)
theorem wd_top' (v j k : Nat) (h : v < 2 ^ (64 * j)) (hk : j ≤ k) : wd v k = 0 := by
 unfold wd
 rw [Nat.div_eq_of_lt (Nat.lt_of_lt_of_le h (pow_mono j k hk))]
 rfl
theorem wd_top (v k : Nat) (h : v < big) (hk : 6 ≤ k) : wd v k = 0 := wd_top' v 6 k (Nat.lt_of_lt_of_eq h big_eq) hk
theorem down_last (a n : Nat) (ha : a < big) (h : n / 64 ≤ 5) : wd a 5 / 2 ^ (n % 64) = wd (a / 2 ^ n) (5 - n / 64) := by
 have e := down_bits a n 5 h
 have z : a >>> (64 * (5 + 1)) % 2 ^ 64 = 0 := by
  have := wd_top a 6 ha (by omega)
  rw [wd_shr] at this
  exact Int.ofNat.inj this
 rw [z] at e
 rw [wd_shr, div_shr, wd_shr, ← Nat.shiftRight_eq_div_pow, ← e]
 simp
end Go.Proofs.YtmanelnacifgcaaGreatDoor
end
section
namespace Go.Proofs.YtmanelnacifgcaaGreatDoor
open Go.RowKit Go.Lib
theorem upd_upd (f : Nat → Int) (k : Nat) (x y : Int) (j : Nat) : upd (upd f k x) k y j = upd f k y j := by
 unfold upd; split <;> rfl
theorem part_low (v m j : Nat) (h : ∀ i, i < m → wd v i = 0) : part v m j = 0 := by
 unfold part; split
 ·exact h _ ‹_›
 ·rfl
theorem up_low (a n i : Nat) (h : i < n / 64) : wd (a * 2 ^ n) i = 0 := by
 rw [wd_shr, ← Nat.shiftLeft_eq]
 have : (a <<< n) >>> (64 * i) % 2 ^ 64 = 0 := by
  apply Nat.eq_of_testBit_eq
  intro m
  simp only [Nat.testBit_mod_two_pow, Nat.testBit_shiftLeft, Nat.testBit_shiftRight, Nat.zero_testBit]
  by_cases hm : m < 64
  ·have : ¬ n ≤ 64 * i + m := by omega
   simp [this]
  ·simp [hm]
 rw [this]; rfl
set_option maxHeartbeats 400000 in
theorem shiftUp_any (a n : Nat) (hn : n < 384) (w : World) :
  Calls Tryz.prog 104 #[N a, .int .i64 n] w (Rt w (N (a * 2 ^ n % big))) := by
 go_enter Tryz.func104, Tryz.ntmps104
 go_wp2
 go_loopw [8] (fun i wr => ∃ k : Nat, n / 64 ≤ k ∧ k ≤ 6 ∧ i = .int .i64 k ∧ Row wr w.heap.size 6 (wd a) ∧ Row wr (w.heap.size + 1) 6 (fun _ => 0) ∧ Row wr (w.heap.size + 1 + 1) 6 (part (a * 2 ^ n) k) ∧ Below w.heap.size w wr) (fun i _ => 6 - (RowKit.intOf i).toNat)
 case atStart =>
  refine ⟨n / 64, by omega, by omega, rfl, ?_, ?_, ?_, ?_⟩
  ·exact ((Row.new w _ 24 rfl (six_lt rfl)).alloc (by first | omega | (simp <;> omega)) _).alloc (by first | omega | (simp <;> omega)) _
  ·exact (Row.new _ _ 24 (by first | omega | (simp <;> omega)) (six_lt (f := fun _ => 0) rfl)).alloc (by first | omega | (simp <;> omega)) _
  ·exact (Row.new _ _ 24 (by first | omega | (simp <;> omega)) (six_lt (f := fun _ => 0) rfl)).congr (fun j _ => (part_low _ _ _ (fun i hi => up_low a n i hi)).symm)
  ·exact (((Below.refl _ _).alloc (Nat.le_refl _) _).alloc (by first | omega | (simp <;> omega)) _).alloc (by first | omega | (simp <;> omega)) _
 case round =>
  obtain ⟨k, hk0, hk, rfl, hA, hZ, hS, hw⟩ := hrel
  by_cases hlt : k < 6
  ·obtain ⟨hS1, hS2⟩ := hS k hlt
   have hA1 := (hA (k - n / 64) (by omega)).1
   have HR : Hid (_ ∧ _ ∧ _ ∧ _) := ⟨hA, hZ, hS, hw⟩
   by_cases hgt : n / 64 < k
   ·have hA2 := (hA (k - n / 64 - 1) (by omega)).1
    clear hA hZ hS hw
    go_wp2
    go_region
    go_wp2
    go_roundw
    case rel =>
     obtain ⟨hA, hZ, hS, hw⟩ := HR.out
     exact ⟨k + 1, by omega, by omega, by go_num, ((hA.set_other _ (by simp <;> omega)).set_other _ (by simp <;> omega)).drew, ((hZ.set_other _ (by simp <;> omega)).set_other _ (by simp <;> omega)).drew, (((hS.set _).set _).congr (fun j _ => (upd_upd _ _ _ _ j).trans (part_step (up_word a n k hgt) j))).drew, ((hw.setCell (by simp <;> omega) _).setCell (by simp <;> omega) _).drew⟩
    case measure => simp [RowKit.intOf]; omega
   ·clear hA hZ hS hw
    go_wp2
    go_roundw
    case rel =>
     obtain ⟨hA, hZ, hS, hw⟩ := HR.out
     exact ⟨k + 1, by omega, by omega, by go_num, hA.set_other _ (by simp <;> omega), hZ.set_other _ (by simp <;> omega), (hS.set _).congr (fun j _ => part_step (up_word1 a n k (by omega)) j), hw.setCell (by simp <;> omega) _⟩
    case measure => simp [RowKit.intOf]; omega
  ·have hk6 : k = 6 := by omega
   subst hk6
   obtain ⟨s0, s1, s2, s3, s4, s5⟩ := (hS.congr (f' := wd (a * 2 ^ n % big)) (fun j hj => by rw [part_lt hj, wd_mod _ _ hj])).reads
   obtain ⟨z0, z1, z2, z3, z4, z5⟩ := hZ.writes
   obtain ⟨y0, y1, y2, y3, y4, y5⟩ := hZ.reads
   clear hA hZ hS
   rw [show ((6 : Nat) : Int) = 6 from rfl]
   go_wp2
   refine bodyPost_ret (v := N (a * 2 ^ n % big)) ?_ rfl ⟨rfl, ?_⟩
   ·simp [results, Tryz.results104, go_sem, *]
   ·exact below6 hw (by omega) _ _ _ _ _ _
set_option maxHeartbeats 400000 in
theorem shiftDown_any (a n : Nat) (ha : a < big) (hn : n < 384) (w : World) :
  Calls Tryz.prog 103 #[N a, .int .i64 n] w (Rt w (N (a / 2 ^ n))) := by
 have HA : Hid (a < big) := ha
 clear ha
 go_enter Tryz.func103, Tryz.ntmps103
 go_wp2
 go_loopw [8] (fun i wr => ∃ k : Nat, n / 64 ≤ k ∧ k ≤ 6 ∧ i = .int .i64 k ∧ Row wr w.heap.size 6 (wd a) ∧ Row wr (w.heap.size + 1) 6 (fun _ => 0) ∧ Row wr (w.heap.size + 1 + 1) 6 (part (a / 2 ^ n) (k - n / 64)) ∧ Below w.heap.size w wr) (fun i _ => 6 - (RowKit.intOf i).toNat)
 case atStart =>
  refine ⟨n / 64, by omega, by omega, rfl, ?_, ?_, ?_, ?_⟩
  ·exact ((Row.new w _ 24 rfl (six_lt rfl)).alloc (by first | omega | (simp <;> omega)) _).alloc (by first | omega | (simp <;> omega)) _
  ·exact (Row.new _ _ 24 (by first | omega | (simp <;> omega)) (six_lt (f := fun _ => 0) rfl)).alloc (by first | omega | (simp <;> omega)) _
  ·exact (Row.new _ _ 24 (by first | omega | (simp <;> omega)) (six_lt (f := fun _ => 0) rfl)).congr (fun j _ => by rw [Nat.sub_self]; rfl)
  ·exact (((Below.refl _ _).alloc (Nat.le_refl _) _).alloc (by first | omega | (simp <;> omega)) _).alloc (by first | omega | (simp <;> omega)) _
 case round =>
  obtain ⟨k, hk0, hk, rfl, hA, hZ, hS, hw⟩ := hrel
  by_cases hlt : k < 6
  ·obtain ⟨hS1, hS2⟩ := hS (k - n / 64) (by omega)
   have hA1 := (hA k hlt).1
   have HR : Hid (_ ∧ _ ∧ _ ∧ _) := ⟨hA, hZ, hS, hw⟩
   have es : k + 1 - n / 64 = k - n / 64 + 1 := by omega
   have Es : Hid _ := es
   clear es
   by_cases hgt : k + 1 < 6
   ·have hA2 := (hA (k + 1) (by omega)).1
    clear hA hZ hS hw
    go_wp2
    go_region
    go_wp2
    go_roundw
    case rel =>
     obtain ⟨hA, hZ, hS, hw⟩ := HR.out
     exact ⟨k + 1, by omega, by omega, by go_num, ((hA.set_other _ (by simp <;> omega)).set_other _ (by simp <;> omega)).drew, ((hZ.set_other _ (by simp <;> omega)).set_other _ (by simp <;> omega)).drew, (((hS.set _).set _).congr (fun j _ => by rw [Es.out]; exact (upd_upd _ _ _ _ j).trans (part_step (down_word a n k hk0) j))).drew, ((hw.setCell (by simp <;> omega) _).setCell (by simp <;> omega) _).drew⟩
    case measure => simp [RowKit.intOf]; omega
   ·clear hA hZ hS hw
    have hk5 : k = 5 := by omega
    subst hk5
    rw [show ((5 : Nat) : Int) = 5 from rfl]
    go_wp2
    go_roundw
    case rel =>
     obtain ⟨hA, hZ, hS, hw⟩ := HR.out
     exact ⟨5 + 1, by omega, by omega, by go_num, hA.set_other _ (by simp <;> omega), hZ.set_other _ (by simp <;> omega), (hS.set _).congr (fun j _ => by rw [Es.out]; exact part_step (down_last a n HA.out hk0) j), hw.setCell (by simp <;> omega) _⟩
    case measure => simp [RowKit.intOf]
  ·have hk6 : k = 6 := by omega
   subst hk6
   obtain ⟨s0, s1, s2, s3, s4, s5⟩ := (hS.congr (f' := wd (a / 2 ^ n)) (fun j hj => by
    unfold part
    split
    ·rfl
    ·symm
     have h1 : (64 * (6 - n / 64)) ≤ 64 * j := by omega
     have h2 : a / 2 ^ n < 2 ^ (64 * (6 - n / 64)) := by
      rw [Nat.div_lt_iff_lt_mul (Nat.two_pow_pos n), ← Nat.pow_add]
      exact Nat.lt_of_lt_of_le HA.out (big_le _ (by omega))
     exact wd_top' _ _ _ h2 (by omega))).reads
   obtain ⟨z0, z1, z2, z3, z4, z5⟩ := hZ.writes
   obtain ⟨y0, y1, y2, y3, y4, y5⟩ := hZ.reads
   clear hA hZ hS
   rw [show ((6 : Nat) : Int) = 6 from rfl]
   go_wp2
   refine bodyPost_ret (v := N (a / 2 ^ n)) ?_ rfl ⟨rfl, ?_⟩
   ·simp [results, Tryz.results103, go_sem, *]
   ·exact below6 hw (by omega) _ _ _ _ _ _
end Go.Proofs.YtmanelnacifgcaaGreatDoor
end
section
namespace Go.Proofs.YtmanelnacifgcaaGreatDoor
open Go.RowKit
/-- What Shift tells. -/
def shv (a : Nat) (n : Int) : Nat := if 384 ≤ n ∨ n ≤ -384 then 0 else if n < 0 then a / 2 ^ (-n).toNat else a * 2 ^ n.toNat % big
theorem bcell {W w1 : World} (hb : Below W.heap.size W w1) : (∀ b o, b < W.heap.size → w1.cell? ⟨b, o, none⟩ = W.cell? ⟨b, o, none⟩) ∧ (∀ b o, b < W.heap.size → w1.frozen? ⟨b, o, none⟩ = W.frozen? ⟨b, o, none⟩) :=
 ⟨fun b o h => hb.cell (p := ⟨b, o, none⟩) h, fun b o h => hb.frozen (p := ⟨b, o, none⟩) h⟩
theorem wd_zero (j : Nat) : wd 0 j = 0 := by unfold wd; rw [Nat.zero_div]; rfl
set_option maxHeartbeats 400000 in
theorem shift_none (a : Nat) (n : Int) (h : 384 ≤ n ∨ n ≤ -384) (w : World) :
  Calls Tryz.prog 61 #[N a, .int .i64 n] w (Rt w (N 0)) := by
 by_cases h1 : 384 ≤ n
 ·have hd : decide (384 ≤ n) = true := decide_eq_true h1
  clear h
  go_enter Tryz.func61, Tryz.ntmps61
  go_wp2
  refine bodyPost_ret (v := N 0) ?_ rfl ⟨rfl, ?_⟩
  ·simp [results, Tryz.results61, go_sem, wd_zero]
  ·exact ((Below.refl _ _).alloc (Nat.le_refl _) _).alloc (by first | omega | (simp <;> omega)) _
 ·have h2 : n ≤ -384 := by omega
  have hd : decide (384 ≤ n) = false := decide_eq_false h1
  have hd2 : decide (n ≤ -384) = true := decide_eq_true h2
  clear h h1
  go_enter Tryz.func61, Tryz.ntmps61
  go_wp2
  refine bodyPost_ret (v := N 0) ?_ rfl ⟨rfl, ?_⟩
  ·simp [results, Tryz.results61, go_sem, wd_zero]
  ·exact ((Below.refl _ _).alloc (Nat.le_refl _) _).alloc (by first | omega | (simp <;> omega)) _
set_option maxHeartbeats 400000 in
theorem shift_up (a m : Nat) (h : m < 384) (w : World) :
  Calls Tryz.prog 61 #[N a, .int .i64 m] w (Rt w (N (a * 2 ^ m % big))) := by
 have hd : decide (384 ≤ (m : Int)) = false := decide_eq_false (by omega)
 have hd2 : decide ((m : Int) ≤ -384) = false := decide_eq_false (by omega)
 go_enter Tryz.func61, Tryz.ntmps61
 go_wp2_with (go_at_call 104; refine (shiftUp_any a m h _).mono ?_; rintro e w1 ⟨rfl, hb⟩; obtain ⟨hc, hf⟩ := bcell hb)
 have hz : w.heap.size + 2 ≤ w1.heap.size := by have := hb.size; simp at this; omega
 refine bodyPost_ret (v := N (a * 2 ^ m % big)) ?_ rfl ⟨rfl, ?_⟩
 ·simp [results, Tryz.results61, go_sem, hc]
 ·exact below6 ((((Below.refl _ _).alloc (Nat.le_refl _) _).alloc (by first | omega | (simp <;> omega)) _).trans (hb.mono (by simp <;> omega))) (by omega) _ _ _ _ _ _
set_option maxHeartbeats 400000 in
theorem shift_down (a : Nat) (n : Int) (ha : a < big) (h : -384 < n) (h0 : n < 0) (w : World) :
  Calls Tryz.prog 61 #[N a, .int .i64 n] w (Rt w (N (a / 2 ^ (-n).toNat))) := by
 have hd : decide (384 ≤ n) = false := decide_eq_false (by omega)
 have hd2 : decide (n ≤ -384) = false := decide_eq_false (by omega)
 have hc := fun w => shiftDown_any a (-n).toNat ha (by omega) w
 rw [Int.toNat_of_nonneg (show 0 ≤ -n by omega)] at hc
 have HC : Hid _ := hc
 generalize a / 2 ^ (-n).toNat = R at HC ⊢
 clear ha hc
 go_enter Tryz.func61, Tryz.ntmps61
 go_wp2_with (go_at_call 103; refine (HC.out _).mono ?_; rintro e w1 ⟨rfl, hb⟩; obtain ⟨hc, hf⟩ := bcell hb)
 refine bodyPost_ret (v := N R) ?_ rfl ⟨rfl, ?_⟩
 ·simp [results, Tryz.results61, go_sem, hc]
 ·exact below6 ((((Below.refl _ _).alloc (Nat.le_refl _) _).alloc (by first | omega | (simp <;> omega)) _).trans (hb.mono (by simp <;> omega))) (by omega) _ _ _ _ _ _
theorem shift_any (a : Nat) (n : Int) (ha : a < big) (w : World) :
  Calls Tryz.prog 61 #[N a, .int .i64 n] w (Rt w (N (shv a n))) := by
 unfold shv
 by_cases h : 384 ≤ n ∨ n ≤ -384
 ·rw [if_pos h]; exact shift_none a n h w
 ·rw [if_neg h]
  by_cases h2 : n < 0
  ·rw [if_pos h2]
   exact shift_down a n ha (by omega) h2 w
  ·rw [if_neg h2]
   obtain ⟨m, rfl⟩ := Int.eq_ofNat_of_zero_le (show 0 ≤ n by omega)
   rw [Int.toNat_natCast]
   exact shift_up a m (by omega) w
end Go.Proofs.YtmanelnacifgcaaGreatDoor
end
section
namespace Go.Proofs.YtmanelnacifgcaaGreatDoor
open Go.RowKit
/-- What an operation of the region is: it tells a value and leaves the world; its guard shuts it out; it calls, and the answer is a value; it makes a block of these cells; it lays these cells into the block that operation j made of those. -/
def Kind : Type := ((Value)) ⊕ (Unit) ⊕ ((Value)) ⊕ ((List Value) × (TypeId)) ⊕ ((Nat) × (List Value) × (List Value))
abbrev Kind.q (v : Value) : Kind := Sum.inl v
abbrev Kind.gone : Kind := Sum.inr (Sum.inl ())
abbrev Kind.call (v : Value) : Kind := Sum.inr (Sum.inr (Sum.inl v))
abbrev Kind.made (zs : List Value) (t : TypeId) : Kind := Sum.inr (Sum.inr (Sum.inr (Sum.inl (zs, t))))
abbrev Kind.laid (j : Nat) (zs : List Value) (cs : List Value) : Kind := Sum.inr (Sum.inr (Sum.inr (Sum.inr (j, zs, cs))))
theorem Kind.each {M : Kind → Prop} (q : ∀ (v : Value), M (Kind.q v)) (gone : M Kind.gone) (call : ∀ (v : Value), M (Kind.call v)) (made : ∀ (zs : List Value) (t : TypeId), M (Kind.made zs t)) (laid : ∀ (j : Nat) (zs : List Value) (cs : List Value), M (Kind.laid j zs cs)) (k : Kind) : M k := by
  rcases k with v | _ | v | ⟨x0, x1⟩ | ⟨x0, x1, x2⟩
  · exact q _
  · exact gone
  · exact call _
  · exact made _ _
  · exact laid _ _ _
theorem Kind.madeInj {zs zs' : List Value} {t t' : TypeId} (h : Kind.made zs t = Kind.made zs' t') : zs = zs' ∧ t = t' := by
  have h' := Sum.inl.inj (Sum.inr.inj (Sum.inr.inj (Sum.inr.inj h)))
  exact ⟨congrArg (fun x => x.1) h', congrArg (fun x => x.2) h'⟩
theorem Kind.laidInj {j j' : Nat} {zs zs' : List Value} {cs cs' : List Value} (h : Kind.laid j zs cs = Kind.laid j' zs' cs') : j = j' ∧ zs = zs' ∧ cs = cs' := by
  have h' := Sum.inr.inj (Sum.inr.inj (Sum.inr.inj (Sum.inr.inj h)))
  exact ⟨congrArg (fun x => x.1) h', congrArg (fun x => x.2.1) h', congrArg (fun x => x.2.2) h'⟩
/-- What lies in its slot behind it; J i: the block that operation i made. -/
def Kind.val (J : Nat → Nat) (i : Nat) : Kind → Value
 | (Sum.inl v) => v
 | (Sum.inr (Sum.inl ())) => undef
 | (Sum.inr (Sum.inr (Sum.inl v))) => v
 | (Sum.inr (Sum.inr (Sum.inr (Sum.inl (_, _))))) => .pointer (some ⟨J i, 0, none⟩)
 | (Sum.inr (Sum.inr (Sum.inr (Sum.inr (_, _, _))))) => undef
/-- The frame behind the region. -/
def zZ (J : Nat → Nat) : Nat → List Oper → List Kind → Act → Act
 | i, o :: os, k :: ks, a => zZ J (i + 1) os ks (a.put o.dst (k.val J i))
 | _, _, _, a => a
theorem put_size (a : Act) (d : Option Tmp) (v : Value) : (a.put d v).tmps.size = a.tmps.size := by
 cases d <;> simp [Act.put]
theorem put_defers' (a : Act) (d : Option Tmp) (v : Value) : (a.put d v).defers = a.defers := by
 cases d <;> rfl
theorem put_other (a : Act) (x : Option Tmp) (v : Value) (d : Tmp) (h : x ≠ some d) : (a.put x v).tmps[d]? = a.tmps[d]? := by
 cases x with
 | none => rfl
 | some e => exact Array.getElem?_setIfInBounds_ne (fun he => h (by rw [he]))
theorem put_same (a : Act) (v : Value) (d : Tmp) (h : d < a.tmps.size) : (a.put (some d) v).tmps[d]? = some v := by
 simp [Act.put, h]
theorem fill_defers (J : Nat → Nat) : ∀ (i : Nat) (os : List Oper) (ks : List Kind) (a : Act), (zZ J i os ks a).defers = a.defers
 | _, [], _, _ => rfl
 | _, _ :: _, [], _ => rfl
 | i, o :: os, k :: ks, a => by
  unfold zZ
  rw [fill_defers J (i + 1) os ks, put_defers']
theorem fill_other (J : Nat → Nat) (d : Tmp) : ∀ (i : Nat) (os : List Oper) (ks : List Kind) (a : Act), (∀ o ∈ os, o.dst ≠ some d) → (zZ J i os ks a).tmps[d]? = a.tmps[d]?
 | _, [], _, _, _ => rfl
 | _, _ :: _, [], _, _ => rfl
 | i, o :: os, k :: ks, a, h => by
  unfold zZ
  rw [fill_other J d (i + 1) os ks _ (fun o' ho => h o' (List.mem_cons_of_mem _ ho)), put_other _ _ _ _ (h o (List.mem_cons_self ..))]
theorem fill_at (J : Nat → Nat) (d : Tmp) (o : Oper) (k : Kind) (hd : o.dst = some d) : ∀ (j i : Nat) (os : List Oper) (ks : List Kind) (a : Act), os[j]? = some o → ks[j]? = some k → d < a.tmps.size →
  (∀ j' o', j < j' → os[j']? = some o' → o'.dst ≠ some d) → (zZ J i os ks a).tmps[d]? = some (k.val J (i + j))
 | _, _, [], _, _, h, _, _, _ => by simp at h
 | _, _, _ :: _, [], _, _, h, _, _ => by simp at h
 | 0, i, o' :: os, k' :: ks, a, ho, hk, hs, hl => by
  simp at ho hk
  subst ho hk
  unfold zZ
  rw [fill_other J d (i + 1) os ks _ (fun o2 ho2 => ?_), hd, put_same _ _ _ hs]
  ·rfl
  ·obtain ⟨m, hm, e⟩ := List.getElem_of_mem ho2
   exact hl (m + 1) o2 (by omega) (by rw [List.getElem?_cons_succ, List.getElem?_eq_getElem hm, e])
 | j + 1, i, o' :: os, k' :: ks, a, ho, hk, hs, hl => by
  unfold zZ
  rw [fill_at J d o k hd j (i + 1) os ks _ (by simpa using ho) (by simpa using hk) (by rw [put_size]; exact hs) (fun j' o2 h1 h2 => hl (j' + 1) o2 (by omega) (by simpa using h2))]
  rw [show i + 1 + j = i + (j + 1) by omega]
/-- Block g of w holds these cells, and they may be written. -/
def Blk (w : World) (g : Nat) (cs : List Value) : Prop := ∀ j v, cs[j]? = some v → w.cell? ⟨g, j, none⟩ = some v ∧ w.frozen? ⟨g, j, none⟩ = false
theorem Blk.below {w w' : World} {B g : Nat} {cs : List Value} (h : Blk w g cs) (hb : Below B w w') (hg : g < B) : Blk w' g cs := fun j v hv =>
 ⟨by rw [hb.cell (p := ⟨g, j, none⟩) hg]; exact (h j v hv).1, by rw [hb.frozen (p := ⟨g, j, none⟩) hg]; exact (h j v hv).2⟩
theorem Blk.alloc {w : World} {g : Nat} {cs : List Value} (h : Blk w g cs) (hg : g < w.heap.size) (o : Obj) : Blk (w.alloc o) g cs := fun j v hv =>
 ⟨by rw [World.cell?_alloc_past _ _ _ hg]; exact (h j v hv).1, by rw [World.frozen?_alloc_past _ _ _ hg]; exact (h j v hv).2⟩
theorem Blk.new (w : World) (cs : List Value) (t : TypeId) : Blk (w.alloc (.cells cs.toArray t)) w.heap.size cs := fun j v hv =>
 ⟨by rw [World.cell?_alloc_at _ _ _ _ rfl]; simpa using hv, World.frozen?_alloc_at _ _ _ _ rfl⟩
theorem Blk.laid {w : World} {g : Nat} {zs cs : List Value} (h : Blk w g zs) (hl : zs.length = cs.length) : Blk (w.setCells g 0 cs) g cs := fun j v hv => by
 obtain ⟨hj, e⟩ := List.getElem?_eq_some_iff.1 hv
 have hz : zs[j]? = some (zs[j]'(by omega)) := List.getElem?_eq_getElem _
 refine ⟨?_, by rw [World.frozen?_setCells]; exact (h j _ hz).2⟩
 have := World.cell?_setCells_in g cs 0 w (fun i hi => by
  have := (h i _ (List.getElem?_eq_getElem (show i < zs.length by omega))).1
  rw [Nat.zero_add, this]; rfl) j hj
 rw [Nat.zero_add] at this
 rw [this, e]
theorem Blk.other {w : World} {g g' : Nat} {cs cs' : List Value} (h : Blk w g cs) (hg : g ≠ g') : Blk (w.setCells g' 0 cs') g cs := fun j v hv =>
 ⟨by rw [World.cell?_setCells_out g' cs' 0 w _ (fun e => absurd e hg)]; exact (h j v hv).1, by rw [World.frozen?_setCells]; exact (h j v hv).2⟩
theorem size_setCells (g : Nat) : ∀ (cs : List Value) (o : Nat) (w : World), (w.setCells g o cs).heap.size = w.heap.size
 | [], _, _ => rfl
 | v :: r, o, w => by rw [World.setCells, size_setCells g r, World.size_setCell]
theorem zV {B : Nat} {w0 : World} (g : Nat) (hg : B ≤ g) : ∀ (cs : List Value) (o : Nat) (w : World), Below B w0 w → Below B w0 (w.setCells g o cs)
 | [], _, _, h => h
 | v :: r, o, w, h => by
  rw [World.setCells]
  exact zV g hg r (o + 1) _ (h.setCell (p := ⟨g, o, none⟩) hg v)
section
variable {P : Program} {ops : Array Oper} {ks : List Kind} {a₀ : Act} {w₀ : World} {Q : Exit → Act → World → Prop}
/-- What is known of the memory when the operations l have come up. -/
structure Mem (ks : List Kind) (w₀ : World) (l : Array Bool) (J : Nat → Nat) (w : World) : Prop where
 below : Below w₀.heap.size w₀ w
 made : ∀ i zs t, ks[i]? = some (.made zs t) → l.getD i false = true → w₀.heap.size ≤ J i ∧ J i < w.heap.size
 raw : ∀ i zs t, ks[i]? = some (.made zs t) → l.getD i false = true → (∀ s zs' cs, ks[s]? = some (.laid i zs' cs) → l.getD s false = false) → Blk w (J i) zs
 full : ∀ s i zs cs, ks[s]? = some (.laid i zs cs) → l.getD s false = true → Blk w (J i) cs ∧ J i < w.heap.size
 order : ∀ s i zs cs, ks[s]? = some (.laid i zs cs) → l.getD s false = true → l.getD i false = true
 apart : ∀ i j zs t zs' t', ks[i]? = some (.made zs t) → ks[j]? = some (.made zs' t') → l.getD i false = true → l.getD j false = true → i ≠ j → J i ≠ J j
/-- What is to be shown of an operation. -/
def KindOk (P : Program) (ops : Array Oper) (S : World → Prop) (F : (Nat → Nat) → Act) (o : Oper) : Kind → Prop
 | (Sum.inl v) => ∀ J, Region.wanted o (yielded ops (F J).tmps) = true ∧ ∀ w, S w → (execOp (F J).eval o).run P w = .ok (.value v) w
 | (Sum.inr (Sum.inl ())) => ∀ J, Region.wanted o (yielded ops (F J).tmps) = false
 | (Sum.inr (Sum.inr (Sum.inl v))) => ∀ J, Region.wanted o (yielded ops (F J).tmps) = true ∧ ∀ w, S w → ∃ f args, (execOp (F J).eval o).run P w = .ok (.enter f args) w ∧ Calls P f args w (fun e w' => e = .returned v ∧ Below w.heap.size w w')
 | (Sum.inr (Sum.inr (Sum.inr (Sum.inl (zs, t))))) => ∀ J, Region.wanted o (yielded ops (F J).tmps) = true ∧ ∀ w, (execOp (F J).eval o).run P w = .ok (.value (.pointer (some ⟨w.heap.size, 0, none⟩))) (w.alloc (.cells zs.toArray t))
 | (Sum.inr (Sum.inr (Sum.inr (Sum.inr (j, zs, cs))))) => ∀ J, Region.wanted o (yielded ops (F J).tmps) = true ∧ o.dst = none ∧ zs.length = cs.length ∧ ∀ w, Blk w (J j) zs → (execOp (F J).eval o).run P w = .ok .skip (w.setCells (J j) 0 cs)
def AllOk (P : Program) (ops : Array Oper) (S : World → Prop) (F : (Nat → Nat) → Act) : List Oper → List Kind → Prop
 | o :: os, k :: ks => KindOk P ops S F o k ∧ AllOk P ops S F os ks
 | _, _ => True
theorem AllOk.at {S : World → Prop} {F : (Nat → Nat) → Act} : ∀ {os : List Oper} {ks : List Kind}, AllOk P ops S F os ks → ∀ {i : Nat} {o : Oper} {k : Kind}, os[i]? = some o → ks[i]? = some k → KindOk P ops S F o k
 | [], _, _, _, _, _, h, _ => by simp at h
 | _ :: _, [], _, _, _, _, _, h => by simp at h
 | o' :: os, k' :: ks, h, 0, o, k, ho, hk => by simp at ho hk; subst ho hk; exact h.1
 | o' :: os, k' :: ks, h, i + 1, o, k, ho, hk => AllOk.at (os := os) (ks := ks) h.2 (by simpa using ho) (by simpa using hk)
/-- Who waits for operation j. -/
def waits (o : Oper) (j : Nat) : Bool := o.after.any fun e => Region.binds .any e && e.on == j
def eachOp (ops : Array Oper) (p : Nat → Oper → Bool) : Bool := (List.range ops.size).all fun i => match ops[i]? with | none => true | some o => p i o
theorem zR {p : Nat → Oper → Bool} (h : eachOp ops p = true) {i : Nat} {o : Oper} (ho : ops[i]? = some o) : p i o = true := by
 have hi : i < ops.size := (Array.getElem?_eq_some_iff.1 ho).1
 have := List.all_eq_true.1 h i (List.mem_range.2 hi)
 rw [ho] at this
 exact this
/-- The region is such that what it says of the order suffices: nobody waits for a later one; every slot is there; who looks at a slot waits for all that write it; no slot is written twice; who lays cells waits for the block's maker, and nobody else lays there. -/
def orderly (ops : Array Oper) (ks : List Kind) (n : Nat) : Bool :=
 Region.noSelect ops && ks.length == ops.size &&
 eachOp ops (fun i o => o.after.all fun e => !Region.binds .any e || decide (e.on < i)) &&
 eachOp ops (fun _ o => match o.dst with | none => true | some d => decide (d < n)) &&
 eachOp ops (fun _ o => (o.looksAt ops).all fun d => eachOp ops fun j oj => oj.dst != some d || waits o j) &&
 eachOp ops (fun i o => match o.dst with | none => true | some d => eachOp ops fun j oj => j == i || oj.dst != some d) &&
 eachOp ops (fun i o => match ks[i]? with | some ((Sum.inr (Sum.inr (Sum.inr (Sum.inr (j, _, _)))))) => waits o j && eachOp ops fun s _ => s == i || (match ks[s]? with | some ((Sum.inr (Sum.inr (Sum.inr (Sum.inr (j', _, _)))))) => j' != j | _ => true) | _ => true)
structure Orderly (ops : Array Oper) (ks : List Kind) (n : Nat) : Prop where
 noSelect : Region.noSelect ops = true
 size : ks.length = ops.size
 up : ∀ {i : Nat} {o : Oper}, ops[i]? = some o → ∀ e ∈ o.after, Region.binds .any e = true → e.on < i
 dst : ∀ {i : Nat} {o : Oper} {d : Tmp}, ops[i]? = some o → o.dst = some d → d < n
 looks : ∀ {i : Nat} {o : Oper} {d : Tmp} {j : Nat} {oj : Oper}, ops[i]? = some o → d ∈ o.looksAt ops → ops[j]? = some oj → oj.dst = some d → waits o j = true
 once : ∀ {i : Nat} {o : Oper} {d : Tmp} {j : Nat} {oj : Oper}, ops[i]? = some o → o.dst = some d → ops[j]? = some oj → oj.dst = some d → j = i
 laid : ∀ {i : Nat} {o : Oper} {j : Nat} {zs cs : List Value}, ops[i]? = some o → ks[i]? = some (.laid j zs cs) → waits o j = true
 lone : ∀ {i : Nat} {o : Oper} {j : Nat} {zs cs : List Value} {s : Nat} {zs' cs' : List Value}, ops[i]? = some o → ks[i]? = some (.laid j zs cs) → ks[s]? = some (.laid j zs' cs') → s = i
theorem Orderly.of {n : Nat} (h : orderly ops ks n = true) : Orderly ops ks n := by
 unfold orderly at h
 simp only [Bool.and_eq_true] at h
 obtain ⟨⟨⟨⟨⟨⟨h1, h2⟩, h3⟩, h4⟩, h5⟩, h6⟩, h7⟩ := h
 have hsz : ks.length = ops.size := by simpa using h2
 refine ⟨h1, hsz, ?_, ?_, ?_, ?_, ?_, ?_⟩
 ·intro i o ho e he hb
  have := zR h3 ho
  have := Array.all_eq_true_iff_forall_mem.1 this e he
  simpa [hb] using this
 ·intro i o d ho hd
  have := zR h4 ho
  rw [hd] at this
  simpa using this
 ·intro i o d j oj ho hd hj hdj
  have := zR (List.all_eq_true.1 (zR h5 ho) d hd) hj
  simpa [hdj] using this
 ·intro i o d j oj ho hd hj hdj
  have := zR h6 ho
  rw [hd] at this
  have := zR this hj
  simpa [hdj] using this
 ·intro i o j zs cs ho hk
  have := zR h7 ho
  rw [hk] at this
  simp only [Bool.and_eq_true] at this
  exact this.1
 ·intro i o j zs cs s zs' cs' ho hk hs
  have := zR h7 ho
  rw [hk] at this
  simp only [Bool.and_eq_true] at this
  have hlt : s < ops.size := by rw [← hsz]; exact (List.getElem?_eq_some_iff.1 hs).1
  have := zR this.2 (Array.getElem?_eq_getElem hlt)
  rw [hs] at this
  simpa using this
def LaidOk (all : List Kind) : List Kind → Prop
 | [] => True
 | (Sum.inr (Sum.inr (Sum.inr (Sum.inr (j, zs, _))))) :: r => (∃ t, all[j]? = some (.made zs t)) ∧ LaidOk all r
 | _ :: r => LaidOk all r
theorem LaidOk.at {all : List Kind} : ∀ {r : List Kind}, LaidOk all r → ∀ {s j : Nat} {zs cs : List Value}, r[s]? = some (.laid j zs cs) → ∃ t, all[j]? = some (.made zs t)
 | [], _, _, _, _, _, h => by simp at h
 | k :: r, hl, 0, j, zs, cs, h => by
  simp at h
  subst h
  exact hl.1
 | k :: r, hl, s + 1, j, zs, cs, h => by
  have hr : LaidOk all r := by
   cases k using Kind.each <;> first | exact hl | exact hl.2
  exact hr.at (s := s) (by simpa using h)
theorem waits_spec {o : Oper} {j : Nat} (h : waits o j = true) {l : Array Bool} (hl : ∀ e ∈ o.after, Region.binds .any e = true → l.getD e.on false = true) : l.getD j false = true := by
 unfold waits at h
 obtain ⟨e, he, hb⟩ := Array.any_eq_true'.1 h
 simp only [Bool.and_eq_true, beq_iff_eq] at hb
 rw [← hb.2]
 exact hl e he hb.1
structure Agree (ops : Array Oper) (ks : List Kind) (a₀ : Act) (l : Array Bool) (J : Nat → Nat) (a : Act) : Prop where
 defers : a.defers = a₀.defers
 size : a.tmps.size = a₀.tmps.size
 slots : ∀ d, (∀ i o, ops[i]? = some o → o.dst = some d → l.getD i false = true) → a.tmps[d]? = (zZ J 0 ops.toList ks a₀).tmps[d]?
theorem kind_at {n : Nat} (hO : Orderly ops ks n) {i : Nat} {o : Oper} (ho : ops[i]? = some o) : ∃ k, ks[i]? = some k := by
 have hi : i < ops.size := (Array.getElem?_eq_some_iff.1 ho).1
 exact ⟨_, List.getElem?_eq_getElem (by rw [hO.size]; exact hi)⟩
theorem fill_one {n : Nat} (hO : Orderly ops ks n) (hn : n = a₀.tmps.size) (J : Nat → Nat) {i : Nat} {o : Oper} {k : Kind} {d : Tmp} (ho : ops[i]? = some o) (hk : ks[i]? = some k) (hd : o.dst = some d) :
  (zZ J 0 ops.toList ks a₀).tmps[d]? = some (k.val J i) := by
 have := fill_at J d o k hd i 0 ops.toList ks a₀ (by simpa using ho) hk (by rw [← hn]; exact hO.dst ho hd) (fun j' o' hlt ho' hd' => by
  have := hO.once ho hd (by simpa using ho' : ops[j']? = some o') hd'
  omega)
 rw [Nat.zero_add] at this
 exact this
theorem Agree.step {n : Nat} (hO : Orderly ops ks n) (hn : n = a₀.tmps.size) {l : Array Bool} {J J' : Nat → Nat} {a : Act} (h : Agree ops ks a₀ l J a) {i : Nat} {o : Oper} {k : Kind} (ho : ops[i]? = some o) (hk : ks[i]? = some k)
  (hJ : ∀ j, j ≠ i → J' j = J j) : Agree ops ks a₀ (l.setIfInBounds i true) J' (a.put o.dst (k.val J' i)) := by
 refine ⟨by rw [put_defers']; exact h.defers, by rw [put_size]; exact h.size, fun d hd => ?_⟩
 by_cases e : o.dst = some d
 ·rw [fill_one hO hn J' ho hk e, e, put_same _ _ _ (by rw [h.size, ← hn]; exact hO.dst ho e)]
 ·rw [put_other _ _ _ _ e, h.slots d (fun j oj hj hdj => by
   have hne : i ≠ j := fun he => by subst he; rw [ho] at hj; injection hj with hj; subst hj; exact e hdj
   have := hd j oj hj hdj
   rw [getD_set_ne false hne] at this
   exact this)]
  by_cases hw : ∃ (j : Nat) (oj : Oper), ops[j]? = some oj ∧ oj.dst = some d
  ·obtain ⟨j, oj, hj, hdj⟩ := hw
   obtain ⟨kj, hkj⟩ := kind_at hO hj
   have hne : j ≠ i := fun he => by subst he; rw [ho] at hj; injection hj with hj; subst hj; exact e hdj
   rw [fill_one hO hn J hj hkj hdj, fill_one hO hn J' hj hkj hdj]
   cases kj using Kind.each <;> first | rfl | (show some (Value.pointer _) = some (Value.pointer _); rw [hJ j hne])
  ·have hno : ∀ o' ∈ ops.toList, o'.dst ≠ some d := fun o' ho' hd' => by
    obtain ⟨j, hj, ej⟩ := List.getElem_of_mem ho'
    exact hw ⟨j, o', by rw [← Array.getElem?_toList, List.getElem?_eq_getElem hj, ej], hd'⟩
   rw [fill_other J d 0 _ _ _ hno, fill_other J' d 0 _ _ _ hno]
/-- An operation that may come up sees what it will have seen in the end. -/
theorem Agree.sees {n : Nat} (hO : Orderly ops ks n) {l : Array Bool} {J : Nat → Nat} {a : Act} (h : Agree ops ks a₀ l J a) {i : Nat} {o : Oper} (ho : ops[i]? = some o)
  (hl : ∀ e ∈ o.after, Region.binds .any e = true → l.getD e.on false = true) :
  execOp a.eval o = execOp (zZ J 0 ops.toList ks a₀).eval o ∧ Region.wanted o (yielded ops a.tmps) = Region.wanted o (yielded ops (zZ J 0 ops.toList ks a₀).tmps) := by
 have hs : ∀ d ∈ o.looksAt ops, a.tmps[d]? = (zZ J 0 ops.toList ks a₀).tmps[d]? := fun d hd =>
  h.slots d (fun j oj hj hdj => waits_spec (hO.looks ho hd hj hdj) hl)
 refine ⟨execOp_congr o (fun cs b => Region.noSelect_spec hO.noSelect i o cs b ho) (fun x hx => ?_), ?_⟩
 ·cases x with
  | tmp t =>
   have := hs t (List.mem_append_left _ (List.mem_filterMap.2 ⟨.tmp t, by simpa using hx, rfl⟩))
   simp only [Act.eval, Array.getD_eq_getD_getElem?, this]
  | _ => rfl
 ·unfold Region.wanted
  cases hg : o.guard with
  | none => rfl
  | some gw =>
   obtain ⟨g, want⟩ := gw
   have hy : yielded ops a.tmps g = yielded ops (zZ J 0 ops.toList ks a₀).tmps g := by
    unfold yielded
    cases ht : (ops[g]?).bind (·.dst) with
    | none => rfl
    | some t =>
     have := hs t (by simp [Oper.looksAt, hg, ht])
     simp only [Option.bind_some, this]
   simp only [hy]
theorem Agree.whole {l : Array Bool} {J : Nat → Nat} {a : Act} (h : Agree ops ks a₀ l J a) (hl : ∀ i, i < ops.size → l.getD i false = true) : a = zZ J 0 ops.toList ks a₀ := by
 have ht : a.tmps = (zZ J 0 ops.toList ks a₀).tmps := Array.ext_getElem? fun d =>
  h.slots d (fun i o ho _ => hl i (Array.getElem?_eq_some_iff.1 ho).1)
 have hd : a.defers = (zZ J 0 ops.toList ks a₀).defers := by rw [h.defers, fill_defers]
 cases a
 cases hf : zZ J 0 ops.toList ks a₀
 rw [hf] at ht hd
 simp only at ht hd
 rw [ht, hd]
/-! The memory, step by step. -/
theorem getD_true {l : Array Bool} {i j : Nat} (h : l.getD j false = true) : (l.setIfInBounds i true).getD j false = true := by
 by_cases e : i = j
 ·subst e
  have hi : i < l.size := by
   rcases Nat.lt_or_ge i l.size with h' | h'
   ·exact h'
   ·simp [Array.getElem?_eq_none h'] at h
  simp [hi]
 ·rw [getD_set_ne false e]; exact h
theorem getD_same {l : Array Bool} {i : Nat} (h : l.getD i true = false) : l.getD i false = false ∧ (l.setIfInBounds i true).getD i false = true := by
 rcases Nat.lt_or_ge i l.size with h' | h'
 ·simp [h'] at h
  simp [h', h]
 ·simp [Array.getElem?_eq_none h'] at h
theorem Mem.still {l : Array Bool} {J : Nat → Nat} {w w' : World} (h : Mem ks w₀ l J w) (hb : Below w.heap.size w w') {i : Nat} {k : Kind} (hk : ks[i]? = some k) (h1 : ∀ zs t, k ≠ .made zs t) (h2 : ∀ j zs cs, k ≠ .laid j zs cs) :
  Mem ks w₀ (l.setIfInBounds i true) J w' := by
 have ne1 : ∀ j zs t, ks[j]? = some (.made zs t) → i ≠ j := fun j zs t hj he => by subst he; rw [hk] at hj; injection hj with hj; exact h1 _ _ hj
 have ne2 : ∀ s j zs cs, ks[s]? = some (.laid j zs cs) → i ≠ s := fun s j zs cs hj he => by subst he; rw [hk] at hj; injection hj with hj; exact h2 _ _ _ hj
 refine ⟨h.below.trans (hb.mono h.below.size), ?_, ?_, ?_, ?_, ?_⟩
 ·intro j zs t hj hl
  rw [getD_set_ne false (ne1 j zs t hj)] at hl
  obtain ⟨x, y⟩ := h.made j zs t hj hl
  exact ⟨x, Nat.lt_of_lt_of_le y hb.size⟩
 ·intro j zs t hj hl hs
  rw [getD_set_ne false (ne1 j zs t hj)] at hl
  exact (h.raw j zs t hj hl (fun s zs' cs hs' => by have := hs s zs' cs hs'; rwa [getD_set_ne false (ne2 s j zs' cs hs')] at this)).below hb (h.made j zs t hj hl).2
 ·intro s j zs cs hs hl
  rw [getD_set_ne false (ne2 s j zs cs hs)] at hl
  exact ⟨(h.full s j zs cs hs hl).1.below hb (h.full s j zs cs hs hl).2, Nat.lt_of_lt_of_le (h.full s j zs cs hs hl).2 hb.size⟩
 ·intro s j zs cs hs hl
  rw [getD_set_ne false (ne2 s j zs cs hs)] at hl
  exact getD_true (h.order s j zs cs hs hl)
 ·intro x y zs t zs' t' hx hy hlx hly hne
  rw [getD_set_ne false (ne1 x zs t hx)] at hlx
  rw [getD_set_ne false (ne1 y zs' t' hy)] at hly
  exact h.apart x y zs t zs' t' hx hy hlx hly hne
theorem Mem.make {l : Array Bool} {J : Nat → Nat} {w : World} (h : Mem ks w₀ l J w) {i : Nat} {zs : List Value} {t : TypeId} (hk : ks[i]? = some (.made zs t)) (hun : l.getD i true = false) :
  Mem ks w₀ (l.setIfInBounds i true) (fun j => if j = i then w.heap.size else J j) (w.alloc (.cells zs.toArray t)) := by
 obtain ⟨hf, _⟩ := getD_same hun
 have ne2 : ∀ s j zs cs, ks[s]? = some (.laid j zs cs) → i ≠ s := fun s j zs cs hj he => by subst he; rw [hk] at hj; injection hj with hj; cases hj
 have hsz := h.below.size
 refine ⟨h.below.alloc hsz _, ?_, ?_, ?_, ?_, ?_⟩
 ·intro j zs' t' hj hl
  by_cases e : j = i
  ·subst e
   simp only [if_pos, World.size_alloc]
   omega
  ·rw [getD_set_ne false (Ne.symm e)] at hl
   have := h.made j zs' t' hj hl
   simp only [if_neg e, World.size_alloc]
   omega
 ·intro j zs' t' hj hl hs
  by_cases e : j = i
  ·subst e
   rw [hk] at hj
   injection hj with hj
   obtain ⟨hj, _⟩ := Kind.madeInj hj
   subst hj
   simp only [if_pos]
   exact Blk.new w zs t
  ·rw [getD_set_ne false (Ne.symm e)] at hl
   simp only [if_neg e]
   exact (h.raw j zs' t' hj hl (fun s z c hs' => by have := hs s z c hs'; rwa [getD_set_ne false (ne2 s j z c hs')] at this)).alloc (h.made j zs' t' hj hl).2 _
 ·intro s j z c hs hl
  rw [getD_set_ne false (ne2 s j z c hs)] at hl
  have e : j ≠ i := fun he => by have := h.order s j z c hs hl; rw [he, hf] at this; cases this
  have := h.full s j z c hs hl
  simp only [if_neg e, World.size_alloc]
  exact ⟨this.1.alloc this.2 _, by omega⟩
 ·intro s j z c hs hl
  rw [getD_set_ne false (ne2 s j z c hs)] at hl
  exact getD_true (h.order s j z c hs hl)
 ·intro x y zs1 t1 zs2 t2 hx hy hlx hly hne
  by_cases ex : x = i
  ·have ey : y ≠ i := fun he => hne (by rw [ex, he])
   rw [getD_set_ne false (Ne.symm ey)] at hly
   have := h.made y zs2 t2 hy hly
   simp only [if_pos ex, if_neg ey]
   omega
  ·rw [getD_set_ne false (Ne.symm ex)] at hlx
   by_cases ey : y = i
   ·have := h.made x zs1 t1 hx hlx
    simp only [if_pos ey, if_neg ex]
    omega
   ·rw [getD_set_ne false (Ne.symm ey)] at hly
    simp only [if_neg ex, if_neg ey]
    exact h.apart x y zs1 t1 zs2 t2 hx hy hlx hly hne
theorem Mem.lay {n : Nat} (hO : Orderly ops ks n) (hL : LaidOk ks ks) {l : Array Bool} {J : Nat → Nat} {w : World} (h : Mem ks w₀ l J w) {s i : Nat} {o : Oper} {zs cs : List Value} (ho : ops[s]? = some o) (hk : ks[s]? = some (.laid i zs cs)) (hlen : zs.length = cs.length)
  (hun : l.getD s true = false) (hli : l.getD i false = true) : Blk w (J i) zs ∧ Mem ks w₀ (l.setIfInBounds s true) J (w.setCells (J i) 0 cs) := by
 obtain ⟨hf, hset⟩ := getD_same hun
 obtain ⟨t, hmi⟩ := hL.at hk
 have ne1 : ∀ j zs t, ks[j]? = some (.made zs t) → s ≠ j := fun j zs t hj he => by subst he; rw [hk] at hj; injection hj with hj; cases hj
 have hraw : Blk w (J i) zs := h.raw i zs t hmi hli (fun s' z c hs' => by rw [hO.lone ho hk hs']; exact hf)
 refine ⟨hraw, zV _ (h.made i zs t hmi hli).1 _ _ _ h.below, ?_, ?_, ?_, ?_, ?_⟩
 ·intro j zs' t' hj hl
  rw [getD_set_ne false (ne1 j zs' t' hj)] at hl
  rw [size_setCells]
  exact h.made j zs' t' hj hl
 ·intro j zs' t' hj hl hs
  rw [getD_set_ne false (ne1 j zs' t' hj)] at hl
  have e : j ≠ i := fun he => by
   subst he
   have := hs s zs cs hk
   rw [hset] at this
   cases this
  refine (h.raw j zs' t' hj hl (fun s' z c hs' => ?_)).other (h.apart j i zs' t' zs t hj hmi hl hli e)
  have := hs s' z c hs'
  cases hb : l.getD s' false with
  | false => rfl
  | true => rw [getD_true hb] at this; exact this
 ·intro s' j z c hs' hl
  rw [size_setCells]
  by_cases e : s' = s
  ·subst e
   rw [hk] at hs'
   injection hs' with hs'
   obtain ⟨e1, e2, e3⟩ := Kind.laidInj hs'
   subst e1 e2 e3
   exact ⟨hraw.laid hlen, (h.made i zs t hmi hli).2⟩
  ·rw [getD_set_ne false (Ne.symm e)] at hl
   have hj : j ≠ i := fun he => by
    subst he
    exact e (hO.lone ho hk hs')
   obtain ⟨t', hmj⟩ := hL.at hs'
   have := h.full s' j z c hs' hl
   exact ⟨this.1.other (h.apart j i z t' zs t hmj hmi (h.order s' j z c hs' hl) hli hj), this.2⟩
 ·intro s' j z c hs' hl
  by_cases e : s' = s
  ·subst e
   rw [hk] at hs'
   injection hs' with hs'
   obtain ⟨e1, _, _⟩ := Kind.laidInj hs'
   subst e1
   exact getD_true hli
  ·rw [getD_set_ne false (Ne.symm e)] at hl
   exact getD_true (h.order s' j z c hs' hl)
 ·intro x y zs1 t1 zs2 t2 hx hy hlx hly hne
  rw [getD_set_ne false (ne1 x zs1 t1 hx)] at hlx
  rw [getD_set_ne false (ne1 y zs2 t2 hy)] at hly
  exact h.apart x y zs1 t1 zs2 t2 hx hy hlx hly hne
theorem count_set {l : Array Bool} {i : Nat} (h : l.getD i true = false) : (l.setIfInBounds i true).toList.count false + 1 = l.toList.count false := by
 rcases Nat.lt_or_ge i l.size with h' | h'
 ·simp [h'] at h
  rw [Array.toList_setIfInBounds, List.count_set (by simpa using h')]
  have h2 : l.toList[i]'(by simpa using h') = false := by simpa using h
  have h3 : 0 < l.toList.count false := List.count_pos_iff.2 (by rw [← h2]; exact List.getElem_mem _)
  rw [h2, if_pos (by decide), if_neg (by decide)]
  omega
 ·simp [Array.getElem?_eq_none h'] at h
end
end Go.Proofs.YtmanelnacifgcaaGreatDoor
end
section
namespace Go.Proofs.YtmanelnacifgcaaGreatDoor
open Go.RowKit
abbrev O6 (v : Nat) : Obj := .cells #[.int .u64 (wd v 0), .int .u64 (wd v 1), .int .u64 (wd v 2), .int .u64 (wd v 3), .int .u64 (wd v 4), .int .u64 (wd v 5)] 24
abbrev Z6 : Obj := .cells #[.int .u64 0, .int .u64 0, .int .u64 0, .int .u64 0, .int .u64 0, .int .u64 0] 24
/-- The blocks of the list hold its numbers. -/
def Rws (wr : World) (l : List (Nat × Nat)) : Prop := ∀ g v, (g, v) ∈ l → g < wr.heap.size ∧ Row wr g 6 (wd v)
theorem Rws.nil (w : World) : Rws w [] := fun _ _ h => by cases h
theorem Rws.below {wr w1 : World} {l : List (Nat × Nat)} (h : Rws wr l) (hb : Below wr.heap.size wr w1) : Rws w1 l :=
 fun g v hm => ⟨Nat.lt_of_lt_of_le (h g v hm).1 hb.size, Row.below hb (h g v hm).2 (h g v hm).1⟩
theorem Rws.alloc {wr : World} {l : List (Nat × Nat)} (h : Rws wr l) (v : Nat) {g : Nat} (hg : g = wr.heap.size) : Rws (wr.alloc (O6 v)) ((g, v) :: l) := by
 intro g' v' hm
 rcases List.mem_cons.1 hm with h1 | h1
 ·injection h1 with h2 h3
  subst h2 h3 hg
  exact ⟨by simp, Row.new wr _ 24 rfl (six_lt rfl)⟩
 ·exact ⟨by simp; have := (h g' v' h1).1; omega, (h g' v' h1).2.alloc (h g' v' h1).1 _⟩
theorem Rws.drew {wr : World} {l : List (Nat × Nat)} (h : Rws wr l) : Rws wr.drew l := fun g v hm => ⟨(h g v hm).1, (h g v hm).2.drew⟩
theorem Rws.at {wr : World} {l : List (Nat × Nat)} (h : Rws wr l) {g v : Nat} (hm : (g, v) ∈ l) : g < wr.heap.size ∧ wr.cell? ⟨g, 0, none⟩ = some (.int .u64 (wd v 0)) ∧ wr.cell? ⟨g, 1, none⟩ = some (.int .u64 (wd v 1)) ∧ wr.cell? ⟨g, 2, none⟩ = some (.int .u64 (wd v 2)) ∧ wr.cell? ⟨g, 3, none⟩ = some (.int .u64 (wd v 3)) ∧ wr.cell? ⟨g, 4, none⟩ = some (.int .u64 (wd v 4)) ∧ wr.cell? ⟨g, 5, none⟩ = some (.int .u64 (wd v 5)) :=
 ⟨(h g v hm).1, (h g v hm).2.reads⟩
abbrev zB (v : Nat) : List Value := [.int .u64 (wd v 0), .int .u64 (wd v 1), .int .u64 (wd v 2), .int .u64 (wd v 3), .int .u64 (wd v 4), .int .u64 (wd v 5)]
abbrev zero6 : List Value := [.int .u64 0, .int .u64 0, .int .u64 0, .int .u64 0, .int .u64 0, .int .u64 0]
theorem Blk.row {w : World} {g v : Nat} (h : Blk w g (zB v)) : Row w g 6 (wd v) := fun j hj => by
 match j, hj with
 | 0, _ => exact h 0 _ rfl
 | 1, _ => exact h 1 _ rfl
 | 2, _ => exact h 2 _ rfl
 | 3, _ => exact h 3 _ rfl
 | 4, _ => exact h 4 _ rfl
 | 5, _ => exact h 5 _ rfl
theorem Rws.cons {wr : World} {l : List (Nat × Nat)} (h : Rws wr l) {g v : Nat} (hb : Blk wr g (zB v) ∧ g < wr.heap.size) : Rws wr ((g, v) :: l) := by
 intro g' v' hm
 rcases List.mem_cons.1 hm with e | hm
 ·injection e with e1 e2
  subst e1 e2
  exact ⟨hb.2, hb.1.row⟩
 ·exact h g' v' hm
theorem zG {ρ : Operand → Value} {o : Oper} {w : World} (ho : o.op = .alloc 24) :
  (execOp ρ o).run Tryz.prog w = .ok (.value (.pointer (some ⟨w.heap.size, 0, none⟩))) (w.alloc (.cells zero6.toArray 24)) := by
 simp only [execOp, ho]
 go_simp
theorem zK {ρ : Operand → Value} {o : Oper} {x y : Operand} {g v : Nat} {w : World} (h : Blk w g zero6) (ho : o.op = .store 24 x y) (hx : ρ x = .pointer (some ⟨g, 0, none⟩)) (hy : ρ y = N v) :
  (execOp ρ o).run Tryz.prog w = .ok .skip (w.setCells g 0 (zB v)) := by
 obtain ⟨c0, f0⟩ := h 0 _ rfl
 obtain ⟨c1, f1⟩ := h 1 _ rfl
 obtain ⟨c2, f2⟩ := h 2 _ rfl
 obtain ⟨c3, f3⟩ := h 3 _ rfl
 obtain ⟨c4, f4⟩ := h 4 _ rfl
 obtain ⟨c5, f5⟩ := h 5 _ rfl
 clear h
 simp only [execOp, ho, hx, hy]
 go_simp
 simp [World.setCells]
theorem exec_call {P : Program} {ρ : Operand → Value} {o : Oper} {f : FuncId} {xs : Array Operand} {ts : Array TypeId} {args : Array Value} {w : World} (ho : o.op = .call { callee := .value (.func f), args := xs, argTypes := ts }) (hc : ∀ args w, (callFunc f args).run P w = .ok (.enter f args) w) (hf : ρ (.func f) = .func (.func f) #[] #[]) (hx : xs.map ρ = args) :
  (execOp ρ o).run P w = .ok (.enter f args) w := by
 subst hx
 simp only [execOp, ho, resolve, hf]
 simp [go_sem, Deferred.ofValue, invoke, hc]
theorem call21 : CO 21 := by intro args w; go_simp
theorem call39 : CO 39 := by intro args w; go_simp
theorem call38 : CO 38 := by intro args w; go_simp
theorem call158 : CO 158 := by intro args w; go_simp
theorem call61 : CO 61 := by intro args w; go_simp
theorem call34 : CO 34 := by intro args w; go_simp
theorem call17 : CO 17 := by intro args w; go_simp
theorem AllOk.cons {P : Program} {ops : Array Oper} {S : World → Prop} {F : (Nat → Nat) → Act} {o : Oper} {os : List Oper} {k : Kind} {ks : List Kind} (h : KindOk P ops S F o k) (hs : AllOk P ops S F os ks) : AllOk P ops S F (o :: os) (k :: ks) := ⟨h, hs⟩
end Go.Proofs.YtmanelnacifgcaaGreatDoor
end
section
namespace Go.Proofs.YtmanelnacifgcaaGreatDoor
open Go.RowKit Go.Lib
/-- How many bits a number needs. -/
def bl (v : Nat) : Nat := if v = 0 then 0 else Nat.log2 v + 1
theorem bl_lt (v : Nat) : v < 2 ^ bl v := by
 unfold bl
 by_cases h : v = 0
 ·rw [if_pos h, h]; decide
 ·rw [if_neg h]; exact (Nat.log2_lt h).1 (Nat.lt_succ_self _)
theorem bl_le (v : Nat) (h : v ≠ 0) : 2 ^ (bl v - 1) ≤ v := by
 unfold bl
 rw [if_neg h, Nat.add_sub_cancel]
 exact Nat.log2_self_le h
theorem bl_pos (v : Nat) (h : v ≠ 0) : 1 ≤ bl v := by unfold bl; rw [if_neg h]; omega
theorem bl_unique (v L : Nat) (h1 : 2 ^ L ≤ v) (h2 : v < 2 ^ (L + 1)) : bl v = L + 1 := by
 have hv : v ≠ 0 := by have := Nat.two_pow_pos L; omega
 have a1 := bl_lt v
 have a2 := bl_le v hv
 have a3 := bl_pos v hv
 have c1 : L < bl v := (Nat.pow_lt_pow_iff_right (by decide : 1 < 2)).1 (Nat.lt_of_le_of_lt h1 a1)
 have c2 : bl v - 1 < L + 1 := (Nat.pow_lt_pow_iff_right (by decide : 1 < 2)).1 (Nat.lt_of_le_of_lt a2 h2)
 omega
theorem bl_le_of (v n : Nat) (h : v < 2 ^ n) : bl v ≤ n := by
 by_cases hv : v = 0
 ·subst hv; exact Nat.zero_le _
 ·have a2 := bl_le v hv
  have : bl v - 1 < n := (Nat.pow_lt_pow_iff_right (by decide : 1 < 2)).1 (Nat.lt_of_le_of_lt a2 h)
  omega
theorem bl_high (v k x : Nat) (hx : x ≠ 0) (hv : v / 2 ^ k = x) : bl v = k + bl x := by
 have a1 := bl_lt x
 have a2 := bl_le x hx
 have a3 := bl_pos x hx
 have hp := Nat.two_pow_pos k
 have e : k + bl x = (k + (bl x - 1)) + 1 := by omega
 rw [e]
 apply bl_unique
 ·rw [Nat.pow_add]
  calc 2 ^ k * 2 ^ (bl x - 1) ≤ 2 ^ k * x := Nat.mul_le_mul_left _ a2
   _ ≤ v := by rw [← hv]; exact Nat.mul_div_le v (2 ^ k)
 ·have : v < 2 ^ k * (x + 1) := by rw [← hv]; exact Nat.lt_mul_div_succ v hp
  rw [show k + (bl x - 1) + 1 = k + bl x by omega, Nat.pow_add]
  exact Nat.lt_of_lt_of_le this (Nat.mul_le_mul_left _ a1)
theorem tab_size : len8tab.size = 256 := by decide +kernel
theorem tab_bl : ∀ n : Fin 256, (len8tab[n.val]'(by rw [tab_size]; exact n.isLt)).toNat = bl n.val := by decide +kernel
theorem tab_at (d : Nat) (hd : d < len8tab.size) : (len8tab[d]).toNat = bl d := tab_bl ⟨d, by rw [tab_size] at hd; exact hd⟩
theorem len_way0 (x : Int) (hd : x.toNat < len8tab.size) : wrap64 (wrap64 ((len8tab[x.toNat]).toNat : Int)) = (bl x.toNat : Int) := by
 rw [tab_at _ hd]
 have : bl x.toNat ≤ 8 := bl_le_of _ 8 (by rw [tab_size] at hd; exact hd)
 rw [IntWalk.wrap64_in (bl x.toNat : Int) ⟨by omega, by omega⟩, IntWalk.wrap64_in (bl x.toNat : Int) ⟨by omega, by omega⟩]
theorem len_way (k : Nat) (x d : Int) (hd : d.toNat < len8tab.size) (h0 : d.toNat ≠ 0) (h : x.toNat / 2 ^ k = d.toNat) (hk : k ≤ 56) : wrap64 ((k : Int) + wrap64 ((len8tab[d.toNat]).toNat : Int)) = (bl x.toNat : Int) := by
 rw [tab_at _ hd, bl_high x.toNat k d.toNat h0 h]
 have : bl d.toNat ≤ 8 := bl_le_of _ 8 (by rw [tab_size] at hd; exact hd)
 rw [IntWalk.wrap64_in (bl d.toNat : Int) ⟨by omega, by omega⟩, IntWalk.wrap64_in _ ⟨by omega, by omega⟩]
 rfl
set_option maxHeartbeats 1000000 in
theorem len64_any (x : Int) (w : World) (h0 : 0 ≤ x) (h1 : x ≤ 18446744073709551615) :
  Calls Tryz.prog 60 #[.int .u64 x] w fun e w' => e = .returned (.int .i64 (bl x.toNat)) ∧ w' = w := by
 have hsz : len8tab.size = 256 := tab_size
 go_enter Tryz.func60, Tryz.ntmps60
 go_wp2
 all_goals (go_ret; refine ⟨congrArg Ending.returned (congrArg (Value.int IntKind.i64) ?_), rfl⟩)
 all_goals first
  | exact len_way0 x (by omega)
  | exact len_way 56 x _ (by omega) (by omega) (by omega) (by omega)
  | exact len_way 48 x _ (by omega) (by omega) (by omega) (by omega)
  | exact len_way 40 x _ (by omega) (by omega) (by omega) (by omega)
  | exact len_way 32 x _ (by omega) (by omega) (by omega) (by omega)
  | exact len_way 24 x _ (by omega) (by omega) (by omega) (by omega)
  | exact len_way 16 x _ (by omega) (by omega) (by omega) (by omega)
  | exact len_way 8 x _ (by omega) (by omega) (by omega) (by omega)
theorem lz64_any (x : Int) (w : World) (h0 : 0 ≤ x) (h1 : x ≤ 18446744073709551615) :
  Calls Tryz.prog 155 #[.int .u64 x] w fun e w' => e = .returned (.int .i64 (64 - (bl x.toNat : Int))) ∧ w' = w := by
 have hl : bl x.toNat ≤ 64 := bl_le_of _ 64 (by omega)
 go_enter Tryz.func155, Tryz.ntmps155
 go_wp2_with (go_at_call 60; refine (len64_any x _ h0 h1).mono ?_; rintro e w' ⟨rfl, rfl⟩)
 go_ret
 exact ⟨rfl, rfl⟩
theorem bl_num (v i : Nat) (hi : i < 6) (hz : ∀ j, i < j → j < 6 → wd v j = 0) (hv : v < big) (hx : wd v i ≠ 0) : bl v = 64 * i + bl (wd v i).toNat := by
 have key : ∀ m, i + m ≤ 6 → 1 ≤ m → v < 2 ^ (64 * (i + m)) → v < 2 ^ (64 * (i + 1)) := by
  intro m
  induction m with
  | zero => intro _ h; omega
  | succ m ih =>
   intro h1 _ h3
   by_cases hm : m = 0
   ·subst hm; simpa using h3
   ·refine ih (by omega) (by omega) ?_
    have hw := hz (i + m) (by omega) (by omega)
    unfold wd at hw
    have hw2 : v / 2 ^ (64 * (i + m)) % 18446744073709551616 = 0 := Int.ofNat.inj hw
    rw [← Nat.add_assoc, pow_step] at h3
    have hp := pow_pos' (i + m)
    have h4 : v / 2 ^ (64 * (i + m)) < 18446744073709551616 := (Nat.div_lt_iff_lt_mul hp).2 (by rw [Nat.mul_comm]; exact h3)
    have h5 : ∀ d : Nat, d % 18446744073709551616 = 0 → d < 18446744073709551616 → d = 0 := fun d h1 h2 => by omega
    exact (Nat.div_eq_zero_iff_lt hp).1 (h5 _ hw2 h4)
 have h1 : v < 2 ^ (64 * (i + 1)) := by
  obtain ⟨n, hn, e⟩ := big_pow
  rw [e] at hv
  have := key (n - i) (by omega) (by omega)
  rw [show i + (n - i) = n by omega] at this
  exact this hv
 rw [pow_step] at h1
 have h2 : v / 2 ^ (64 * i) < 18446744073709551616 := (Nat.div_lt_iff_lt_mul (pow_pos' i)).2 (by rw [Nat.mul_comm]; exact h1)
 unfold wd at hx ⊢
 rw [Nat.mod_eq_of_lt h2] at hx ⊢
 rw [Int.toNat_natCast]
 exact bl_high v (64 * i) _ (by omega) rfl
set_option maxHeartbeats 400000 in
theorem len_any (a : Nat) (ha : a < big) (w : World) :
  Calls Tryz.prog 34 #[N a] w (Rt w (.int .i64 (bl a))) := by
 have HA : Hid (a < big) := ha
 clear ha
 go_enter Tryz.func34, Tryz.ntmps34
 go_wp2
 go_loopw [3] (fun i wr => ∃ k : Nat, k ≤ 6 ∧ i = .int .i64 ((k : Int) - 1) ∧ (∀ j, k ≤ j → j < 6 → wd a j = 0) ∧ Row wr w.heap.size 6 (wd a) ∧ Below w.heap.size w wr) (fun i _ => (RowKit.intOf i + 1).toNat)
 case atStart => exact ⟨6, by omega, rfl, fun j h1 h2 => by omega, Row.new w _ 24 rfl (six_lt rfl), (Below.refl _ _).alloc (Nat.le_refl _) _⟩
 case round =>
  obtain ⟨k, hk, rfl, hz, hA, hw⟩ := hrel
  have HZ : Hid _ := hz
  clear hz
  by_cases h0 : 1 ≤ k
  ·obtain ⟨i, rfl⟩ : ∃ i, k = i + 1 := ⟨k - 1, by omega⟩
   rw [show (((i + 1 : Nat) : Int) - 1) = (i : Int) by omega]
   have hA1 := (hA i (by omega)).1
   have hwd := wd_bd a i
   have HR : Hid (_ ∧ _) := ⟨hA, hw⟩
   clear hA hw
   by_cases hx : wd a i = 0
   ·have hb : (wd a i != 0) = false := by simp [hx]
    clear hx hwd
    go_wp2
    go_roundw
    case rel =>
     obtain ⟨hA, hw⟩ := HR.out
     refine ⟨i, by omega, by go_num, fun j h1 h2 => ?_, hA, hw⟩
     by_cases e : j = i
     ·subst e; simpa using hb
     ·exact HZ.out j (by omega) h2
    case measure => simp [RowKit.intOf] <;> omega
   ·have hb : (wd a i != 0) = true := by simp [hx]
    have hfin : Hid (bl a = 64 * i + bl (wd a i).toNat) := bl_num a i (by omega) (fun j h1 h2 => HZ.out j (by omega) h2) HA.out hx
    have hl64 : bl (wd a i).toNat ≤ 64 := bl_le_of _ 64 (by omega)
    have hc := fun w => len64_any (wd a i) w hwd.1 (by omega)
    have HC : Hid _ := hc
    clear hc hx hwd
    go_wp2_with (go_at_call 60; refine (HC.out _).mono ?_; rintro e w' ⟨rfl, rfl⟩)
    go_ret
    refine ⟨?_, HR.out.2⟩
    rw [hfin.out]
    refine congrArg Ending.returned (congrArg (Value.int IntKind.i64) ?_)
    omega
  ·have hk0 : k = 0 := by omega
   subst hk0
   have hfin : Hid (bl a = 0) := by
    have h1 := HZ.out
    have : a = 0 := by
     by_cases ha : a = 0
     ·exact ha
     ·exfalso
      have hl := bl_le a ha
      have hp := bl_pos a ha
      have hlt : bl a ≤ 384 := by
       obtain ⟨n, hn, e⟩ := big_pow
       have := HA.out
       rw [e] at this
       have := bl_le_of a _ this
       omega
      have hz := h1 ((bl a - 1) / 64) (by omega) (by omega)
      unfold wd at hz
      have hz2 : a / 2 ^ (64 * ((bl a - 1) / 64)) % 18446744073709551616 = 0 := Int.ofNat.inj hz
      have hlt2 := bl_lt a
      have hd : a / 2 ^ (64 * ((bl a - 1) / 64)) < 18446744073709551616 := by
       rw [Nat.div_lt_iff_lt_mul (Nat.two_pow_pos _)]
       have : (18446744073709551616 : Nat) = 2 ^ 64 := by decide
       rw [this, ← Nat.pow_add]
       exact Nat.lt_of_lt_of_le hlt2 (pow_le' _ _ (by omega))
      rw [Nat.mod_eq_of_lt hd, Nat.div_eq_zero_iff_lt (Nat.two_pow_pos _)] at hz2
      have := pow_le' (64 * ((bl a - 1) / 64)) (bl a - 1) (by omega)
      omega
    show bl a = 0
    rw [this]; rfl
   rw [show (((0 : Nat) : Int) - 1) = -1 from rfl]
   go_wp2
   go_ret
   exact ⟨by rw [hfin.out]; rfl, hw⟩
end Go.Proofs.YtmanelnacifgcaaGreatDoor
end
section
namespace Go.Proofs.YtmanelnacifgcaaGreatDoor
open Go.RowKit
theorem qmul (q Y M : Nat) (h : q * Y ≤ M) (hY : 0 < Y) : q ≤ M / Y := (Nat.le_div_iff_mul_le hY).2 h
/-- The guess is too great: so one less is not too small. -/
theorem half_more (U y1 y0 u q r : Nat) (hq : q * y1 + r = U) (hY : 0 < y1 * 4294967296 + y0) (h : r * 4294967296 + u < q * y0) :
  (U * 4294967296 + u) / (y1 * 4294967296 + y0) + 1 ≤ q := by
 have h1 : U * 4294967296 + u < q * (y1 * 4294967296 + y0) := by
  subst hq
  have e : q * (y1 * 4294967296 + y0) = q * y1 * 4294967296 + q * y0 := by rw [Nat.mul_add, Nat.mul_assoc]
  rw [e]
  clear e
  generalize q * y1 = A
  rw [Nat.add_mul, Nat.add_assoc]
  exact Nat.add_lt_add_left h _
 exact (Nat.div_lt_iff_lt_mul hY).2 h1
theorem half_big (U y1 y0 u q : Nat) (hu : u < 4294967296) (hU : U < y1 * 4294967296 + y0) (h : 4294967296 ≤ q) :
  (U * 4294967296 + u) / (y1 * 4294967296 + y0) + 1 ≤ q := by
 have hY : 0 < y1 * 4294967296 + y0 := by omega
 have h1 : U * 4294967296 + u < 4294967296 * (y1 * 4294967296 + y0) := by omega
 have := (Nat.div_lt_iff_lt_mul hY).2 h1
 omega
theorem half_enough (U y1 y0 u q r : Nat) (hq : q * y1 + r = U) (hY : 0 < y1 * 4294967296 + y0) (h : q * y0 ≤ r * 4294967296 + u) :
  q ≤ (U * 4294967296 + u) / (y1 * 4294967296 + y0) := by
 apply qmul _ _ _ _ hY
 subst hq
 have e : q * (y1 * 4294967296 + y0) = q * y1 * 4294967296 + q * y0 := by rw [Nat.mul_add, Nat.mul_assoc]
 rw [e]
 clear e
 generalize q * y1 = A
 generalize q * y0 = B at h ⊢
 omega
theorem half_start (U y1 y0 : Nat) (hy0 : y0 < 4294967296) (hy1 : 2147483648 ≤ y1) (hU : U < y1 * 4294967296 + y0) : U / y1 ≤ 4294967297 := by
 have h1 : U < 4294967298 * y1 := by omega
 have := (Nat.div_lt_iff_lt_mul (by omega : 0 < y1)).2 h1
 omega
theorem half_ge (U y1 y0 u : Nat) (hu : u < 4294967296) (hy1 : 0 < y1) : (U * 4294967296 + u) / (y1 * 4294967296 + y0) ≤ U / y1 := by
 have h1 : (U * 4294967296 + u) / (y1 * 4294967296 + y0) ≤ (U * 4294967296 + u) / (y1 * 4294967296) := Nat.div_le_div_left (by omega) (by omega)
 have h2 : (U * 4294967296 + u) / (y1 * 4294967296) = U / y1 := by
  rw [Nat.mul_comm y1, ← Nat.div_div_eq_div_mul]
  congr 1
  omega
 omega
/-- Both halves. -/
theorem halves_join (M Y u0 : Nat) (hY : 0 < Y) : M / Y * 4294967296 + (M % Y * 4294967296 + u0) / Y = (M * 4294967296 + u0) / Y := by
 have d := Nat.div_add_mod M Y
 have e : M * 4294967296 + u0 = (M % Y * 4294967296 + u0) + Y * (M / Y * 4294967296) := by
  have e1 : M * 4294967296 = Y * (M / Y * 4294967296) + M % Y * 4294967296 := by rw [← Nat.mul_assoc, ← Nat.add_mul, d]
  rw [e1]
  generalize Y * (M / Y * 4294967296) = Z
  omega
 rw [e, Nat.add_mul_div_left _ _ hY, Nat.add_comm]
theorem norm_div (n y s : Nat) : n * 2 ^ s / (y * 2 ^ s) = n / y := Nat.mul_div_mul_right _ _ (Nat.two_pow_pos s)
/-- What Div64 makes of its arguments first: Y the divisor, shifted; U, u1, u0 the dividend, shifted. -/
theorem norm_parts (hi lo y : Nat) (h1 : hi < y) (hy : y < 18446744073709551616) (hl : lo < 18446744073709551616) :
  ∃ Y U u1 u0 y1 y0 : Nat, Y = y * 2 ^ (64 - bl y) ∧ 9223372036854775808 ≤ Y ∧ Y < 18446744073709551616 ∧ Y = y1 * 4294967296 + y0 ∧ y0 < 4294967296 ∧ 2147483648 ≤ y1 ∧ y1 < 4294967296 ∧ u1 < 4294967296 ∧ u0 < 4294967296 ∧ U < Y ∧
   (hi * 18446744073709551616 + lo) * 2 ^ (64 - bl y) = (U * 4294967296 + u1) * 4294967296 + u0 ∧
   IntKind.u64.wrap ((y : Int) * 2 ^ (64 - bl y)) = Y ∧ bits .or .u64 (IntKind.u64.wrap ((hi : Int) * 2 ^ (64 - bl y))) ((lo : Int) / 2 ^ (64 - (64 - bl y))) = U ∧
   IntKind.u64.wrap ((lo : Int) * 2 ^ (64 - bl y)) / 4294967296 = u1 ∧ bits .and .u64 (IntKind.u64.wrap ((lo : Int) * 2 ^ (64 - bl y))) 4294967295 = u0 ∧ (Y : Int) / 4294967296 = y1 ∧ bits .and .u64 (Y : Int) 4294967295 = y0 := by
 have hb1 : bl y ≤ 64 := bl_le_of y 64 hy
 have hb2 : 1 ≤ bl y := bl_pos y (by omega)
 have hlt := bl_lt y
 have hle := bl_le y (by omega)
 generalize hs : 64 - bl y = s
 have hbs : bl y = 64 - s := by omega
 have hs2 : s < 64 := by omega
 rw [hbs] at hlt hle
 have p64 : (18446744073709551616 : Nat) = 2 ^ 64 := by decide
 have p63 : (9223372036854775808 : Nat) = 2 ^ 63 := by decide
 have hY1 : y * 2 ^ s < 18446744073709551616 := by
  rw [p64, show (64 : Nat) = (64 - s) + s by omega, Nat.pow_add]
  have : 64 - s + s - s = 64 - s := by omega
  exact Nat.mul_lt_mul_of_pos_right hlt (Nat.two_pow_pos s)
 have hY2 : 9223372036854775808 ≤ y * 2 ^ s := by
  have e : (63 : Nat) = (64 - s - 1) + s := by omega
  rw [p63, e, Nat.pow_add]
  exact Nat.mul_le_mul_right _ hle
 -- the dividend
 have hN : hi * 18446744073709551616 + lo < y * 18446744073709551616 := by omega
 generalize hNe : (hi * 18446744073709551616 + lo) * 2 ^ s = M
 have hM : M < y * 2 ^ s * 18446744073709551616 := by
  rw [← hNe, Nat.mul_right_comm]
  exact Nat.mul_lt_mul_of_pos_right hN (Nat.two_pow_pos s)
 have hU : M / 18446744073709551616 < y * 2 ^ s := (Nat.div_lt_iff_lt_mul (by decide)).2 hM
 have hlow : M % 18446744073709551616 = lo * 2 ^ s % 18446744073709551616 := by
  rw [← hNe, Nat.add_mul, Nat.mul_right_comm, Nat.mul_add_mod_self_right]
 have hUo : (hi <<< s % 2 ^ 64) ||| (lo >>> (64 - s)) = M / 18446744073709551616 := by
  have hUlt : M / 18446744073709551616 < 2 ^ 64 := by rw [← p64]; omega
  rw [← Nat.mod_eq_of_lt hUlt, ← hNe, p64, ← Nat.shiftLeft_eq _ s, ← Nat.shiftRight_eq_div_pow]
  apply Nat.eq_of_testBit_eq
  intro i
  have eor : hi * 2 ^ 64 + lo = hi <<< 64 ||| lo := by rw [← Nat.shiftLeft_eq, Nat.shiftLeft_add_eq_or_of_lt (by rw [← p64]; exact hl)]
  rw [eor]
  simp only [Nat.testBit_or, Nat.testBit_mod_two_pow, Nat.testBit_shiftLeft, Nat.testBit_shiftRight]
  by_cases h64 : i < 64
  ·by_cases his : s ≤ i
   ·have f1 : s ≤ 64 + i := by omega
    have f2 : 64 ≤ 64 + i - s := by omega
    have f3 : 64 + i - s - 64 = i - s := by omega
    have f4 : 64 - s + i = 64 + i - s := by omega
    have f5 : lo.testBit (64 + i - s) = false := Nat.testBit_lt_two_pow (Nat.lt_of_lt_of_le (by rw [← p64]; exact hl) (Nat.pow_le_pow_right (by decide) f2))
    simp [h64, his, f1, f2, f3, f4, f5]
   ·have f1 : s ≤ 64 + i := by omega
    have f2 : ¬ 64 ≤ 64 + i - s := by omega
    have f4 : 64 - s + i = 64 + i - s := by omega
    simp [h64, his, f1, f2, f4]
  ·have f5 : lo.testBit (64 - s + i) = false := Nat.testBit_lt_two_pow (Nat.lt_of_lt_of_le (by rw [← p64]; exact hl) (Nat.pow_le_pow_right (by decide) (by omega)))
   simp [h64, f5]
 refine ⟨y * 2 ^ s, M / 18446744073709551616, M % 18446744073709551616 / 4294967296, M % 18446744073709551616 % 4294967296, y * 2 ^ s / 4294967296, y * 2 ^ s % 4294967296, rfl, hY2, hY1, by omega, by omega, by omega, by omega, by omega, by omega, hU, by omega, ?_, ?_, ?_, ?_, ?_, ?_⟩
 ·rw [wrap_shl, Nat.shiftLeft_eq, ← p64, Nat.mod_eq_of_lt hY1]
 ·rw [wrap_shl, div_shr, bits_or_u64_nat _ _ (Nat.mod_lt _ (by decide)) (by rw [Nat.shiftRight_eq_div_pow]; exact Nat.lt_of_le_of_lt (Nat.div_le_self _ _) hl), hUo]
 ·rw [wrap_shl, Nat.shiftLeft_eq, ← p64, hlow]; rfl
 ·rw [wrap_shl, Nat.shiftLeft_eq, ← p64, hlow, Mul64.maskN _ (Nat.mod_lt _ (by decide))]
 ·rfl
 ·rw [Mul64.maskN _ hY1]
theorem quo_wrap (U y1 q : Nat) (h : U / y1 = q) (hq : q < 18446744073709551616) : IntKind.u64.wrap ((U : Int) / (y1 : Int)) = q := by
 rw [← Int.natCast_ediv, h]; exact Mul64.wrapN q hq
theorem rem_wrap (U y1 q r : Nat) (h : q * y1 + r = U) (hU : U < 18446744073709551616) : IntKind.u64.wrap ((U : Int) - IntKind.u64.wrap ((q : Int) * (y1 : Int))) = r := by
 have h1 : q * y1 < 18446744073709551616 := by omega
 rw [← Int.natCast_mul, Mul64.wrapN _ h1]
 have : (U : Int) - ((q * y1 : Nat) : Int) = (r : Int) := by omega
 rw [this]; exact Mul64.wrapN r (by omega)
theorem hb_break (U y1 y0 u q r Y Q : Nat) (dy : Y = y1 * 4294967296 + y0) (hQ : Q = (U * 4294967296 + u) / Y) (h : (q + 1) * y1 + r = U) (hle : q + 1 ≤ 4294967297) (b3 : y0 < 4294967296) (b4 : 0 < y1) (c2 : 4294967296 ≤ r + y1) (hge : Q + 1 ≤ q + 1) : q = Q := by
 have h2 : q * y1 + (r + y1) = U := by rw [Nat.add_mul] at h; omega
 have h3 : q * y0 ≤ 4294967296 * 4294967295 := Nat.mul_le_mul (by omega) (by omega)
 have h4 := half_enough U y1 y0 u q (r + y1) h2 (by omega) (by omega)
 rw [← dy, ← hQ] at h4
 omega
theorem hb_exit (U y1 y0 u q r Y Q : Nat) (dy : Y = y1 * 4294967296 + y0) (hQ : Q = (U * 4294967296 + u) / Y) (h : q * y1 + r = U) (b4 : 0 < y1) (c : q * y0 ≤ 4294967296 * r + u) (hge : Q ≤ q) : q = Q := by
 have h4 := half_enough U y1 y0 u q r h (by omega) (by rw [Nat.mul_comm r]; exact c)
 rw [← dy, ← hQ] at h4
 omega
theorem hb_more1 (U y1 y0 u q Y Q : Nat) (dy : Y = y1 * 4294967296 + y0) (hQ : Q = (U * 4294967296 + u) / Y) (hu : u < 4294967296) (hU : U < Y) (h : 4294967296 ≤ q) : Q + 1 ≤ q := by
 have h4 := half_big U y1 y0 u q hu (by rw [← dy]; exact hU) h
 rw [← dy, ← hQ] at h4
 exact h4
theorem hb_more2 (U y1 y0 u q r Y Q : Nat) (dy : Y = y1 * 4294967296 + y0) (hQ : Q = (U * 4294967296 + u) / Y) (h : q * y1 + r = U) (b4 : 0 < y1) (c : 4294967296 * r + u < q * y0) : Q + 1 ≤ q := by
 have h4 := half_more U y1 y0 u q r h (by omega) (by rw [Nat.mul_comm r]; exact c)
 rw [← dy, ← hQ] at h4
 exact h4
theorem hb_step (U y1 q r : Nat) (h : (q + 1) * y1 + r = U) : q * y1 + (r + y1) = U := by rw [Nat.add_mul] at h; omega
theorem mul_small (q y0 : Nat) (hq : q < 4294967296) (h : y0 < 4294967296) : q * y0 < 18446744073709551616 := by
 have h3 : q * y0 ≤ 4294967295 * 4294967295 := Nat.mul_le_mul (by omega) (by omega)
 omega
set_option maxHeartbeats 2000000 in
theorem div64_hi (hi lo y : Nat) (h1 : hi < y) (hy : y < 18446744073709551616) (hl : lo < 18446744073709551616) (h0 : hi ≠ 0) (w : World) :
  Calls Tryz.prog 145 #[.int .u64 hi, .int .u64 lo, .int .u64 y] w fun e w' => ∃ rr : Int, e = .returned (.tuple #[.int .u64 ((hi * 18446744073709551616 + lo) / y : Nat), .int .u64 rr]) ∧ w' = w := by
 have hc := fun w => lz64_any y w (Int.natCast_nonneg y) (by omega)
 rw [Int.toNat_natCast] at hc
 have HC : Hid _ := hc
 have hb1 : bl y ≤ 64 := bl_le_of y 64 hy
 have hb2 : 1 ≤ bl y := bl_pos y (by omega)
 obtain ⟨Y, U, u1, u0, y1, y0, dY, b1, b2, dy, b3, b4, b5, b6, b7, b8, dM, eY, eU, eu1, eu0, ey1, ey0⟩ := norm_parts hi lo y h1 hy hl
 obtain ⟨Q1, hQ1⟩ : ∃ Q1, Q1 = (U * 4294967296 + u1) / Y := ⟨_, rfl⟩
 obtain ⟨R1, hR1⟩ : ∃ R1, R1 = (U * 4294967296 + u1) % Y := ⟨_, rfl⟩
 obtain ⟨Q0, hQ0⟩ : ∃ Q0, Q0 = (R1 * 4294967296 + u0) / Y := ⟨_, rfl⟩
 have hfin : (hi * 18446744073709551616 + lo) / y = Q1 * 4294967296 + Q0 := by
  rw [hQ0, hR1, hQ1, halves_join _ _ _ (by omega), ← dM, dY, norm_div]
 rw [hfin]
 have HN : Hid _ := And.intro b1 (And.intro b2 (And.intro dy (And.intro b8 (And.intro hQ1 (And.intro hR1 hQ0)))))
 have e1 : ((y : Int) == 0) = false := by simp; omega
 have e2 : ((hi : Int) == 0) = false := by simp; omega
 have e3 : (1 : Int) ≤ y1 := by omega
 clear hc hy hl dY dM hfin b1 b2 dy b8 hQ1 hR1 hQ0
 go_enter Tryz.func145, Tryz.ntmps145
 go_upto_block 0 with (go_at_call 155; refine (HC.out _).mono ?_; rintro e w' ⟨rfl, hw'⟩; rw [hw']; clear hw')
 go_cut [15, 16] (fun qv rv wq => qv = .int .u64 Q1 ∧ (∃ r : Int, rv = .int .u64 r) ∧ wq = w)
 case first =>
  go_wp2
  go_loop [15, 16] (fun qv rv => ∃ q r : Nat, qv = .int .u64 q ∧ rv = .int .u64 r ∧ q * y1 + r = U ∧ Q1 ≤ q ∧ q ≤ 4294967297 ∧ r < 4294967296) (fun q _ => (RowKit.intOf q).toNat)
  case atStart =>
   obtain ⟨b1, b2, dy, b8, hQ1, hR1, hQ0⟩ := HN.out
   have hs := half_start U y1 y0 b3 b4 (by omega)
   have hg := half_ge U y1 y0 u1 b6 (by omega)
   have e1 := quo_wrap U y1 (U / y1) rfl (by omega)
   have dm := Nat.div_add_mod U y1
   have e2 := rem_wrap U y1 (U / y1) (U % y1) (by rw [Nat.mul_comm]; exact dm) (by omega)
   have hm := Nat.mod_lt U (by omega : 0 < y1)
   rw [e1, e2]
   exact ⟨U / y1, U % y1, rfl, rfl, by rw [Nat.mul_comm]; exact dm, by rw [hQ1, dy]; exact hg, hs, by omega⟩
  case round =>
   obtain ⟨q, r, rfl, rfl, hqr, hge, hle, hr⟩ := hrel
   have HQ : Hid _ := hqr
   clear hqr
   by_cases c1 : 4294967296 ≤ q
   ·have hmore : Q1 + 1 ≤ q := by
     obtain ⟨b1, b2, dy, b8, hQ1, hR1, hQ0⟩ := HN.out
     exact hb_more1 U y1 y0 u1 q Y Q1 dy hQ1 b6 b8 c1
    obtain ⟨p, rfl⟩ : ∃ p, q = p + 1 := ⟨q - 1, by omega⟩
    have HB : Hid (Q1 + 1 ≤ p + 1 ∧ p + 1 ≤ 4294967297 ∧ r < 4294967296) := ⟨hmore, hle, hr⟩
    have i1 : (4294967296 : Int) ≤ (p : Int) + 1 := by omega
    have i2 : (p : Int) + 1 ≤ 4294967297 := by omega
    have i3 : (r : Int) < 4294967296 := by omega
    have i4 : (y1 : Int) < 4294967296 := by omega
    clear c1 hmore hle hr hge
    rw [show ((p + 1 : Nat) : Int) = (p : Int) + 1 by omega]
    by_cases c2 : (4294967296 : Int) ≤ (r : Int) + (y1 : Int)
    ·go_wp2
     go_meet
     case rel =>
      obtain ⟨b1, b2, dy, b8, hQ1, hR1, hQ0⟩ := HN.out
      exact ⟨by rw [hb_break U y1 y0 u1 p r Y Q1 dy hQ1 HQ.out HB.out.2.1 b3 (by omega) (by omega) HB.out.1], ⟨_, rfl⟩, rfl⟩
    ·go_wp2
     go_round
     case rel => exact ⟨p, r + y1, rfl, by go_num, hb_step U y1 p r HQ.out, by have := HB.out.1; omega, by have := HB.out.2.1; omega, by omega⟩
     case measure => simp [RowKit.intOf] <;> omega
   ·obtain ⟨P, hP⟩ : ∃ P, P = q * y0 := ⟨_, rfl⟩
    have hPb : P < 18446744073709551616 := by rw [hP]; exact mul_small q y0 (by omega) b3
    by_cases c3 : (4294967296 : Int) * (r : Int) + (u1 : Int) < (P : Int)
    ·have hq1 : 1 ≤ q := by
      by_cases hq0 : q = 0
      ·subst hq0; rw [Nat.zero_mul] at hP; omega
      ·omega
     have hmore : Q1 + 1 ≤ q := by
      obtain ⟨b1, b2, dy, b8, hQ1, hR1, hQ0⟩ := HN.out
      exact hb_more2 U y1 y0 u1 q r Y Q1 dy hQ1 HQ.out (by omega) (by rw [← hP]; omega)
     obtain ⟨p, rfl⟩ : ∃ p, q = p + 1 := ⟨q - 1, by omega⟩
     have HB : Hid (Q1 + 1 ≤ p + 1 ∧ p + 1 ≤ 4294967297 ∧ r < 4294967296) := ⟨hmore, hle, hr⟩
     have i1 : (p : Int) + 1 < 4294967296 := by omega
     have i3 : (r : Int) < 4294967296 := by omega
     have i4 : (y1 : Int) < 4294967296 := by omega
     have i5 : (u1 : Int) < 4294967296 := by omega
     have eP : IntKind.u64.wrap (((p : Int) + 1) * (y0 : Int)) = (P : Int) := by
      rw [show ((p : Int) + 1) = ((p + 1 : Nat) : Int) by omega, ← Int.natCast_mul, ← hP]; exact Mul64.wrapN P hPb
     clear c1 hmore hle hr hge hP hPb hq1
     rw [show ((p + 1 : Nat) : Int) = (p : Int) + 1 by omega]
     by_cases c2 : (4294967296 : Int) ≤ (r : Int) + (y1 : Int)
     ·go_wp2
      go_meet
      case rel =>
       obtain ⟨b1, b2, dy, b8, hQ1, hR1, hQ0⟩ := HN.out
       exact ⟨by rw [hb_break U y1 y0 u1 p r Y Q1 dy hQ1 HQ.out HB.out.2.1 b3 (by omega) (by omega) HB.out.1], ⟨_, rfl⟩, rfl⟩
     ·go_wp2
      go_round
      case rel => exact ⟨p, r + y1, rfl, by go_num, hb_step U y1 p r HQ.out, by have := HB.out.1; omega, by have := HB.out.2.1; omega, by omega⟩
      case measure => simp [RowKit.intOf] <;> omega
    ·have HE : Hid (q = Q1) := by
      obtain ⟨b1, b2, dy, b8, hQ1, hR1, hQ0⟩ := HN.out
      exact hb_exit U y1 y0 u1 q r Y Q1 dy hQ1 HQ.out (by omega) (by rw [← hP]; omega) hge
     have eP : IntKind.u64.wrap ((q : Int) * (y0 : Int)) = (P : Int) := by
      rw [← Int.natCast_mul, ← hP]; exact Mul64.wrapN P hPb
     obtain ⟨z, hz⟩ : ∃ z : Int, z = (q : Int) := ⟨_, rfl⟩
     obtain ⟨x, hx⟩ : ∃ x : Int, x = (P : Int) := ⟨_, rfl⟩
     obtain ⟨v, hv⟩ : ∃ v : Int, v = (r : Int) := ⟨_, rfl⟩
     have HZ : Hid (z = (Q1 : Int)) := by rw [hz, HE.out]; rfl
     have i0 : 0 ≤ z := by omega
     have i1 : z < 4294967296 := by omega
     have i2 : 0 ≤ v := by omega
     have i3 : v < 4294967296 := by omega
     have i6 : x ≤ 4294967296 * v + (u1 : Int) := by omega
     rw [← hz, ← hx] at eP
     rw [← hz, ← hv]
     clear c1 c3 hle hr hge hP hPb HE hz hx hv
     go_wp2
     go_meet
     case rel => exact ⟨by rw [HZ.out], ⟨_, rfl⟩, rfl⟩
 case rest =>
  obtain ⟨rfl, ⟨rv, rfl⟩, rfl⟩ := hcut
  have eR : IntKind.u64.wrap (IntKind.u64.wrap (IntKind.u64.wrap ((U : Int) * 4294967296) + (u1 : Int)) - IntKind.u64.wrap ((Q1 : Int) * (Y : Int))) = (R1 : Int) := by
   obtain ⟨b1, b2, dy, b8, hQ1, hR1, hQ0⟩ := HN.out
   have dm := Nat.div_add_mod (U * 4294967296 + u1) Y
   have b9 : R1 < Y := by rw [hR1]; exact Nat.mod_lt _ (by omega)
   rw [← hQ1, ← hR1, Nat.mul_comm] at dm
   rw [IntKind.wrap_u64, IntKind.wrap_u64, IntKind.wrap_u64, IntKind.wrap_u64, ← Int.natCast_mul]
   generalize Q1 * Y = Z at dm ⊢
   omega
  go_upto_block 2 with (fail)
  go_cut [18, 16] (fun qv rv wq => qv = .int .u64 Q0 ∧ (∃ r : Int, rv = .int .u64 r) ∧ wq = wc)
  case first =>
   go_wp2
   go_loop [18, 16] (fun qv rv => ∃ q r : Nat, qv = .int .u64 q ∧ rv = .int .u64 r ∧ q * y1 + r = R1 ∧ Q0 ≤ q ∧ q ≤ 4294967297 ∧ r < 4294967296) (fun q _ => (RowKit.intOf q).toNat)
   case atStart =>
    obtain ⟨b1, b2, dy, b8, hQ1, hR1, hQ0⟩ := HN.out; have b9 : R1 < Y := by rw [hR1]; exact Nat.mod_lt _ (by omega)
    have hs := half_start R1 y1 y0 b3 b4 (by omega)
    have hg := half_ge R1 y1 y0 u0 b7 (by omega)
    have e1 := quo_wrap R1 y1 (R1 / y1) rfl (by omega)
    have dm := Nat.div_add_mod R1 y1
    have e2 := rem_wrap R1 y1 (R1 / y1) (R1 % y1) (by rw [Nat.mul_comm]; exact dm) (by omega)
    have hm := Nat.mod_lt R1 (by omega : 0 < y1)
    rw [e1, e2]
    exact ⟨R1 / y1, R1 % y1, rfl, rfl, by rw [Nat.mul_comm]; exact dm, by rw [hQ0, dy]; exact hg, hs, by omega⟩
   case round =>
    obtain ⟨q, r, rfl, rfl, hqr, hge, hle, hr⟩ := hrel
    have HQ : Hid _ := hqr
    clear hqr
    by_cases c1 : 4294967296 ≤ q
    ·have hmore : Q0 + 1 ≤ q := by
      obtain ⟨b1, b2, dy, b8, hQ1, hR1, hQ0⟩ := HN.out; have b9 : R1 < Y := by rw [hR1]; exact Nat.mod_lt _ (by omega)
      exact hb_more1 R1 y1 y0 u0 q Y Q0 dy hQ0 b7 b9 c1
     obtain ⟨p, rfl⟩ : ∃ p, q = p + 1 := ⟨q - 1, by omega⟩
     have HB : Hid (Q0 + 1 ≤ p + 1 ∧ p + 1 ≤ 4294967297 ∧ r < 4294967296) := ⟨hmore, hle, hr⟩
     have i1 : (4294967296 : Int) ≤ (p : Int) + 1 := by omega
     have i2 : (p : Int) + 1 ≤ 4294967297 := by omega
     have i3 : (r : Int) < 4294967296 := by omega
     have i4 : (y1 : Int) < 4294967296 := by omega
     clear c1 hmore hle hr hge
     rw [show ((p + 1 : Nat) : Int) = (p : Int) + 1 by omega]
     by_cases c2 : (4294967296 : Int) ≤ (r : Int) + (y1 : Int)
     ·go_wp2
      go_meet
      case rel =>
       obtain ⟨b1, b2, dy, b8, hQ1, hR1, hQ0⟩ := HN.out; have b9 : R1 < Y := by rw [hR1]; exact Nat.mod_lt _ (by omega)
       exact ⟨by rw [hb_break R1 y1 y0 u0 p r Y Q0 dy hQ0 HQ.out HB.out.2.1 b3 (by omega) (by omega) HB.out.1], ⟨_, rfl⟩, rfl⟩
     ·go_wp2
      go_round
      case rel => exact ⟨p, r + y1, rfl, by go_num, hb_step R1 y1 p r HQ.out, by have := HB.out.1; omega, by have := HB.out.2.1; omega, by omega⟩
      case measure => simp [RowKit.intOf] <;> omega
    ·obtain ⟨P, hP⟩ : ∃ P, P = q * y0 := ⟨_, rfl⟩
     have hPb : P < 18446744073709551616 := by rw [hP]; exact mul_small q y0 (by omega) b3
     by_cases c3 : (4294967296 : Int) * (r : Int) + (u0 : Int) < (P : Int)
     ·have hq1 : 1 ≤ q := by
       by_cases hq0 : q = 0
       ·subst hq0; rw [Nat.zero_mul] at hP; omega
       ·omega
      have hmore : Q0 + 1 ≤ q := by
       obtain ⟨b1, b2, dy, b8, hQ1, hR1, hQ0⟩ := HN.out; have b9 : R1 < Y := by rw [hR1]; exact Nat.mod_lt _ (by omega)
       exact hb_more2 R1 y1 y0 u0 q r Y Q0 dy hQ0 HQ.out (by omega) (by rw [← hP]; omega)
      obtain ⟨p, rfl⟩ : ∃ p, q = p + 1 := ⟨q - 1, by omega⟩
      have HB : Hid (Q0 + 1 ≤ p + 1 ∧ p + 1 ≤ 4294967297 ∧ r < 4294967296) := ⟨hmore, hle, hr⟩
      have i1 : (p : Int) + 1 < 4294967296 := by omega
      have i3 : (r : Int) < 4294967296 := by omega
      have i4 : (y1 : Int) < 4294967296 := by omega
      have i5 : (u0 : Int) < 4294967296 := by omega
      have eP : IntKind.u64.wrap (((p : Int) + 1) * (y0 : Int)) = (P : Int) := by
       rw [show ((p : Int) + 1) = ((p + 1 : Nat) : Int) by omega, ← Int.natCast_mul, ← hP]; exact Mul64.wrapN P hPb
      clear c1 hmore hle hr hge hP hPb hq1
      rw [show ((p + 1 : Nat) : Int) = (p : Int) + 1 by omega]
      by_cases c2 : (4294967296 : Int) ≤ (r : Int) + (y1 : Int)
      ·go_wp2
       go_meet
       case rel =>
        obtain ⟨b1, b2, dy, b8, hQ1, hR1, hQ0⟩ := HN.out; have b9 : R1 < Y := by rw [hR1]; exact Nat.mod_lt _ (by omega)
        exact ⟨by rw [hb_break R1 y1 y0 u0 p r Y Q0 dy hQ0 HQ.out HB.out.2.1 b3 (by omega) (by omega) HB.out.1], ⟨_, rfl⟩, rfl⟩
      ·go_wp2
       go_round
       case rel => exact ⟨p, r + y1, rfl, by go_num, hb_step R1 y1 p r HQ.out, by have := HB.out.1; omega, by have := HB.out.2.1; omega, by omega⟩
       case measure => simp [RowKit.intOf] <;> omega
     ·have HE : Hid (q = Q0) := by
       obtain ⟨b1, b2, dy, b8, hQ1, hR1, hQ0⟩ := HN.out; have b9 : R1 < Y := by rw [hR1]; exact Nat.mod_lt _ (by omega)
       exact hb_exit R1 y1 y0 u0 q r Y Q0 dy hQ0 HQ.out (by omega) (by rw [← hP]; omega) hge
      have eP : IntKind.u64.wrap ((q : Int) * (y0 : Int)) = (P : Int) := by
       rw [← Int.natCast_mul, ← hP]; exact Mul64.wrapN P hPb
      obtain ⟨z, hz⟩ : ∃ z : Int, z = (q : Int) := ⟨_, rfl⟩
      obtain ⟨x, hx⟩ : ∃ x : Int, x = (P : Int) := ⟨_, rfl⟩
      obtain ⟨v, hv⟩ : ∃ v : Int, v = (r : Int) := ⟨_, rfl⟩
      have HZ : Hid (z = (Q0 : Int)) := by rw [hz, HE.out]; rfl
      have i0 : 0 ≤ z := by omega
      have i1 : z < 4294967296 := by omega
      have i2 : 0 ≤ v := by omega
      have i3 : v < 4294967296 := by omega
      have i6 : x ≤ 4294967296 * v + (u0 : Int) := by omega
      rw [← hz, ← hx] at eP
      rw [← hz, ← hv]
      clear c1 c3 hle hr hge hP hPb HE hz hx hv
      go_wp2
      go_meet
      case rel => exact ⟨by rw [HZ.out], ⟨_, rfl⟩, rfl⟩
  case rest =>
   obtain ⟨rfl, ⟨rv2, rfl⟩, rfl⟩ := hcut
   have eQ : IntKind.u64.wrap (IntKind.u64.wrap ((Q1 : Int) * 4294967296) + (Q0 : Int)) = ((Q1 * 4294967296 + Q0 : Nat) : Int) := by
    obtain ⟨b1, b2, dy, b8, hQ1, hR1, hQ0⟩ := HN.out
    have b9 : R1 < Y := by rw [hR1]; exact Nat.mod_lt _ (by omega)
    have q1 : Q1 < 4294967296 := by rw [hQ1]; exact (Nat.div_lt_iff_lt_mul (by omega)).2 (by omega)
    have q0 : Q0 < 4294967296 := by rw [hQ0]; exact (Nat.div_lt_iff_lt_mul (by omega)).2 (by omega)
    rw [IntKind.wrap_u64, IntKind.wrap_u64]
    omega
   go_wp2
   rw [show ((Q1 : Int) * 4294967296 + (Q0 : Int)) = ((Q1 * 4294967296 + Q0 : Nat) : Int) by omega]
   go_ret2
   exact ⟨_, rfl, rfl⟩
set_option maxHeartbeats 400000 in
theorem div64_zero (lo y : Nat) (h1 : 0 < y) (hl : lo < 18446744073709551616) (w : World) :
  Calls Tryz.prog 145 #[.int .u64 0, .int .u64 lo, .int .u64 y] w fun e w' => ∃ rr : Int, e = .returned (.tuple #[.int .u64 (lo / y : Nat), .int .u64 rr]) ∧ ∃ n, w' = w.drewN n := by
 have e1 : ((y : Int) == 0) = false := by simp; omega
 have e3 : (1 : Int) ≤ y := by omega
 have eq : Hid _ := quo_wrap lo y (lo / y) rfl (Nat.lt_of_le_of_lt (Nat.div_le_self _ _) hl)
 clear hl
 go_enter Tryz.func145, Tryz.ntmps145
 go_wp2
 go_quiet (fail)
 go_wp2
 rw [eq.out]
 go_ret2
 exact ⟨_, rfl, _, rfl⟩
theorem div64_any (hi lo y : Nat) (h1 : hi < y) (hy : y < 18446744073709551616) (hl : lo < 18446744073709551616) (w : World) :
  Calls Tryz.prog 145 #[.int .u64 hi, .int .u64 lo, .int .u64 y] w fun e w' => ∃ rr : Int, e = .returned (.tuple #[.int .u64 ((hi * 18446744073709551616 + lo) / y : Nat), .int .u64 rr]) ∧ ∃ n, w' = w.drewN n := by
 by_cases h0 : hi = 0
 ·subst h0
  rw [Nat.zero_mul, Nat.zero_add]
  exact div64_zero lo y (by omega) hl w
 ·refine (div64_hi hi lo y h1 hy hl h0 w).mono ?_
  rintro e w' ⟨rr, rfl, hw⟩
  exact ⟨rr, rfl, 0, hw⟩
/-- What guess tells. -/
def gs (h l t : Nat) : Nat := if t ≤ h then 18446744073709551615 else (h * 18446744073709551616 + l) / t
theorem gs_lt (h l t : Nat) (hh : h < t) (hl : l < 18446744073709551616) : gs h l t < 18446744073709551616 := by
 unfold gs
 rw [if_neg (by omega)]
 rw [Nat.div_lt_iff_lt_mul (by omega)]
 omega
theorem gs_bd (h l t : Nat) (hl : l < 18446744073709551616) : gs h l t < 18446744073709551616 := by
 by_cases c : t ≤ h
 ·unfold gs; rw [if_pos c]; omega
 ·exact gs_lt h l t (by omega) hl
end Go.Proofs.YtmanelnacifgcaaGreatDoor
end
section
namespace Go.Proofs.YtmanelnacifgcaaGreatDoor
open Go.RowKit Go.Lib
set_option maxHeartbeats 400000 in
theorem add_any (a b : Nat) (ha : a < big) (hb : b < big) (w : World) :
  Calls Tryz.prog 21 #[N a, N b] w (Rt w (.tuple #[N ((a + b) % big), .bool (decide (big ≤ a + b))])) := by
 have hend := cry_end a b ha hb
 have He : Hid ((cry a b 6 != 0) = decide (big ≤ a + b)) := hend
 clear hend ha hb
 go_enter Tryz.func21, Tryz.ntmps21
 go_wp2
 go_loopw [7, 9] (fun c i wr => ∃ k : Nat, k ≤ 6 ∧ i = .int .i64 k ∧ c = .int .u64 (cry a b k) ∧ Row wr w.heap.size 6 (wd a) ∧ Row wr (w.heap.size + 1) 6 (wd b) ∧ Row wr (w.heap.size + 1 + 1) 6 (fun _ => 0) ∧ Row wr (w.heap.size + 1 + 1 + 1) 6 (part (a + b) k) ∧ Below w.heap.size w wr) (fun _ i _ => 6 - (RowKit.intOf i).toNat)
 case atStart =>
  refine ⟨0, by omega, rfl, by simp [cry], ?_, ?_, ?_, ?_, ?_⟩
  ·exact (((Row.new w _ 24 rfl (six_lt rfl)).alloc (by simp <;> omega) _).alloc (by simp <;> omega) _).alloc (by simp <;> omega) _
  ·exact ((Row.new _ _ 24 (by simp <;> omega) (six_lt rfl)).alloc (by simp <;> omega) _).alloc (by simp <;> omega) _
  ·exact (Row.new _ _ 24 (by simp <;> omega) (six_lt (f := fun _ => 0) rfl)).alloc (by simp <;> omega) _
  ·exact Row.new _ _ 24 (by simp <;> omega) (six_lt (f := part (a + b) 0) rfl)
  ·exact ((((Below.refl _ _).alloc (Nat.le_refl _) _).alloc (by simp <;> omega) _).alloc (by simp <;> omega) _).alloc (by simp <;> omega) _
 case round =>
  obtain ⟨k, hk, rfl, rfl, hA, hB, hZ, hS, hw⟩ := hrel
  by_cases hlt : k < 6
  ·obtain ⟨hc0, hc1⟩ := cry_bd a b k
   have ha0 := (wd_bd a k).1
   have hb0 := (wd_bd b k).1
   have hA1 := (hA k hlt).1
   have hB1 := (hB k hlt).1
   obtain ⟨hS1, hS2⟩ := hS k hlt
   have h64 := fun w => add64' (wd a k) (wd b k) (cry a b k) ha0 hb0 hc0 hc1 w
   have r1 : Row wr w.heap.size 6 (wd a) ∧ Row wr (w.heap.size + 1) 6 (wd b) ∧ Row wr (w.heap.size + 1 + 1) 6 (fun _ => 0) ∧ Row wr (w.heap.size + 1 + 1 + 1) 6 (part (a + b) k) ∧ Below w.heap.size w wr := ⟨hA, hB, hZ, hS, hw⟩
   have R1 : Hid _ := r1
   clear hA hB hZ hS hw r1
   go_wp2
   go_region
   go_wp2
   go_roundw
   case rel =>
    obtain ⟨hA, hB, hZ, hS, hw⟩ := R1.out
    exact ⟨k + 1, by omega, by go_num, by rw [add_cry], (hA.set_other _ (by simp <;> omega)).drew, (hB.set_other _ (by simp <;> omega)).drew, (hZ.set_other _ (by simp <;> omega)).drew, ((hS.set _).congr (fun j _ => part_step (add_word a b k) j)).drew, (hw.setCell (by simp <;> omega) _).drew⟩
   case measure => simp [RowKit.intOf]; omega
  ·have hk6 : k = 6 := by omega
   subst hk6
   obtain ⟨s0, s1, s2, s3, s4, s5⟩ := (hS.congr (f' := wd ((a + b) % big)) (fun j hj => by rw [part_lt hj, wd_mod _ _ hj])).reads
   obtain ⟨z0, z1, z2, z3, z4, z5⟩ := hZ.writes
   obtain ⟨y0, y1, y2, y3, y4, y5⟩ := hZ.reads
   clear hA hB hZ hS
   go_wp2
   rw [He.out]
   exact bodyPost_ret (v := .tuple #[N ((a + b) % big), .bool (decide (big ≤ a + b))]) (by simp [results, Tryz.results21, go_sem, *]) rfl ⟨rfl, (((((hw.setCell (by simp <;> omega) _).setCell (by simp <;> omega) _).setCell (by simp <;> omega) _).setCell (by simp <;> omega) _).setCell (by simp <;> omega) _).setCell (by simp <;> omega) _⟩
set_option maxHeartbeats 400000 in
theorem sub_any (a b : Nat) (ha : a < big) (hb : b < big) (w : World) :
  Calls Tryz.prog 39 #[N a, N b] w (Rt w (.tuple #[N ((a + big - b) % big), .bool (decide (a < b))])) := by
 have hend := brw_end a b ha hb
 have He : Hid ((brw a b 6 != 0) = decide (a < b)) := hend
 have HB : Hid (b < big) := hb
 clear hend ha hb
 go_enter Tryz.func39, Tryz.ntmps39
 go_wp2
 go_loopw [7, 9] (fun c i wr => ∃ k : Nat, k ≤ 6 ∧ i = .int .i64 k ∧ c = .int .u64 (brw a b k) ∧ Row wr w.heap.size 6 (wd a) ∧ Row wr (w.heap.size + 1) 6 (wd b) ∧ Row wr (w.heap.size + 1 + 1) 6 (fun _ => 0) ∧ Row wr (w.heap.size + 1 + 1 + 1) 6 (part (a + big - b) k) ∧ Below w.heap.size w wr) (fun _ i _ => 6 - (RowKit.intOf i).toNat)
 case atStart =>
  refine ⟨0, by omega, rfl, by simp [brw, Nat.mod_one], ?_, ?_, ?_, ?_, ?_⟩
  ·exact (((Row.new w _ 24 rfl (six_lt rfl)).alloc (by simp <;> omega) _).alloc (by simp <;> omega) _).alloc (by simp <;> omega) _
  ·exact ((Row.new _ _ 24 (by simp <;> omega) (six_lt rfl)).alloc (by simp <;> omega) _).alloc (by simp <;> omega) _
  ·exact (Row.new _ _ 24 (by simp <;> omega) (six_lt (f := fun _ => 0) rfl)).alloc (by simp <;> omega) _
  ·exact Row.new _ _ 24 (by simp <;> omega) (six_lt (f := part (a + big - b) 0) rfl)
  ·exact ((((Below.refl _ _).alloc (Nat.le_refl _) _).alloc (by simp <;> omega) _).alloc (by simp <;> omega) _).alloc (by simp <;> omega) _
 case round =>
  obtain ⟨k, hk, rfl, rfl, hA, hB, hZ, hS, hw⟩ := hrel
  by_cases hlt : k < 6
  ·obtain ⟨hc0, hc1⟩ := brw_bd a b k
   have ha0 := (wd_bd a k).1
   have hb0 := (wd_bd b k).1
   have hb1 := (wd_bd b k).2
   have hA1 := (hA k hlt).1
   have hB1 := (hB k hlt).1
   obtain ⟨hS1, hS2⟩ := hS k hlt
   have h64 := fun w => sub64' (wd a k) (wd b k) (brw a b k) ha0 hb0 hb1 hc0 hc1 w
   clear hb1
   have r1 : Row wr w.heap.size 6 (wd a) ∧ Row wr (w.heap.size + 1) 6 (wd b) ∧ Row wr (w.heap.size + 1 + 1) 6 (fun _ => 0) ∧ Row wr (w.heap.size + 1 + 1 + 1) 6 (part (a + big - b) k) ∧ Below w.heap.size w wr := ⟨hA, hB, hZ, hS, hw⟩
   have R1 : Hid _ := r1
   clear hA hB hZ hS hw r1
   go_wp2
   go_region
   go_wp2
   go_roundw
   case rel =>
    obtain ⟨hA, hB, hZ, hS, hw⟩ := R1.out
    have hbb := HB.out
    exact ⟨k + 1, by omega, by go_num, by rw [sub_cry], (hA.set_other _ (by simp <;> omega)).drew, (hB.set_other _ (by simp <;> omega)).drew, (hZ.set_other _ (by simp <;> omega)).drew, ((hS.set _).congr (fun j _ => part_step (sub_word a b k hlt hbb) j)).drew, (hw.setCell (by simp <;> omega) _).drew⟩
   case measure => simp [RowKit.intOf]; omega
  ·have hk6 : k = 6 := by omega
   subst hk6
   obtain ⟨s0, s1, s2, s3, s4, s5⟩ := (hS.congr (f' := wd ((a + big - b) % big)) (fun j hj => by rw [part_lt hj, wd_mod _ _ hj])).reads
   obtain ⟨z0, z1, z2, z3, z4, z5⟩ := hZ.writes
   obtain ⟨y0, y1, y2, y3, y4, y5⟩ := hZ.reads
   clear hA hB hZ hS
   go_wp2
   rw [He.out]
   exact bodyPost_ret (v := .tuple #[N ((a + big - b) % big), .bool (decide (a < b))]) (by simp [results, Tryz.results39, go_sem, *]) rfl ⟨rfl, (((((hw.setCell (by simp <;> omega) _).setCell (by simp <;> omega) _).setCell (by simp <;> omega) _).setCell (by simp <;> omega) _).setCell (by simp <;> omega) _).setCell (by simp <;> omega) _⟩
end Go.Proofs.YtmanelnacifgcaaGreatDoor
end
section
namespace Go.Proofs.YtmanelnacifgcaaGreatDoor
open Go.RowKit
theorem run_eq6' (D : Nat) (hin : ∀ (a b : Int) (w : World), (Op.equalIn D 22 (.int .u64 a) (.int .u64 b)).run Tryz.prog w = .ok (a == b) w) (x0 x1 x2 x3 x4 x5 y0 y1 y2 y3 y4 y5 : Int) (w : World) :
  (Op.equalIn (D + 1) 24 (.agg #[.int .u64 x0, .int .u64 x1, .int .u64 x2, .int .u64 x3, .int .u64 x4, .int .u64 x5]) (.agg #[.int .u64 y0, .int .u64 y1, .int .u64 y2, .int .u64 y3, .int .u64 y4, .int .u64 y5])).run Tryz.prog w =
   .ok (x0 == y0 && (x1 == y1 && (x2 == y2 && (x3 == y3 && (x4 == y4 && x5 == y5))))) w := by
 have h24 : Tryz.prog.underlying 24 = some (.array 6 22) := by kernel_rfl
 have hsz : ∀ w, (sizeOf 22).run Tryz.prog w = .ok 1 w := fun w => by kernel_rfl
 have hp : ∀ (a b c d e f : Int) (w : World), (Go.part 22 #[.int .u64 a, .int .u64 b, .int .u64 c, .int .u64 d, .int .u64 e, .int .u64 f] 0).run Tryz.prog w = .ok (.int .u64 a) w ∧ (Go.part 22 #[.int .u64 a, .int .u64 b, .int .u64 c, .int .u64 d, .int .u64 e, .int .u64 f] 1).run Tryz.prog w = .ok (.int .u64 b) w ∧ (Go.part 22 #[.int .u64 a, .int .u64 b, .int .u64 c, .int .u64 d, .int .u64 e, .int .u64 f] 2).run Tryz.prog w = .ok (.int .u64 c) w ∧ (Go.part 22 #[.int .u64 a, .int .u64 b, .int .u64 c, .int .u64 d, .int .u64 e, .int .u64 f] 3).run Tryz.prog w = .ok (.int .u64 d) w ∧ (Go.part 22 #[.int .u64 a, .int .u64 b, .int .u64 c, .int .u64 d, .int .u64 e, .int .u64 f] 4).run Tryz.prog w = .ok (.int .u64 e) w ∧ (Go.part 22 #[.int .u64 a, .int .u64 b, .int .u64 c, .int .u64 d, .int .u64 e, .int .u64 f] 5).run Tryz.prog w = .ok (.int .u64 f) w := fun a b c d e f w => ⟨by kernel_rfl, by kernel_rfl, by kernel_rfl, by kernel_rfl, by kernel_rfl, by kernel_rfl⟩
 simp only [Op.equalIn, Sem.run_bind, run_underlying h24, Result.andThen_ok, hsz]
 simp [Std.Legacy.Range.forIn_eq_forIn_range', List.range', List.forIn_cons, hin, hp]
 repeat' split
 all_goals simp_all
theorem run_eq6 (x0 x1 x2 x3 x4 x5 y0 y1 y2 y3 y4 y5 : Int) (w : World) :
  (Op.equalIn 10000 24 (.agg #[.int .u64 x0, .int .u64 x1, .int .u64 x2, .int .u64 x3, .int .u64 x4, .int .u64 x5]) (.agg #[.int .u64 y0, .int .u64 y1, .int .u64 y2, .int .u64 y3, .int .u64 y4, .int .u64 y5])).run Tryz.prog w =
   .ok (x0 == y0 && (x1 == y1 && (x2 == y2 && (x3 == y3 && (x4 == y4 && x5 == y5))))) w :=
 run_eq6' 9999 (fun a b w => run_equalIn_int w 9998 22 .u64 .u64 a b (by kernel_rfl)) x0 x1 x2 x3 x4 x5 y0 y1 y2 y3 y4 y5 w
theorem num_ext' (a b : Nat) : ∀ m, (∀ j, j < m → wd a j = wd b j) → a % 2 ^ (64 * m) = b % 2 ^ (64 * m) := by
 intro m
 induction m with
 | zero => intro _; rw [Nat.mul_zero, Nat.pow_zero, Nat.mod_one, Nat.mod_one]
 | succ m ih =>
  intro h
  have h2 : wn a m = wn b m := Int.ofNat.inj (h m (by omega))
  rw [mod_step, mod_step, ih (fun j hj => h j (by omega)), h2]
theorem num_ext (a b : Nat) (ha : a < big) (hb : b < big) (h : ∀ j, j < 6 → wd a j = wd b j) : a = b := by
 have h2 := num_ext' a b 6 h
 rw [← big_eq, Nat.mod_eq_of_lt ha, Nat.mod_eq_of_lt hb] at h2
 exact h2
theorem num_eq (a b : Nat) (ha : a < big) (hb : b < big) : (wd a 0 == wd b 0 && (wd a 1 == wd b 1 && (wd a 2 == wd b 2 && (wd a 3 == wd b 3 && (wd a 4 == wd b 4 && wd a 5 == wd b 5))))) = decide (a = b) := by
 by_cases h : a = b
 ·subst h; simp
 ·rw [decide_eq_false h]
  apply Bool.eq_false_iff.2
  intro hh
  simp only [Bool.and_eq_true, beq_iff_eq] at hh
  obtain ⟨h0, h1, h2, h3, h4, h5⟩ := hh
  apply h
  apply num_ext a b ha hb
  intro j hj
  match j, hj with
  | 0, _ => exact h0
  | 1, _ => exact h1
  | 2, _ => exact h2
  | 3, _ => exact h3
  | 4, _ => exact h4
  | 5, _ => exact h5
theorem run_eqN (a b : Nat) (ha : a < big) (hb : b < big) (w : World) :
  (Op.equalIn 10000 24 (N a) (N b)).run Tryz.prog w = .ok (decide (a = b)) w := by rw [run_eq6, num_eq a b ha hb]
theorem big_pos : 0 < big := by rw [big_eq]; exact pow_pos' 6
theorem wd_small (n j : Nat) (hn : n < 18446744073709551616) : wd n (j + 1) = 0 := wd_top' n 1 (j + 1) (by simpa using hn) (by omega)
theorem wd_small0 (n : Nat) (hn : n < 18446744073709551616) : wd n 0 = n := by unfold wd; rw [Nat.mul_zero, Nat.pow_zero, Nat.div_one, Nat.mod_eq_of_lt hn]
set_option maxHeartbeats 400000 in
theorem of_any (n : Nat) (hn : n < 18446744073709551616) (w : World) :
  Calls Tryz.prog 17 #[.int .u64 n] w (Rt w (N n)) := by
 have h1 : wd n 1 = 0 := wd_small n 0 hn
 have h2 : wd n 2 = 0 := wd_small n 1 hn
 have h3 : wd n 3 = 0 := wd_small n 2 hn
 have h4 : wd n 4 = 0 := wd_small n 3 hn
 have h5 : wd n 5 = 0 := wd_small n 4 hn
 have h0 := wd_small0 n hn
 unfold N
 rw [h0, h1, h2, h3, h4, h5]
 clear h0 h1 h2 h3 h4 h5 hn
 go_enter Tryz.func17, Tryz.ntmps17
 go_wp2
 refine bodyPost_ret (v := .agg #[.int .u64 n, .int .u64 0, .int .u64 0, .int .u64 0, .int .u64 0, .int .u64 0]) ?_ rfl ⟨rfl, ?_⟩
 ·simp [results, Tryz.results17, go_sem]
 ·exact (Below.refl _ _).alloc (Nat.le_refl _) _
/-- What Compare tells. -/
def cmpv (a b : Nat) : Int := if a = b then 0 else if a < b then -1 else 1
set_option maxHeartbeats 400000 in
theorem compare_any (a b : Nat) (ha : a < big) (hb : b < big) (w : World) :
  Calls Tryz.prog 38 #[N a, N b] w (Rt w (.int .i64 (cmpv a b))) := by
 have he := fun w => run_eqN a b ha hb w
 have hs := fun w => sub_any a b ha hb w
 have HS : Hid _ := hs
 clear hs ha hb
 unfold cmpv
 by_cases c : a = b
 ·have hd : decide (a = b) = true := decide_eq_true c
  rw [if_pos c]
  simp only [hd] at he
  clear c hd
  go_enter Tryz.func38, Tryz.ntmps38
  go_wp2
  go_ret
  exact ⟨rfl, ((Below.refl _ _).alloc (Nat.le_refl _) _).alloc (by first | omega | (simp <;> omega)) _⟩
 ·have hd : decide (a = b) = false := decide_eq_false c
  rw [if_neg c]
  simp only [hd] at he
  clear c hd
  by_cases c2 : a < b
  ·rw [if_pos c2]
   have hd2 : decide (a < b) = true := decide_eq_true c2
   simp only [hd2] at HS
   clear hd2 c2
   go_enter Tryz.func38, Tryz.ntmps38
   go_wp2_with fail
   refine (HS.out _).mono ?_
   rintro e w1 ⟨rfl, hb1⟩
   go_wp2
   go_ret
   refine ⟨rfl, ?_⟩
   exact (((((Below.refl _ _).alloc (Nat.le_refl _) _).alloc (by first | omega | (simp <;> omega)) _).trans (hb1.mono (by simp <;> omega))).alloc (by have := hb1.size; simp at this; omega) _)
  ·rw [if_neg c2]
   have hd2 : decide (a < b) = false := decide_eq_false c2
   simp only [hd2] at HS
   clear hd2 c2
   go_enter Tryz.func38, Tryz.ntmps38
   go_wp2_with fail
   refine (HS.out _).mono ?_
   rintro e w1 ⟨rfl, hb1⟩
   go_wp2
   go_ret
   refine ⟨rfl, ?_⟩
   exact (((((Below.refl _ _).alloc (Nat.le_refl _) _).alloc (by first | omega | (simp <;> omega)) _).trans (hb1.mono (by simp <;> omega))).alloc (by have := hb1.size; simp at this; omega) _)
/-- What a sign counts as a digit to the base 16. -/
def dgv (c : Int) : Int := if 48 ≤ c ∧ c ≤ 57 then c - 48 else if 97 ≤ c ∧ c ≤ 102 then c - 87 else 0
def dgk (c : Int) : Bool := decide (48 ≤ c ∧ c ≤ 57) || decide (97 ≤ c ∧ c ≤ 102)
theorem dgv_bd (c : Int) : 0 ≤ dgv c ∧ dgv c < 16 := by unfold dgv; split <;> (try split) <;> omega
set_option maxHeartbeats 400000 in
theorem digit_any (c : Int) (h0 : 0 ≤ c) (h1 : c ≤ 255) (w : World) :
  Calls Tryz.prog 98 #[.int .u8 c] w fun e w' => e = .returned (.tuple #[.int .u64 (dgv c), .bool (dgk c)]) ∧ w' = w := by
 unfold dgv dgk
 by_cases a : 48 ≤ c ∧ c ≤ 57
 ·obtain ⟨a1, a2⟩ := a
  have d1 : decide (48 ≤ c) = true := decide_eq_true a1
  have d2 : decide (c ≤ 57) = true := decide_eq_true a2
  rw [if_pos ⟨a1, a2⟩, decide_eq_true (⟨a1, a2⟩ : 48 ≤ c ∧ c ≤ 57)]
  go_enter Tryz.func98, Tryz.ntmps98
  go_wp2
  go_ret2
  exact ⟨by simp, rfl⟩
 ·rw [if_neg a, decide_eq_false a]
  by_cases b : 97 ≤ c ∧ c ≤ 102
  ·obtain ⟨b1, b2⟩ := b
   have d1 : decide (48 ≤ c) = true := decide_eq_true (by omega)
   have d2 : decide (c ≤ 57) = false := decide_eq_false (by omega)
   have d3 : decide (97 ≤ c) = true := decide_eq_true b1
   have d4 : decide (c ≤ 102) = true := decide_eq_true b2
   rw [if_pos ⟨b1, b2⟩, decide_eq_true (⟨b1, b2⟩ : 97 ≤ c ∧ c ≤ 102)]
   clear a
   go_enter Tryz.func98, Tryz.ntmps98
   go_wp2
   rw [show c - 97 + 10 = c - 87 by omega]
   go_ret2
   exact ⟨by simp, rfl⟩
  ·rw [if_neg b, decide_eq_false b]
   by_cases x1 : 48 ≤ c
   ·have d1 : decide (48 ≤ c) = true := decide_eq_true x1
    have d2 : decide (c ≤ 57) = false := decide_eq_false (by omega)
    by_cases x2 : 97 ≤ c
    ·have d3 : decide (97 ≤ c) = true := decide_eq_true x2
     have d4 : decide (c ≤ 102) = false := decide_eq_false (by omega)
     clear a b
     go_enter Tryz.func98, Tryz.ntmps98
     go_wp2
     go_ret2
     exact ⟨by simp, rfl⟩
    ·have d3 : decide (97 ≤ c) = false := decide_eq_false x2
     clear a b
     go_enter Tryz.func98, Tryz.ntmps98
     go_wp2
     go_ret2
     exact ⟨by simp, rfl⟩
   ·have d1 : decide (48 ≤ c) = false := decide_eq_false x1
    have d3 : decide (97 ≤ c) = false := decide_eq_false (by omega)
    clear a b
    go_enter Tryz.func98, Tryz.ntmps98
    go_wp2
    go_ret2
    exact ⟨by simp, rfl⟩
/-- The sign at place i from the right. -/
def ch (s : ByteArray) (i : Nat) : Int := if h : s.size - 1 - i < s.size then ((s[s.size - 1 - i]).toNat : Int) else 0
theorem ch_eq (s : ByteArray) (i : Nat) (h : s.size - 1 - i < s.size) : ch s i = ((s[s.size - 1 - i]).toNat : Int) := dif_pos h
/-- The number of the lowest k digits; whether they are digits. -/
def pvv (s : ByteArray) : Nat → Nat
 | 0 => 0
 | k + 1 => pvv s k + (dgv (ch s k)).toNat * 2 ^ (4 * k)
def okk (s : ByteArray) : Nat → Bool
 | 0 => true
 | k + 1 => okk s k && dgk (ch s k)
theorem pvv_lt (s : ByteArray) : ∀ k, pvv s k < 2 ^ (4 * k)
 | 0 => by simp [pvv]
 | k + 1 => by
  have h1 := pvv_lt s k
  have h2 := dgv_bd (ch s k)
  have h3 : (dgv (ch s k)).toNat * 2 ^ (4 * k) ≤ 15 * 2 ^ (4 * k) := Nat.mul_le_mul_right _ (by omega)
  have e : 2 ^ (4 * (k + 1)) = 16 * 2 ^ (4 * k) := by rw [Nat.mul_add, Nat.pow_add, Nat.mul_comm]
  unfold pvv
  rw [e]
  omega
theorem okk_mono (s : ByteArray) (m : Nat) : ∀ k, okk s (k + m) = true → okk s k = true := by
 induction m with
 | zero => intro k h; exact h
 | succ m ih =>
  intro k h
  have h2 : (okk s (k + m) && dgk (ch s (k + m))) = true := h
  exact ih k (by simp only [Bool.and_eq_true] at h2; exact h2.1)
theorem set_digit (V d k j : Nat) (hV : V < 2 ^ (4 * k)) (hd : d < 16) (hj : j ≠ k / 16) : wd (V + d * 2 ^ (4 * k)) j = wd V j := by
 rw [wd_shr, wd_shr, ← Nat.shiftLeft_eq, Nat.add_comm, Nat.shiftLeft_add_eq_or_of_lt hV]
 congr 1
 apply Nat.eq_of_testBit_eq
 intro i
 simp only [Nat.testBit_or, Nat.testBit_mod_two_pow, Nat.testBit_shiftLeft, Nat.testBit_shiftRight]
 by_cases hi : i < 64
 ·by_cases hk : 4 * k ≤ 64 * j + i
  ·have : d.testBit (64 * j + i - 4 * k) = false := Nat.testBit_lt_two_pow (Nat.lt_of_lt_of_le (show d < 2 ^ 4 from hd) (Nat.pow_le_pow_right (by decide) (by omega)))
   simp [this]
  ·simp [hk]
 ·simp [hi]
theorem or_digit_bits (V d k : Nat) : (V >>> (64 * (k / 16)) % 2 ^ 64) ||| (d <<< (4 * (k % 16)) % 2 ^ 64) = (d <<< (4 * k) ||| V) >>> (64 * (k / 16)) % 2 ^ 64 := by
 apply Nat.eq_of_testBit_eq
 intro i
 simp only [Nat.testBit_or, Nat.testBit_mod_two_pow, Nat.testBit_shiftLeft, Nat.testBit_shiftRight]
 by_cases hi : i < 64
 ·by_cases hk : 4 * (k % 16) ≤ i
  ·have e1 : 4 * k ≤ 64 * (k / 16) + i := by omega
   have e2 : 64 * (k / 16) + i - 4 * k = i - 4 * (k % 16) := by omega
   simp [hi, hk, e1, e2, Bool.or_comm]
  ·have e1 : ¬ 4 * k ≤ 64 * (k / 16) + i := by omega
   simp [hi, hk, e1]
 ·simp [hi]
theorem or_digit (V d k : Nat) (hV : V < 2 ^ (4 * k)) : bits .or .u64 (wd V (k / 16)) (IntKind.u64.wrap ((d : Int) * 2 ^ (4 * (k % 16)))) = wd (V + d * 2 ^ (4 * k)) (k / 16) := by
 rw [wrap_shl, wd_shr, wd_shr, ← Nat.shiftLeft_eq, Nat.add_comm, Nat.shiftLeft_add_eq_or_of_lt hV, ← or_digit_bits]
 exact bits_or_u64_nat _ _ (Nat.mod_lt _ (by decide)) (Nat.mod_lt _ (by decide))
theorem digit_step (s : ByteArray) (k j : Nat) : upd (wd (pvv s k)) (k / 16) (bits .or .u64 (wd (pvv s k) (k / 16)) (IntKind.u64.wrap (dgv (ch s k) * 2 ^ (4 * (k % 16))))) j = wd (pvv s (k + 1)) j := by
 have hd := dgv_bd (ch s k)
 have e : dgv (ch s k) = ((dgv (ch s k)).toNat : Int) := by omega
 have hV := pvv_lt s k
 unfold upd
 by_cases h : j = k / 16
 ·rw [if_pos h, h, e, or_digit _ _ k hV]
  rfl
 ·rw [if_neg h]
  exact (set_digit _ _ k j hV (by omega) h).symm
/-- What stands in memory while Divide runs: a, b, two results. -/
structure DM (w wr : World) (a b : Nat) : Prop where
  ra : Row wr w.heap.size 6 (wd a)
  rb : Row wr (w.heap.size + 1) 6 (wd b)
  r2 : Row wr (w.heap.size + 1 + 1) 6 (fun _ => 0)
  r3 : Row wr (w.heap.size + 1 + 1 + 1) 6 (fun _ => 0)
  bl : Below w.heap.size w wr
  sz : w.heap.size + 1 + 1 + 1 < wr.heap.size
theorem DM.start (w : World) (a b : Nat) : DM w ((((w.alloc (O6 a)).alloc (O6 b)).alloc Z6).alloc Z6) a b :=
  ⟨(((Row.new w _ 24 rfl (six_lt rfl)).alloc (by first | omega | (simp <;> omega)) _).alloc (by first | omega | (simp <;> omega)) _).alloc (by first | omega | (simp <;> omega)) _,
   ((Row.new _ _ 24 (by first | omega | (simp <;> omega)) (six_lt rfl)).alloc (by first | omega | (simp <;> omega)) _).alloc (by first | omega | (simp <;> omega)) _,
   (Row.new _ _ 24 (by first | omega | (simp <;> omega)) (six_lt (f := fun _ => 0) rfl)).alloc (by first | omega | (simp <;> omega)) _,
   Row.new _ _ 24 (by first | omega | (simp <;> omega)) (six_lt (f := fun _ => 0) rfl),
   ((((Below.refl _ _).alloc (Nat.le_refl _) _).alloc (by first | omega | (simp <;> omega)) _).alloc (by first | omega | (simp <;> omega)) _).alloc (by first | omega | (simp <;> omega)) _,
   by simp⟩
theorem DM.below {w wr w1 : World} {a b : Nat} (h : DM w wr a b) (hb : Below wr.heap.size wr w1) : DM w w1 a b :=
  have := h.sz
  ⟨Row.below hb h.ra (by omega), Row.below hb h.rb (by omega), Row.below hb h.r2 (by omega), Row.below hb h.r3 (by omega), h.bl.trans (hb.mono (by omega)), Nat.lt_of_lt_of_le h.sz hb.size⟩
theorem DM.alloc {w wr : World} {a b : Nat} (h : DM w wr a b) (o : Obj) : DM w (wr.alloc o) a b :=
  have := h.sz
  ⟨h.ra.alloc (by omega) o, h.rb.alloc (by omega) o, h.r2.alloc (by omega) o, h.r3.alloc (by omega) o, h.bl.alloc (by omega) o, by simp; omega⟩
theorem DM.drew {w wr : World} {a b : Nat} (h : DM w wr a b) : DM w wr.drew a b := ⟨h.ra.drew, h.rb.drew, h.r2.drew, h.r3.drew, h.bl.drew, h.sz⟩
theorem DM.set {w wr : World} {a b : Nat} (h : DM w wr a b) {p : Addr} (hp : w.heap.size + 1 + 1 + 1 < p.block) (v : Value) : DM w (wr.setCell p v) a b :=
  ⟨h.ra.set_other _ (by omega), h.rb.set_other _ (by omega), h.r2.set_other _ (by omega), h.r3.set_other _ (by omega), h.bl.setCell (by omega) _, by simpa [World.setCell] using h.sz⟩
/-- What the loop of Parse tells, once it is come to. -/
def prv (s : ByteArray) : Value := if okk s s.size then .tuple #[N (pvv s s.size), .int .i64 0] else .tuple #[N 0, .int .i64 4]
set_option maxHeartbeats 1000000 in
theorem parse_loop (s : ByteArray) (h1 : 1 ≤ s.size) (h2 : s.size ≤ 96) (h3 : (((s[0]'h1).toNat : Int) == 48) = false ∨ s.size = 1) (w : World) :
  Calls Tryz.prog 58 #[.string s] w (Rt w (prv s)) := by
 have he : s.toList.isEmpty = false := by
  cases hl : s.toList with
  | nil =>
   rw [ByteArray.toList_eq] at hl
   have h0 : s.data.size = 0 := by rw [← Array.length_toList, hl]; rfl
   have : s.size = s.data.size := rfl
   omega
  | cons a l => rfl
 have hg : decide ((96 : Int) < (s.size : Int)) = false := decide_eq_false (by omega)
 have hq : ((((s[0]'h1).toNat : Int) == 48) && decide ((1 : Int) < (s.size : Int))) = false := by
  rcases h3 with h3 | h3
  ·rw [h3]; rfl
  ·rw [decide_eq_false (show ¬ (1 : Int) < (s.size : Int) by omega), Bool.and_false]
 have hz : ((((s[0]'h1).toNat : Int) == 48) = true ∧ decide ((1 : Int) < (s.size : Int)) = false) ∨ (((s[0]'h1).toNat : Int) == 48) = false := by
  cases hc : (((s[0]'h1).toNat : Int) == 48) with
  | true => rw [hc, Bool.true_and] at hq; exact Or.inl ⟨rfl, hq⟩
  | false => exact Or.inr rfl
 have H2 : Hid (s.size ≤ 96) := h2
 clear h3 hq
 rcases hz with ⟨hz, hz1⟩ | hz
 all_goals
  go_enter Tryz.func58, Tryz.ntmps58
  go_wp2
  try clear hz1
  clear hz hg he
  go_loopw [27] (fun i wr => ∃ k : Nat, k ≤ s.size ∧ i = .int .i64 k ∧ okk s k = true ∧ Row wr w.heap.size 6 (fun _ => 0) ∧ Row wr (w.heap.size + 1) 6 (wd (pvv s k)) ∧ Below w.heap.size w wr) (fun i _ => s.size - (RowKit.intOf i).toNat)
  case atStart =>
   refine ⟨0, by omega, rfl, rfl, ?_, ?_, ?_⟩
   ·exact (Row.new w _ 24 rfl (six_lt (f := fun _ => 0) rfl)).alloc (by first | omega | (simp <;> omega)) _
   ·exact (Row.new _ _ 24 (by first | omega | (simp <;> omega)) (six_lt (f := fun _ => 0) rfl)).congr (fun j _ => (wd_zero j).symm)
   ·exact ((Below.refl _ _).alloc (Nat.le_refl _) _).alloc (by first | omega | (simp <;> omega)) _
  case round =>
   obtain ⟨k, hk, rfl, hok, hZ, hS, hw⟩ := hrel
   by_cases hlt : k < s.size
   ·have hch := ch_eq s k (by omega)
    have hdig := fun w => digit_any (ch s k) (by rw [hch]; omega) (by rw [hch]; have := (s[s.size - 1 - k]).toNat_lt; omega) w
    rw [hch] at hdig
    have HD : Hid _ := hdig
    have HCH : Hid _ := hch
    have hb := dgv_bd (((s[s.size - 1 - k]'(by omega)).toNat : Int))
    obtain ⟨hb0, hb1⟩ := hb
    clear hdig hch
    cases hkk : dgk (((s[s.size - 1 - k]'(by omega)).toNat : Int)) with
    | true =>
     obtain ⟨k1, k2⟩ := hS (k / 16) (by omega)
     have HM : Hid (_ ∧ _ ∧ _) := ⟨hZ, hS, hw⟩
     have HOK : Hid _ := hok
     clear hZ hS hw hok
     go_wp2_with (go_at_call 98; refine (HD.out _).mono ?_; rintro e w' ⟨rfl, rfl⟩)
     go_region
     go_wp2
     go_roundw
     case rel =>
      obtain ⟨hZ, hS, hw⟩ := HM.out
      refine ⟨k + 1, by omega, by go_num, ?_, (hZ.set_other _ (by simp <;> omega)).drew, ((hS.set _).congr (fun j _ => ?_)).drew, (hw.setCell (by simp <;> omega) _).drew⟩
      ·show (okk s k && dgk (ch s k)) = true
       rw [HOK.out, HCH.out, hkk]; rfl
      ·rw [← HCH.out]; exact digit_step s k j
     case measure => simp [RowKit.intOf] <;> omega
    | false =>
     have hfin : Hid (prv s = .tuple #[N 0, .int .i64 4]) := by
      show prv s = _
      unfold prv
      rw [if_neg]
      intro hh
      have h5 := okk_mono s (s.size - (k + 1)) (k + 1) (by rw [show k + 1 + (s.size - (k + 1)) = s.size by omega]; exact hh)
      have h6 : (okk s k && dgk (ch s k)) = true := h5
      rw [HCH.out, hkk, Bool.and_false] at h6
      exact absurd h6 (by decide)
     obtain ⟨z0, z1, z2, z3, z4, z5⟩ := hZ.writes
     obtain ⟨y0, y1, y2, y3, y4, y5⟩ := hZ.reads
     have HW : Hid _ := hw
     clear hZ hS hw hok
     go_wp2_with (go_at_call 98; refine (HD.out _).mono ?_; rintro e w' ⟨rfl, rfl⟩)
     refine bodyPost_ret (v := .tuple #[N 0, .int .i64 4]) ?_ rfl ⟨by rw [hfin.out], ?_⟩
     ·simp [results, Tryz.results58, go_sem, wd_zero, *]
     ·exact below6 HW.out (by omega) _ _ _ _ _ _
   ·have hks : k = s.size := by omega
    subst hks
    have hfin : Hid (prv s = .tuple #[N (pvv s s.size), .int .i64 0]) := by
     show prv s = _
     unfold prv
     rw [if_pos hok]
    obtain ⟨s0, s1, s2, s3, s4, s5⟩ := hS.reads
    obtain ⟨z0, z1, z2, z3, z4, z5⟩ := hZ.writes
    obtain ⟨y0, y1, y2, y3, y4, y5⟩ := hZ.reads
    have HW : Hid _ := hw
    clear hZ hS hw hok
    go_wp2
    refine bodyPost_ret (v := .tuple #[N (pvv s s.size), .int .i64 0]) ?_ rfl ⟨by rw [hfin.out], ?_⟩
    ·simp [results, Tryz.results58, go_sem, *]
    ·exact below6 HW.out (by omega) _ _ _ _ _ _
/-- Digit k of a number, to the base 16. -/
def hx (a k : Nat) : Nat := a / 2 ^ (4 * k) % 16
/-- The sign of a digit. -/
def hc (d : Nat) : Int := if d < 10 then 48 + d else 87 + d
def Row8 (w : World) (g n : Nat) (f : Nat → Int) : Prop := ∀ j, j < n → w.cell? ⟨g, j, none⟩ = some (.int .u8 (f j)) ∧ w.frozen? ⟨g, j, none⟩ = false
theorem Row8.congr {w : World} {g n : Nat} {f f' : Nat → Int} (h : Row8 w g n f) (e : ∀ j, j < n → f j = f' j) : Row8 w g n f' := fun j hj => by rw [← e j hj]; exact h j hj
theorem Row8.set {w : World} {g n : Nat} {f : Nat → Int} (h : Row8 w g n f) {k : Nat} (v : Int) : Row8 (w.setCell ⟨g, k, none⟩ (.int .u8 v)) g n (upd f k v) := by
 intro j hj
 obtain ⟨h1, h2⟩ := h j hj
 refine ⟨?_, by rw [World.frozen?_setCell]; exact h2⟩
 unfold upd
 by_cases e : j = k
 ·subst e; rw [if_pos rfl]; exact World.cell?_setCell_same _ _ _ h1
 ·rw [if_neg e, World.cell?_setCell_other _ _ _ _ (by intro h; injection h with h1 h2; exact e h2.symm)]; exact h1
theorem Row8.made (w : World) (m t : Nat) : Row8 (w.alloc (.cells (madeCells #[.int .u8 0] m) t)) w.heap.size m (fun _ => 0) := by
 intro j hj
 refine ⟨?_, World.frozen?_alloc_at _ _ _ _ rfl⟩
 rw [World.cell?_alloc_at _ _ _ _ rfl]
 simp [madeCells, hj, Nat.mod_one]
def tx (a m k p : Nat) : Int := if m ≤ p + k then hc (hx a (m - 1 - p)) else 0
/-- Byte k of a number, the lowest first. -/
def bt (a k : Nat) : Nat := a / 2 ^ (8 * k) % 256
theorem bt_bits (a k : Nat) : ((a >>> (64 * (k / 8)) % 2 ^ 64) >>> (8 * (k % 8))) % 2 ^ 8 = a >>> (8 * k) % 2 ^ 8 := by
 apply Nat.eq_of_testBit_eq
 intro i
 simp only [Nat.testBit_mod_two_pow, Nat.testBit_shiftRight]
 by_cases hi : i < 8
 ·have e1 : 8 * (k % 8) + i < 64 := by omega
  have e2 : 64 * (k / 8) + (8 * (k % 8) + i) = 8 * k + i := by omega
  simp [hi, e1, e2]
 ·simp [hi]
theorem bt_word (a k : Nat) : IntKind.u8.wrap (wd a (k / 8) / 2 ^ (8 * (k % 8))) = (bt a k : Int) := by
 rw [wd_shr, div_shr, IntKind.wrap_u8]
 unfold bt
 have e := bt_bits a k
 rw [Nat.shiftRight_eq_div_pow (m := a) (n := 8 * k)] at e
 have e2 : (2 : Nat) ^ 8 = 256 := by decide
 rw [e2] at e
 rw [← e]
 omega
/-- Bits laid above a number, within one word. -/
theorem part_other (V d p s j : Nat) (hV : V < 2 ^ p) (hd : d < 2 ^ s) (hp : p % 64 + s ≤ 64) (hj : j ≠ p / 64) : wd (V + d * 2 ^ p) j = wd V j := by
 rw [wd_shr, wd_shr, ← Nat.shiftLeft_eq, Nat.add_comm, Nat.shiftLeft_add_eq_or_of_lt hV]
 congr 1
 apply Nat.eq_of_testBit_eq
 intro i
 simp only [Nat.testBit_or, Nat.testBit_mod_two_pow, Nat.testBit_shiftLeft, Nat.testBit_shiftRight]
 by_cases hi : i < 64
 ·by_cases hk : p ≤ 64 * j + i
  ·have : d.testBit (64 * j + i - p) = false := Nat.testBit_lt_two_pow (Nat.lt_of_lt_of_le hd (Nat.pow_le_pow_right (by decide) (by omega)))
   simp [this]
  ·simp [hk]
 ·simp [hi]
theorem part_bits (V d p : Nat) : (V >>> (64 * (p / 64)) % 2 ^ 64) ||| (d <<< (p % 64) % 2 ^ 64) = (d <<< p ||| V) >>> (64 * (p / 64)) % 2 ^ 64 := by
 apply Nat.eq_of_testBit_eq
 intro i
 simp only [Nat.testBit_or, Nat.testBit_mod_two_pow, Nat.testBit_shiftLeft, Nat.testBit_shiftRight]
 by_cases hi : i < 64
 ·by_cases hk : p % 64 ≤ i
  ·have e1 : p ≤ 64 * (p / 64) + i := by omega
   have e2 : 64 * (p / 64) + i - p = i - p % 64 := by omega
   simp [hi, hk, e1, e2, Bool.or_comm]
  ·have e1 : ¬ p ≤ 64 * (p / 64) + i := by omega
   simp [hi, hk, e1]
 ·simp [hi]
theorem part_word (V d p : Nat) (hV : V < 2 ^ p) : bits .or .u64 (wd V (p / 64)) (IntKind.u64.wrap ((d : Int) * 2 ^ (p % 64))) = wd (V + d * 2 ^ p) (p / 64) := by
 rw [wrap_shl, wd_shr, wd_shr, ← Nat.shiftLeft_eq, Nat.add_comm, Nat.shiftLeft_add_eq_or_of_lt hV, ← part_bits]
 exact bits_or_u64_nat _ _ (Nat.mod_lt _ (by decide)) (Nat.mod_lt _ (by decide))
/-- The number of the lowest k of n bytes, the highest byte first. -/
def rdv (f : Nat → Int) (n : Nat) : Nat → Nat
 | 0 => 0
 | k + 1 => rdv f n k + (f (n - 1 - k)).toNat * 2 ^ (8 * k)
theorem rdv_lt (f : Nat → Int) (n : Nat) (hf : ∀ j, j < n → 0 ≤ f j ∧ f j < 256) : ∀ k, k ≤ n → rdv f n k < 2 ^ (8 * k)
 | 0, _ => by simp [rdv]
 | k + 1, hk => by
  have h1 := rdv_lt f n hf k (by omega)
  have h2 := hf (n - 1 - k) (by omega)
  have h3 : (f (n - 1 - k)).toNat * 2 ^ (8 * k) ≤ 255 * 2 ^ (8 * k) := Nat.mul_le_mul_right _ (by omega)
  have e : 2 ^ (8 * (k + 1)) = 256 * 2 ^ (8 * k) := by rw [Nat.mul_add, Nat.pow_add, Nat.mul_comm]
  unfold rdv
  rw [e]
  omega
theorem rdv_step (f : Nat → Int) (n k j : Nat) (hf : ∀ j, j < n → 0 ≤ f j ∧ f j < 256) (hk : k < n) :
  upd (wd (rdv f n k)) (k / 8) (bits .or .u64 (wd (rdv f n k) (k / 8)) (IntKind.u64.wrap (f (n - 1 - k) * 2 ^ (8 * (k % 8))))) j = wd (rdv f n (k + 1)) j := by
 have hd := hf (n - 1 - k) (by omega)
 have e : f (n - 1 - k) = ((f (n - 1 - k)).toNat : Int) := by omega
 have hV := rdv_lt f n hf k (by omega)
 have e1 : 8 * k / 64 = k / 8 := by omega
 have e2 : 8 * k % 64 = 8 * (k % 8) := by omega
 unfold upd
 by_cases h : j = k / 8
 ·have h5 := part_word (rdv f n k) (f (n - 1 - k)).toNat (8 * k) hV
  rw [e1, e2, ← e] at h5
  rw [if_pos h, h, h5]
  rfl
 ·rw [if_neg h]
  exact (part_other _ _ (8 * k) 8 j hV (by omega) (by omega) (by omega)).symm
/-- The bytes that are laid after k rounds. -/
def bx (a k p : Nat) : Int := if 48 ≤ p + k then (bt a (47 - p) : Int) else 0
theorem bx_step (a k p : Nat) (hk : k < 48) (hp : p < 48) : upd (bx a k) (47 - k) (bt a k : Int) p = bx a (k + 1) p := by
 unfold upd bx
 by_cases h : p = 47 - k
 ·rw [if_pos h, if_pos (by omega), show 47 - p = k by omega]
 ·rw [if_neg h]
  by_cases h2 : 48 ≤ p + k
  ·rw [if_pos h2, if_pos (by omega)]
  ·rw [if_neg h2, if_neg (by omega)]
set_option maxHeartbeats 1000000 in
theorem bytes_any (a : Nat) (w : World) :
  Calls Tryz.prog 50 #[N a] w fun e w' => e = .returned (.slice (some ⟨w.heap.size + 1, 0, none⟩) 48 48) ∧ w.heap.size + 1 < w'.heap.size ∧ Row8 w' (w.heap.size + 1) 48 (fun p => (bt a (47 - p) : Int)) ∧ Below w.heap.size w w' := by
 have hmk := run_make_row' (P := Tryz.prog) 55 5 (.int .u8 0) 1 (by kernel_rfl) (by kernel_rfl) rfl .i64 .i64 48 (by omega) (by omega)
 simp only [show ((48 : Nat) : Int) = 48 from rfl] at hmk
 go_enter Tryz.func50, Tryz.ntmps50
 go_wp2
 clear hmk
 go_loopw [8] (fun i wr => ∃ k : Nat, k ≤ 48 ∧ i = .int .i64 k ∧ Row wr w.heap.size 6 (wd a) ∧ w.heap.size + 1 < wr.heap.size ∧ Row8 wr (w.heap.size + 1) 48 (bx a k) ∧ Below w.heap.size w wr) (fun i _ => 48 - (RowKit.intOf i).toNat)
 case atStart =>
  refine ⟨0, by omega, rfl, ?_, ?_, ?_, ?_⟩
  ·exact (Row.new w _ 24 rfl (six_lt rfl)).alloc (by first | omega | (simp <;> omega)) _
  ·simp
  ·have h := Row8.made (w.alloc (O6 a)) 48 5
   simp only [World.size_alloc] at h
   refine Row8.congr h (fun p hp => ?_)
   unfold bx; rw [if_neg (by omega)]
  ·exact ((Below.refl _ _).alloc (Nat.le_refl _) _).alloc (by first | omega | (simp <;> omega)) _
 case round =>
  obtain ⟨k, hk, rfl, hA, hz, hS, hw⟩ := hrel
  by_cases hlt : k < 48
  ·have hA1 := (hA (k / 8) (by omega)).1
   obtain ⟨k1, k2⟩ := hS (47 - k) (by omega)
   have ed := bt_word a k
   have HM : Hid (_ ∧ _ ∧ _ ∧ _) := ⟨hA, hS, hw, hz⟩
   clear hA hS hw hz
   go_wp2
   go_roundw
   case rel =>
    obtain ⟨hA, hS, hw, hz⟩ := HM.out
    refine ⟨k + 1, by omega, by go_num, hA.set_other _ (by simp <;> omega), by simpa using hz, (hS.set _).congr (fun p hp => ?_), hw.setCell (by simp <;> omega) _⟩
    exact bx_step a k p hlt hp
   case measure => simp [RowKit.intOf] <;> omega
  ·have hkm : k = 48 := by omega
   subst hkm
   have HM : Hid (_ ∧ _ ∧ _) := ⟨hS, hw, hz⟩
   clear hA hS hw hz
   go_wp2
   go_ret
   obtain ⟨hS, hw, hz⟩ := HM.out
   refine ⟨rfl, hz, hS.congr (fun p hp => ?_), hw⟩
   unfold bx; rw [if_pos (by omega)]
theorem Row8.below {wr w1 : World} {g n : Nat} {f : Nat → Int} (h : Row8 wr g n f) {B : Nat} (hb : Below B wr w1) (hg : g < B) : Row8 w1 g n f :=
 fun j hj => ⟨by rw [hb.cell (p := ⟨g, j, none⟩) hg]; exact (h j hj).1, by rw [hb.frozen (p := ⟨g, j, none⟩) hg]; exact (h j hj).2⟩
theorem Row8.alloc {wr : World} {g n : Nat} {f : Nat → Int} (h : Row8 wr g n f) (hg : g < wr.heap.size) (o : Obj) : Row8 (wr.alloc o) g n f :=
 h.below ((Below.refl _ _).alloc (Nat.le_refl _) o) hg
theorem Row8.set_other {wr : World} {g n : Nat} {f : Nat → Int} (h : Row8 wr g n f) {b o : Nat} (v : Value) (hb : b ≠ g) : Row8 (wr.setCell ⟨b, o, none⟩ v) g n f := by
 intro j hj
 obtain ⟨h1, h2⟩ := h j hj
 exact ⟨by rw [World.cell?_setCell_other _ _ _ _ (by intro h; injection h with h1 h2; exact hb h1)]; exact h1, by rw [World.frozen?_setCell]; exact h2⟩
theorem Row8.drew {wr : World} {g n : Nat} {f : Nat → Int} (h : Row8 wr g n f) : Row8 wr.drew g n f := h
set_option maxHeartbeats 1000000 in
theorem read_any (g n c : Nat) (f : Nat → Int) (hn : n ≤ 48) (hf : ∀ j, j < n → 0 ≤ f j ∧ f j < 256) (w : World) (hg : g < w.heap.size) (hr : Row8 w g n f) :
  Calls Tryz.prog 124 #[.slice (some ⟨g, 0, none⟩) n c] w (Rt w (.tuple #[N (rdv f n n), .int .i64 0])) := by
 have d0 : decide ((48 : Int) < n) = false := decide_eq_false (by omega)
 have HR : Hid (Row8 w g n f) := hr
 have HF : Hid _ := hf
 clear hr hf
 go_enter Tryz.func124, Tryz.ntmps124
 go_wp2
 clear d0
 go_loopw [12] (fun i wr => ∃ k : Nat, k ≤ n ∧ i = .int .i64 k ∧ Row8 wr g n f ∧ Row wr w.heap.size 6 (fun _ => 0) ∧ Row wr (w.heap.size + 1) 6 (wd (rdv f n k)) ∧ Below w.heap.size w wr) (fun i _ => n - (RowKit.intOf i).toNat)
 case atStart =>
  refine ⟨0, by omega, rfl, ?_, ?_, ?_, ?_⟩
  ·exact (Row8.alloc HR.out hg _).alloc (by simp; omega) _
  ·exact (Row.new w _ 24 rfl (six_lt (f := fun _ => 0) rfl)).alloc (by first | omega | (simp <;> omega)) _
  ·exact (Row.new _ _ 24 (by first | omega | (simp <;> omega)) (six_lt (f := fun _ => 0) rfl)).congr (fun j _ => (wd_zero j).symm)
  ·exact ((Below.refl _ _).alloc (Nat.le_refl _) _).alloc (by first | omega | (simp <;> omega)) _
 case round =>
  obtain ⟨k, hk, rfl, hB, hZ, hS, hw⟩ := hrel
  by_cases hlt : k < n
  ·have hB1 := (hB (n - 1 - k) (by omega)).1
   obtain ⟨k1, k2⟩ := hS (k / 8) (by omega)
   have hf1 := HF.out (n - 1 - k) (by omega)
   obtain ⟨F, hF⟩ : ∃ F, F = f (n - 1 - k) := ⟨_, rfl⟩
   rw [← hF] at hB1 hf1
   obtain ⟨f0, f1⟩ := hf1
   have HM : Hid (_ ∧ _ ∧ _ ∧ _ ∧ _) := ⟨hB, hZ, hS, hw, hF⟩
   clear hB hZ hS hw hF
   go_wp2
   go_region
   go_wp2
   go_roundw
   case rel =>
    obtain ⟨hB, hZ, hS, hw, hF⟩ := HM.out
    refine ⟨k + 1, by omega, by go_num, (hB.set_other _ (by omega)).drew, (hZ.set_other _ (by simp <;> omega)).drew, ((hS.set _).congr (fun j _ => ?_)).drew, (hw.setCell (by simp <;> omega) _).drew⟩
    rw [hF]
    exact rdv_step f n k j HF.out hlt
   case measure => simp [RowKit.intOf] <;> omega
  ·have hks : k = n := by omega
   subst hks
   obtain ⟨s0, s1, s2, s3, s4, s5⟩ := hS.reads
   obtain ⟨z0, z1, z2, z3, z4, z5⟩ := hZ.writes
   obtain ⟨y0, y1, y2, y3, y4, y5⟩ := hZ.reads
   have HW : Hid _ := hw
   clear hZ hS hw hB
   go_wp2
   refine bodyPost_ret (v := .tuple #[N (rdv f k k), .int .i64 0]) ?_ rfl ⟨rfl, ?_⟩
   ·simp [results, Tryz.results124, go_sem, *]
   ·exact below6 HW.out (by omega) _ _ _ _ _ _
end Go.Proofs.YtmanelnacifgcaaGreatDoor
end
