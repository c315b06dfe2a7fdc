/- Texts of the proof, joined. -/
import Derived.Test.YtidicdlfjdlpnaaP1
import Derived.Below
import Derived.BigQuiet
import Derived.ChangeKeysEq
import Derived.Deep.OwnRows
import Derived.Deep.RegionHeld3
import Derived.Laws.AppendOwn
import Derived.Laws.Bits64b
import Derived.Laws.Build
import Derived.Laws.BytesArg
import Derived.Laws.IdiomCopy
import Derived.Laws.NewBlocks
import Derived.Laws.OwnMore
import Derived.Laws.Pointers
import Derived.Laws.Shifts
import Derived.Laws.Unary
import Derived.Lib.Bytes
import Derived.Lib.SliceRun
import Derived.Lib.Slices
import Derived.Lib.Small
import Derived.Lib.Strings
import Derived.Lib.Walk
import Derived.LoopN
import Derived.Maps.AppendAt
import Derived.Orders
import Derived.RegionTactic
import Derived.WalkKit
import Derived.WalkSmall
import Derived.WalkSpells
section
namespace Go.Proofs.Ytidicdlfjdlpnaa
open Go.RowKit
namespace Rg
namespace Wi
abbrev U (n : Nat) : Value := .int .u64 (n : Int)
abbrev Z8 (n : Nat) : Value := .int .u8 (n : Int)
theorem ex_loadT {ρ : Operand → Value} {o : Oper} {x : Operand} {g off n : Nat} {t : TypeId} {cs ms : List Value} {w : World} {l : List (Nat × List Value)} (h : Mm w l) (q : Nat) (hk : l[q]? = some (g, cs)) (ho : o.op = .load t x) (hx : ρ x = PT g off) (ha : ∀ w, (isAgg t).run Try.prog w = .ok true w) (hs : ∀ w, (sizeOf t).run Try.prog w = .ok n w) (hc : (cs.drop off).take n = ms) (hl : ms.length = n) :
    (execOp ρ o).run Try.prog w = .ok (.value (.agg ms.toArray)) w := by
  have hm := List.mem_of_getElem? hk
  have hcell := run_loadCells_list (P := Try.prog) (w := w) ⟨g, off, none⟩ ms (fun j v hv => by
    have e : cs[off + j]? = some v := by
      rw [← List.getElem?_drop]
      rw [← hc, List.getElem?_take] at hv
      split at hv
      · exact hv
      · cases hv
    have e2 := h.cell hm e
    rw [show (⟨g, off, none⟩ : Addr).add j = ⟨g, off + j, none⟩ from by unfold Addr.add; split <;> simp_all]
    exact e2)
  rw [hl] at hcell
  have hf : (loadCellsFrom ⟨g, off, none⟩ 0 n #[]).run Try.prog w = .ok ms.toArray w := hcell
  clear hcell hc hk hm h
  simp only [execOp, ho, hx]
  go_simp
theorem ex_loadC {ρ : Operand → Value} {o : Oper} {x : Operand} {g off : Nat} {t : TypeId} {v : Value} {cs : List Value} {w : World} {l : List (Nat × List Value)} (h : Mm w l) (k : Nat) (hk : l[k]? = some (g, cs)) (ho : o.op = .load t x) (hx : ρ x = PT g off) (ha : ∀ w, (isAgg t).run Try.prog w = .ok false w) (hc : cs[off]? = some v) :
    (execOp ρ o).run Try.prog w = .ok (.value v) w := by
  have c0 := h.cell (List.mem_of_getElem? hk) hc
  clear h hk hc
  simp only [execOp, ho, hx]
  go_simp
theorem ex_boxT {ρ : Operand → Value} {o : Oper} {x : Operand} {t : TypeId} {cs : List Value} {w : World} (ho : o.op = .box t x) (hx : ρ x = .agg cs.toArray) :
    (execOp ρ o).run Try.prog w = .ok (.value (.pointer (some ⟨w.heap.size, 0, none⟩))) (w.alloc (.cells cs.toArray t)) := by
  simp only [execOp, ho, hx]
  go_simp
theorem ex_storeT {ρ : Operand → Value} {o : Oper} {x y : Operand} {g off : Nat} {t : TypeId} {cs vs : List Value} {w : World} {l : List (Nat × List Value)} (h : Mm w l) (q : Nat) (hk : l[q]? = some (g, cs)) (ho : o.op = .store t x y) (hx : ρ x = PT g off) (hy : ρ y = .agg vs.toArray) (hs : ∀ w, (sizeOf t).run Try.prog w = .ok vs.length w) (h1 : vs.all Value.oneCell' = true) (hb : off + vs.length ≤ cs.length) :
    (execOp ρ o).run Try.prog w = .ok .skip (w.setCells g off vs) := by
  have hm := List.mem_of_getElem? hk
  have hq : ∀ j, j < vs.length → ∃ u, cs[off + j]? = some u := fun j hj => ⟨_, List.getElem?_eq_getElem (by omega)⟩
  have hst := run_storeCells_cells (P := Try.prog) g off vs 0 w (fun j hj => by
    obtain ⟨u, hu⟩ := hq j hj
    rw [show off + 0 + j = off + j by omega, h.cell hm hu]; rfl) (fun j hj => by
    obtain ⟨u, hu⟩ := hq j hj
    rw [show off + 0 + j = off + j by omega]; exact h.free hm hu) (List.all_eq_true.1 h1)
  clear h hm hq hb hk
  simp only [execOp, ho, hx, hy]
  go_simp
def slotfn (l : List Value) (d : Nat) : Value := l.getD d undef
/-- Sums, products of bits, of numbers by 2^32. -/
def ad (a b : Nat) : Nat := (a + b) % 4294967296
def an (a b : Nat) : Nat := (a &&& b) % 4294967296
def ou (a b : Nat) : Nat := (a ||| b) % 4294967296
def xo (a b : Nat) : Nat := (a ^^^ b) % 4294967296
def nt (a : Nat) : Nat := xo 4294967295 a
def sl (a k : Nat) : Nat := a * 2 ^ k % 4294967296
def sr (a k : Nat) : Nat := a / 2 ^ k
def c32 (a : Nat) : Nat := a % 4294967296
def c64 (a : Nat) : Nat := a % 18446744073709551616
section
variable {ρ : Operand → Value} {o : Oper} {x y : Operand} {a b k : Nat} {w : World}
end
/-- A row of numbers of one kind. -/
def ints (ik : IntKind) (f : Nat → Nat) (n : Nat) : List Value := (List.range n).map fun j => .int ik (f j : Int)
theorem ints_len (ik : IntKind) (f : Nat → Nat) (n : Nat) : (ints ik f n).length = n := by simp [ints]
theorem ints_get (ik : IntKind) (f : Nat → Nat) {n j : Nat} (h : j < n) : (ints ik f n)[j]? = some (.int ik (f j : Int)) := by
  unfold ints
  rw [List.getElem?_map, List.getElem?_eq_getElem (by simpa using h), List.getElem_range]
  rfl
theorem ints_none (ik : IntKind) (f : Nat → Nat) {n j : Nat} (h : n ≤ j) : (ints ik f n)[j]? = none := List.getElem?_eq_none (by rw [ints_len]; exact h)
theorem ints_all (ik : IntKind) (f : Nat → Nat) (n : Nat) : (ints ik f n).all Value.oneCell' = true := by
  rw [List.all_eq_true]
  intro v hv
  obtain ⟨j, _, rfl⟩ := List.mem_map.1 hv
  rfl
theorem ints_congr {ik : IntKind} {f f' : Nat → Nat} {n : Nat} (h : ∀ j, j < n → f j = f' j) : ints ik f n = ints ik f' n := by
  unfold ints
  exact List.map_congr_left fun j hj => by rw [h j (by simpa using hj)]
def up (f : Nat → Nat) (k v : Nat) : Nat → Nat := fun j => if j = k then v else f j
set_option maxRecDepth 100000
section
variable {ρ : Operand → Value} {o : Oper} {x y : Operand} {g off j n : Nat} {w : World}
end
structure Rs (gb o n : Nat) (f : Nat → Nat) (w : World) : Prop where
  lt : 0 < n → gb < w.heap.size
  at_ : ∀ i, i < n → w.cell? ⟨gb, o + i, none⟩ = some (Z8 (f i))
theorem Rs.below {gb o n : Nat} {f : Nat → Nat} {w w' : World} (h : Rs gb o n f w) (hb : Below w.heap.size w w') : Rs gb o n f w' :=
  ⟨fun hn => Nat.lt_of_lt_of_le (h.lt hn) hb.size, fun i hi => by rw [hb.cell (p := ⟨gb, o + i, none⟩) (h.lt (by omega))]; exact h.at_ i hi⟩
section
variable {ρ : Operand → Value} {o : Oper} {x y : Operand} {g off m c j k n : Nat} {f : Nat → Nat} {w : World}
end
section
variable {ρ : Operand → Value} {o : Oper} {x y : Operand} {a b : Nat} {w : World}
end
theorem Rs.add {g o n : Nat} {f : Nat → Nat} {w : World} (h : Rs g o n f w) (j : Nat) (hj : j < n) : w.cell? ((⟨g, o, none⟩ : Addr).add j) = some (Z8 (f j)) := by
  rw [show (⟨g, o, none⟩ : Addr).add j = ⟨g, o + j, none⟩ by unfold Addr.add; split <;> simp_all]
  exact h.at_ j hj
/-- A slice on its way: i of n bytes are taken. -/
def Bv (gb o n cp i : Nat) (v : Value) : Prop := (i < n → v = .slice (some ⟨gb, o + i, none⟩) (n - i) (cp - i)) ∧ (i = n → ∃ p c, v = .slice p 0 c)
section
variable {ρ : Operand → Value} {o : Oper} {x y : Operand} {g off m c j a : Nat} {w : World}
end
theorem info_byte : ∃ i, Try.prog.info? 5 = some i ∧ i.zero = some (.int .u8 0) ∧ i.size = 1 ∧ i.bytes = 1 := by
  have h : (Try.prog.info? 5).map (fun i => (i.zero, i.size, i.bytes)) = some (some (.int .u8 0), 1, 1) := by kernel_rfl
  cases hi : Try.prog.info? 5 with
  | none => rw [hi] at h; simp at h
  | some i =>
    rw [hi] at h
    simp at h
    exact ⟨i, rfl, h.1, h.2.1, h.2.2⟩
/-- A row, and another behind its first n. -/
def ct (P : Nat → Nat) (n : Nat) (Q : Nat → Nat) : Nat → Nat := fun j => if j < n then P j else Q (j - n)
theorem ints_cat (P Q : Nat → Nat) (n m : Nat) : ints .u8 P n ++ ints .u8 Q m = ints .u8 (ct P n Q) (n + m) := by
  apply List.ext_getElem?
  intro j
  unfold ct
  by_cases h : j < n
  · rw [List.getElem?_append_left (by rw [ints_len]; exact h), ints_get _ _ h, ints_get _ _ (by omega), if_pos h]
  · rw [List.getElem?_append_right (by rw [ints_len]; omega), ints_len]
    by_cases h2 : j < n + m
    · rw [ints_get _ _ (by omega), ints_get _ _ h2, if_neg h]
    · rw [ints_none _ _ (by omega), ints_none _ _ (by omega)]
/-- A slice of the call's own, n bytes long, beside blocks l. -/
structure Zo (w : World) (B : Nat) (l : List (Nat × List Value)) (vv : Value) (n : Nat) (P : Nat → Nat) (w' : World) : Prop where
  b : Below w.heap.size w w'
  lo : w.heap.size ≤ B
  hi : B ≤ w'.heap.size
  m : Mm w' l
  lt : ∀ p ∈ l, p.1 < B
  own : w'.ownsRow B 5 1 vv n (ints .u8 P n)
section
variable {w w1 w2 : World} {B n : Nat} {l : List (Nat × List Value)} {vv : Value} {P P' : Nat → Nat}
theorem Zo.size (h : Zo w B l vv n P w1) : w.heap.size ≤ w1.heap.size := h.b.size
theorem Zo.step (h : Zo w B l vv n P w1) (hb : Below w1.heap.size w1 w2) : Zo w B l vv n P w2 := by
  refine ⟨h.b.trans (hb.mono h.b.size), h.lo, Nat.le_trans h.hi hb.size, h.m.below hb, h.lt, h.own.1, ?_⟩
  rcases h.own.2 with ⟨h1, h2⟩ | ⟨g, cap, cur, h1, h2, h3, h4⟩
  · exact .inl ⟨h1, h2⟩
  · refine .inr ⟨g, cap, cur, h1, h2, ?_, h4⟩
    rw [hb.block g (Array.getElem?_eq_some_iff.1 h3).1]
    exact h3
theorem Zo.cg (h : Zo w B l vv n P w1) (e : ∀ j, j < n → P j = P' j) : Zo w B l vv n P' w1 := by
  have := h.own
  rw [ints_congr e] at this
  exact ⟨h.b, h.lo, h.hi, h.m, h.lt, this⟩
theorem Zo.nil (P : Nat → Nat) (w : World) : Zo w w.heap.size [] (.slice none 0 0) 0 P w := ⟨Below.refl _ _, Nat.le_refl _, Nat.le_refl _, Mm.nil w, fun p hp => (by cases hp), World.ownsRow_nil _ _ _ _⟩
theorem Zo.app (h : Zo w B l vv n P w1) {a : Addr} (m c : Nat) (Q : Nat → Nat) (hr : ∀ j, j < m → w1.cell? (a.add j) = some (Z8 (Q j))) (hb : n + m ≤ 2097152) (ty : TypeId) :
    ∃ v' w2, (Builtin.append_ #[34, 34] ty #[vv, .slice (some a) m c]).run Try.prog w1 = .ok v' w2 ∧ Zo w B l v' (n + m) (ct P n Q) w2 := by
  obtain ⟨i0, hi, hz0, hz1, hz2⟩ := info_byte
  obtain ⟨v', w2, h1, h2, h3, _⟩ := run_append_own (P := Try.prog) w1 B 34 ty 5 i0 (.int .u8 0) 1 1 Try.underlying34 hi hz0 hz1 hz2 rfl (by decide) vv n _ h.own a m c (ints .u8 Q m) (by rw [ints_len]; omega)
    (fun j u hj => by
      have hjm : j < m := by
        have := (List.getElem?_eq_some_iff.1 hj).1
        rwa [ints_len] at this
      rw [ints_get _ _ hjm] at hj
      rw [hr j hjm]
      exact hj) (List.all_eq_true.1 (ints_all _ _ _)) (by unfold maxLen; omega) (by omega) h.hi
  have hb2 : Below B w1 w2 := (Below.refl _ _).grown h3 h.hi (fun k hk => (World.ownsRow.lt h.own k hk).1)
  rw [ints_cat] at h2
  exact ⟨v', w2, h1, h.b.trans (hb2.mono h.lo), h.lo, Nat.le_trans h.hi hb2.size, ⟨fun p hp => ⟨Nat.lt_of_lt_of_le (h.m.blk p hp).1 hb2.size, (h.m.blk p hp).2.below hb2 (h.lt p hp)⟩, h.m.nd⟩, h.lt, h2⟩
theorem Zo.rs {g cap : Nat} (h : Zo w B l (.slice (some ⟨g, 0, none⟩) n cap) n P w1) : Rs g 0 n P w1 := by
  have hc := World.ownsRow.cells h.own (g := g) rfl
  refine ⟨fun _ => (World.ownsRow.lt h.own g rfl).2, fun i hi => ?_⟩
  have := hc i _ (ints_get .u8 P hi)
  rw [show (⟨g, 0, none⟩ : Addr).add i = ⟨g, 0 + i, none⟩ by unfold Addr.add; split <;> simp_all] at this
  exact this
end
section
variable {ρ : Operand → Value} {o : Oper} {x y : Operand} {a : Nat} {w w2 : World} {vv sv v' : Value}
theorem ex_app (ho : o.op = .call { callee := .builtin .append, args := #[x, y], argTypes := #[34, 34] }) (hx : ρ x = vv) (hy : ρ y = sv) (hr : (Builtin.append_ #[34, 34] o.type #[vv, sv]).run Try.prog w = .ok v' w2) : (execOp ρ o).run Try.prog w = .ok (.value v') w2 := by
  unfold execOp
  simp only [ho, resolve, invoke, builtin, Sem.run_bind, Sem.run_pure, Result.andThen_ok, List.map_toArray, List.map_cons, List.map_nil, hx, hy, hr]
end
set_option maxRecDepth 100000
/-- Bytes that can be read: n of them, from o on, in block g. -/
structure Rd (g o n : Nat) (f : Nat → Nat) (w : World) : Prop where
  lt : g < w.heap.size
  at_ : ∀ i, i < n → w.cell? ⟨g, o + i, none⟩ = some (.int .u8 ((f i : Nat) : Int))
theorem Rd.below {g o n : Nat} {f : Nat → Nat} {w w' : World} (h : Rd g o n f w) (hb : Below w.heap.size w w') : Rd g o n f w' :=
  ⟨Nat.lt_of_lt_of_le h.lt hb.size, fun i hi => by rw [hb.cell (p := ⟨g, o + i, none⟩) h.lt]; exact h.at_ i hi⟩
/-- v is a slice whose bytes are xs, with room for c. -/
structure BSl (w : World) (xs : List Int) (c : Nat) (v : Value) : Prop where
  or : (∃ g o, v = .slice (some ⟨g, o, none⟩) xs.length c ∧ g < w.heap.size ∧ xs.length ≤ c ∧ ∀ i, i < xs.length → w.cell? ⟨g, o + i, none⟩ = some (.int .u8 (xs.getD i 0))) ∨ ∃ p, v = .slice p 0 c ∧ xs = []
theorem BSl.full {w : World} {xs : List Int} {c : Nat} (g o : Nat) (hg : g < w.heap.size) (hc : xs.length ≤ c) (h : ∀ i, i < xs.length → w.cell? ⟨g, o + i, none⟩ = some (.int .u8 (xs.getD i 0))) : BSl w xs c (.slice (some ⟨g, o, none⟩) xs.length c) := ⟨.inl ⟨g, o, rfl, hg, hc, h⟩⟩
theorem BSl.void {w : World} {xs : List Int} {c : Nat} (p : Option Addr) (hx : xs = []) : BSl w xs c (.slice p 0 c) := ⟨.inr ⟨p, rfl, hx⟩⟩
theorem BSl.each {w : World} {xs : List Int} {c : Nat} {M : (v : Value) → BSl w xs c v → Prop} (full : ∀ (g o : Nat) (hg : g < w.heap.size) (hc : xs.length ≤ c) (h : ∀ i, i < xs.length → w.cell? ⟨g, o + i, none⟩ = some (.int .u8 (xs.getD i 0))), M (.slice (some ⟨g, o, none⟩) xs.length c) (BSl.full g o hg hc h)) (void : ∀ (p : Option Addr) (hx : xs = []), M (.slice p 0 c) (BSl.void p hx)) {v : Value} (h : BSl w xs c v) : M v h := by
  rcases h with ⟨⟨g, o, rfl, hg, hc, h⟩ | ⟨p, rfl, hx⟩⟩
  · exact full g o hg hc h
  · exact void p hx
theorem BSl.below {w w' : World} {xs : List Int} {c : Nat} {v : Value} (h : BSl w xs c v) (hb : Below w.heap.size w w') : BSl w' xs c v := by
  cases h using BSl.each with
  | full g o hg hc h => exact .full g o (Nat.lt_of_lt_of_le hg hb.size) hc (fun i hi => by rw [hb.cell (p := ⟨g, o + i, none⟩) hg]; exact h i hi)
  | void p hx => exact .void p hx
theorem BSl.alloc {w : World} {xs : List Int} {c : Nat} {v : Value} (h : BSl w xs c v) (o : Obj) : BSl (w.alloc o) xs c v := h.below ((Below.refl _ _).alloc (Nat.le_refl _) _)
theorem BSl.text {w : World} {xs : List Int} {c : Nat} {v : Value} (h : BSl w xs c v) : (convert 34 9 v).run Try.prog w = .ok (.string (strOfNums xs)) w := by
  cases h using BSl.each with
  | full g o hg hc h => exact run_convert_bytes_arg (P := Try.prog) w 34 5 (by kernel_rfl) (by kernel_rfl) g o xs.length c xs rfl h 9 (by kernel_rfl)
  | void p hx =>
    subst hx
    cases p with
    | none => exact run_convert_bytes_nil (P := Try.prog) w 34 5 (by kernel_rfl) (by kernel_rfl) 0 c 9 (by kernel_rfl)
    | some a =>
      have hl : (loadCells a 0).run Try.prog w = .ok (([] : List Int).map (Value.int .u8)).toArray w := by simpa using run_loadCells_list (P := Try.prog) w a [] (by simp)
      rw [run_convert_bytes_string w 34 9 5 _ 0 c (by kernel_rfl) (by kernel_rfl) (by kernel_rfl), run_bytesToString w _ 0 c [] hl, foldl_push_bytes]
      rfl
set_option maxHeartbeats 400000 in
theorem same_any {xs : List Int} {c c' : Nat} {v v' : Value} (w : World) (h : BSl w xs c v) (h' : BSl w xs c' v') :
    Calls Try.prog 29 #[v, v'] w fun e w' => e = .returned (.bool true) ∧ w' = w := by
  have h1 := h.text
  have h2 := h'.text
  clear h h'
  go_enter Try.func29, Try.ntmps29
  go_wp2
  go_ret
  exact ⟨rfl, rfl⟩
theorem Rd.bsl {g o n c : Nat} {f : Nat → Nat} {w : World} (h : Rd g o n f w) (hc : n ≤ c) : BSl w ((List.range n).map fun i => ((f i : Nat) : Int)) c (.slice (some ⟨g, o, none⟩) n c) := by
  have hl : ((List.range n).map fun i => ((f i : Nat) : Int)).length = n := by simp
  have hb := BSl.full (w := w) (xs := (List.range n).map fun i => ((f i : Nat) : Int)) (c := c) g o h.lt (by rw [hl]; exact hc) (fun i hi => by
    rw [hl] at hi
    rw [h.at_ i hi]
    simp [List.getD, hi])
  rw [hl] at hb
  exact hb
def Row8 (w : World) (g n : Nat) (f : Nat → Int) : Prop := ∀ j, j < n → w.cell? ⟨g, j, none⟩ = some (.int .u8 (f j)) ∧ w.frozen? ⟨g, j, none⟩ = false
theorem Row8.below {wr w1 : World} {g n : Nat} {f : Nat → Int} (h : Row8 wr g n f) {B : Nat} (hb : Below B wr w1) (hg : g < B) : Row8 w1 g n f :=
  fun j hj => ⟨by rw [hb.cell (p := ⟨g, j, none⟩) hg]; exact (h j hj).1, by rw [hb.frozen (p := ⟨g, j, none⟩) hg]; exact (h j hj).2⟩
theorem Row8.alloc {wr : World} {g n : Nat} {f : Nat → Int} (h : Row8 wr g n f) (hg : g < wr.heap.size) (o : Obj) : Row8 (wr.alloc o) g n f :=
  h.below ((Below.refl _ _).alloc (Nat.le_refl _) o) hg
theorem BSl.row {w : World} {g n : Nat} {f : Nat → Int} (hg : g < w.heap.size) (hr : ∀ j, j < n → w.cell? ⟨g, j, none⟩ = some (.int .u8 (f j))) (c : Nat) (hc : n ≤ c) : BSl w ((List.range n).map f) c (.slice (some ⟨g, 0, none⟩) n c) := by
  have h : BSl w ((List.range n).map f) c (.slice (some ⟨g, 0, none⟩) ((List.range n).map f).length c) := .full g 0 hg (by simpa using hc) (fun i hi => by
    have hi' : i < n := by simpa using hi
    rw [Nat.zero_add, hr i hi']
    simp [hi'])
  simpa using h
section
variable {ρ : Operand → Value} {o : Oper} {x y : Operand} {a b k : Nat} {w : World}
end
/-- A hash, cell by cell. -/
def hs (m : Bool) (s r : Nat → Nat) (c : Nat) : List Value := .bool m :: (ints .u32 s 8 ++ (ints .u8 r 64 ++ [U c]))
set_option maxRecDepth 100000
/-- Eight numbers, as a row. -/
def ei (a b c d e f g h : Nat) (j : Nat) : Nat := [a, b, c, d, e, f, g, h].getD j 0
section
variable {ρ : Operand → Value} {o : Oper} {x y : Operand} {g off j n : Nat} {w : World}
end
/-- A number turned to the right. -/
def ro (x k : Nat) : Nat := ou (sl x (32 - k)) (sr x k)
def sA (x : Nat) : Nat := xo (xo (ro x 7) (ro x 18)) (sr x 3)
def sB' (x : Nat) : Nat := xo (xo (ro x 17) (ro x 19)) (sr x 10)
def gA (x : Nat) : Nat := xo (xo (ro x 2) (ro x 13)) (ro x 34)
def gB (x : Nat) : Nat := xo (xo (ro x 6) (ro x 11)) (ro x 25)
section
variable {ρ : Operand → Value} {o : Oper} {x y : Operand} {k : Nat} {w : World}
end
set_option maxRecDepth 100000
/-- The tables. -/
def kT (j : Nat) : Nat := [1116352408, 1899447441, 3049323471, 3921009573, 961987163, 1508970993, 2453635748, 2870763221, 3624381080, 310598401, 607225278, 1426881987, 1925078388, 2162078206, 2614888103, 3248222580, 3835390401, 4022224774, 264347078, 604807628, 770255983, 1249150122, 1555081692, 1996064986, 2554220882, 2821834349, 2952996808, 3210313671, 3336571891, 3584528711, 113926993, 338241895, 666307205, 773529912, 1294757372, 1396182291, 1695183700, 1986661051, 2177026350, 2456956037, 2730485921, 2820302411, 3259730800, 3345764771, 3516065817, 3600352804, 4094571909, 275423344, 430227734, 506948616, 659060556, 883997877, 958139571, 1322822218, 1537002063, 1747873779, 1955562222, 2024104815, 2227730452, 2361852424, 2428436474, 2756734187, 3204031479, 3329325298].getD j 0
def fT (j : Nat) : Nat := ei 1779033703 3144134277 1013904242 2773480762 1359893119 2600822924 528734635 1541459225 j
/-- The words of a block. -/
def wd (x : Nat → Nat) (t : Nat) : Nat := ou (ou (ou (sl (c32 (x (4 * t))) 24) (sl (c32 (x (4 * t + 1))) 16)) (sl (c32 (x (4 * t + 2))) 8)) (c32 (x (4 * t + 3)))
def w0 (x : Nat → Nat) : Nat → Nat → Nat
  | 0 => fun _ => 0
  | n + 1 => up (w0 x n) n (wd x n)
def ws (v : Nat → Nat) : Nat → Nat → Nat
  | 0 => v
  | n + 1 => up (ws v n) (16 + n) (ad (ad (ad (sB' (ws v n (16 + n - 2))) (ws v n (16 + n - 7))) (sA (ws v n (16 + n - 15)))) (ws v n (16 + n - 16)))
/-- The eight numbers on their way. -/
structure St where
  a : Nat
  b : Nat
  c : Nat
  d : Nat
  e : Nat
  f : Nat
  g : Nat
  h : Nat
def pp (K w : Nat) (s : St) : Nat := ad (ad (ad (ad s.h (gB s.e)) (xo (an s.e s.f) (an (nt s.e) s.g))) K) w
def qq (s : St) : Nat := ad (gA s.a) (xo (xo (an s.a s.b) (an s.a s.c)) (an s.b s.c))
def stp (K w : Nat) (s : St) : St := ⟨ad (pp K w s) (qq s), s.a, s.b, s.c, ad s.d (pp K w s), s.e, s.f, s.g⟩
def rn (s w : Nat → Nat) : Nat → St
  | 0 => ⟨s 0, s 1, s 2, s 3, s 4, s 5, s 6, s 7⟩
  | t + 1 => stp (kT t) (w t) (rn s w t)
def mw (s w : Nat → Nat) : Nat → Nat := ei (ad (s 0) (rn s w 64).a) (ad (s 1) (rn s w 64).b) (ad (s 2) (rn s w 64).c) (ad (s 3) (rn s w 64).d) (ad (s 4) (rn s w 64).e) (ad (s 5) (rn s w 64).f) (ad (s 6) (rn s w 64).g) (ad (s 7) (rn s w 64).h)
/-- The eight numbers with one more block. -/
def mx (s x : Nat → Nat) : Nat → Nat := mw s (ws (w0 x 16) 48)
set_option maxRecDepth 100000
/-- The eight bytes of a number, the highest first. -/
def e8 (x : Nat) : Nat → Nat → Nat
  | 0 => fun _ => 0
  | n + 1 => up (e8 x n) n (sr x (56 - 8 * n) % 256)
/-- The bytes of the eight numbers. -/
def bo (s : Nat → Nat) : Nat → Nat → Nat
  | 0 => fun _ => 0
  | n + 1 => up (up (up (up (bo s n) (4 * n) (sr (s n) 24 % 256)) (4 * n + 1) (sr (s n) 16 % 256)) (4 * n + 2) (sr (s n) 8 % 256)) (4 * n + 3) (s n % 256)
theorem rounds_in {P : Program} {c : Code} {Q : Exit → Act → World → Prop} {n : Nat} {a : Act} {w : World} (h : c.wp P (Exit.then (Code.rounds P c Q n) Q) a w) : Code.rounds P c Q (n + 1) a w := h
section
variable {ρ : Operand → Value} {o : Oper} {x y : Operand} {g : Nat} {f f' : Nat → Nat} {t : Bool} {w : World}
end
set_option maxRecDepth 100000
/-- Bytes put behind those that are there. -/
def pr8 (r : Nat → Nat) (k m : Nat) (F : Nat → Nat) : Nat → Nat := fun j => if k ≤ j ∧ j < k + m then F (j - k) else r j
/-- Bytes that can be read while block g changes. -/
structure Src (g gb o n : Nat) (f : Nat → Nat) (w : World) : Prop where
  lt : 0 < n → gb < w.heap.size
  ne : 0 < n → gb ≠ g
  at_ : ∀ i, i < n → w.cell? ⟨gb, o + i, none⟩ = some (Z8 (f i))
theorem Src.kp {g gb o n : Nat} {f : Nat → Nat} {w w' : World} (h : Src g gb o n f w) (k : Kp g w w') (i : Nat) (hi : i < n) : w'.cell? ⟨gb, o + i, none⟩ = some (Z8 (f i)) := by
  have e := k.block gb (h.lt (by omega)) (h.ne (by omega))
  rw [World.cell?_of_block (w := w) (a := ⟨gb, o + i, none⟩) e]
  exact h.at_ i hi
section
variable {ρ : Operand → Value} {o : Oper} {x y : Operand} {g off k l n c : Nat} {w : World}
end
set_option maxRecDepth 100000
def cl (r : Nat → Nat) (k : Nat) : Nat → Nat := fun j => if k ≤ j then 0 else r j
section
variable {ρ : Operand → Value} {o : Oper} {x : Operand} {g k c : Nat} {w : World}
end
/-- The digest that a hash comes to. -/
def fz (s r : Nat → Nat) (c : Nat) : Nat → Nat := if c % 64 < 56 then bo (mx s (pr8 (cl (up r (c % 64) 128) ((c % 64) + 1)) 56 8 (e8 (c64 (8 * c)) 8))) 8 else if c % 64 < 63 then bo (mx (mx s (cl (up r (c % 64) 128) ((c % 64) + 1))) (pr8 (fun _ => 0) 56 8 (e8 (c64 (8 * c)) 8))) 8 else bo (mx (mx s (up r (c % 64) 128)) (pr8 (fun _ => 0) 56 8 (e8 (c64 (8 * c)) 8))) 8
set_option maxRecDepth 100000
/-- A text of n letters. -/
def st (f : Nat → Nat) (n : Nat) : ByteArray := strOfNums ((List.range n).map fun j => (f j : Int))
section
variable {ρ : Operand → Value} {o : Oper} {x y : Operand} {g j a b : Nat} {f : Nat → Nat} {w : World}
end
set_option maxRecDepth 100000
section
variable {ρ : Operand → Value} {o : Oper} {x y : Operand} {j a b n : Nat} {f : Nat → Nat} {w : World}
end
set_option maxRecDepth 100000
section
variable {ρ : Operand → Value} {o : Oper} {x y : Operand} {g off m c j k n : Nat} {f : Nat → Nat} {w : World}
end
/-- A word's bytes, one by one. -/
def iw (v : Nat → Nat) (t : Nat) (y : Nat → Nat) : Nat → Nat → Nat
  | 0 => v
  | i + 1 => up (iw v t y i) t (ou (sl (iw v t y i t) 8) (c32 (y i)))
/-- The words of a block, as the document makes them. -/
def dw (P : Nat → Nat) (ap : Nat) : Nat → Nat → Nat
  | 0 => fun _ => 0
  | k + 1 => if k < 16 then iw (dw P ap k) k (fun i => P ((ap + (4 * k)) + i)) 4 else up (dw P ap k) k (ad (ad (ad (sB' (dw P ap k (k - 2))) (dw P ap k (k - 7))) (sA (dw P ap k (k - 15)))) (dw P ap k (k - 16)))
def xp (K W : Nat) (x : Nat → Nat) : Nat := ad (ad (ad (ad (x 7) (gB (x 4))) (xo (an (x 4) (x 5)) (an (nt (x 4)) (x 6)))) K) W
def xq (x : Nat → Nat) : Nat := ad (gA (x 0)) (xo (xo (an (x 0) (x 1)) (an (x 0) (x 2))) (an (x 1) (x 2)))
def xs (h K W : Nat → Nat) : Nat → Nat → Nat
  | 0 => h
  | k + 1 => ei (ad (xp (K k) (W k) (xs h K W k)) (xq (xs h K W k))) (xs h K W k 0) (xs h K W k 1) (xs h K W k 2) (ad (xs h K W k 3) (xp (K k) (W k) (xs h K W k))) (xs h K W k 4) (xs h K W k 5) (xs h K W k 6)
def hv (h x : Nat → Nat) : Nat → Nat → Nat
  | 0 => h
  | k + 1 => up (hv h x k) k (ad (hv h x k k) (x k))
/-- The eight numbers behind a block, as the document has it. -/
def db (h K P : Nat → Nat) (ap : Nat) : Nat → Nat := hv h (xs h K (dw P ap 64) 64) 8
set_option maxRecDepth 100000
section
variable {w w1 w2 : World} {B n : Nat} {l : List (Nat × List Value)} {vv : Value} {P P' : Nat → Nat}
end
section
variable {ρ : Operand → Value} {o : Oper} {x y : Operand} {a : Nat} {w w2 : World} {vv sv v' : Value}
end
/-- A number's bytes, the highest first. -/
def b8 (x : Nat) (j : Nat) : Nat := sr x (56 - 8 * j) % 256
set_option maxRecDepth 100000
section
variable {ρ : Operand → Value} {o : Oper} {x y : Operand} {a b : Nat} {w : World}
end
/-- Bytes at an address. -/
structure Ra (a : Addr) (n : Nat) (f : Nat → Nat) (w : World) : Prop where
  lt : 0 < n → a.block < w.heap.size
  at_ : ∀ j, j < n → w.cell? (a.add j) = some (Z8 (f j))
theorem add_block (a : Addr) (j : Nat) : (a.add j).block = a.block := by unfold Addr.add; split <;> rfl
theorem Ra.below {a : Addr} {n : Nat} {f : Nat → Nat} {w w' : World} (h : Ra a n f w) (hb : Below w.heap.size w w') : Ra a n f w' :=
  ⟨fun hn => Nat.lt_of_lt_of_le (h.lt hn) hb.size, fun j hj => by rw [hb.cell (p := a.add j) (by rw [add_block]; exact h.lt (by omega))]; exact h.at_ j hj⟩
/-- The message with its ending, as the document has it. -/
def zc (n : Nat) : Nat := (120 - (n + 1) % 64) % 64
def pn (n : Nat) : Nat := n + 1 + zc n + 8
def nb (n : Nat) : Nat := pn n / 64
def pz (f : Nat → Nat) (n : Nat) : Nat → Nat := fun j => if j < n then f j else if j = n then 128 else 0
def pd (f : Nat → Nat) (n : Nat) : Nat → Nat := ct (pz f n) (n + 1 + zc n) (b8 (c64 (8 * c64 n)))
def hd (P : Nat → Nat) : Nat → Nat → Nat
  | 0 => fT
  | k + 1 => db (hd P k) kT P (64 * k)
def ob (h : Nat → Nat) : Nat → Nat → Nat
  | 0 => fun _ => 0
  | i + 1 => up (ob h i) i (sr (h (i / 4)) (24 - (8 * (i % 4))) % 256)
/-- The digest of n bytes, as the document has it. -/
def ds (f : Nat → Nat) (n : Nat) : Nat → Nat := ob (hd (pd f n) (nb n)) 32
set_option maxRecDepth 100000
theorem _root_.Go.Proofs.Ytidicdlfjdlpnaa.Rg.Mm.rs {w : World} {l : List (Nat × List Value)} {f : Nat → Nat} {g m n : Nat} (h : Mm w l) (k : Nat) (hk : l[k]? = some (g, ints .u8 f m)) (hn : n ≤ m) : Rs g 0 n f w := by
  have hb := h.blk _ (List.mem_of_getElem? hk)
  exact ⟨fun _ => hb.1, fun i hi => by rw [Nat.zero_add]; exact (hb.2 i _ (ints_get .u8 f (by omega))).1⟩
theorem Bv.start (gb o n cp : Nat) : Bv gb o n cp 0 (.slice (some ⟨gb, o, none⟩) n cp) := ⟨fun _ => rfl, fun h => ⟨some ⟨gb, o, none⟩, cp, by rw [← h]⟩⟩
set_option maxRecDepth 100000
theorem _root_.Go.Proofs.Ytidicdlfjdlpnaa.Rg.Kp.join {g : Nat} {a b c : World} (h : Kp g a b) (k : Kp g b c) : Kp g a c :=
  ⟨k.os.trans h.os, k.tape.trans h.tape, k.output.trans h.output, Nat.le_trans h.size k.size, fun i hi hg => (k.block i (Nat.lt_of_lt_of_le hi h.size) hg).trans (h.block i hi hg)⟩
theorem Src.void (g gb o : Nat) (f : Nat → Nat) (w : World) : Src g gb o 0 f w := ⟨fun h => absurd h (by decide), fun h => absurd h (by decide), fun i hi => absurd hi (by omega)⟩
theorem Bv.void (gb o cp : Nat) (p : Option Addr) (c : Nat) : Bv gb o 0 cp 0 (.slice p 0 c) := ⟨fun h => absurd h (by decide), fun _ => ⟨p, c, rfl⟩⟩
set_option maxRecDepth 100000
theorem _root_.Go.Proofs.Ytidicdlfjdlpnaa.Rg.Mm.over {u w : World} {l : List (Nat × List Value)} {g : Nat} {cs : List Value} (h0 : Mm u l) (hge : u.heap.size ≤ g) (h1 : Mm w l) (hb : Blk w g cs) (hlt : g < w.heap.size) : Mm w ((g, cs) :: l) :=
  h1.cons hb hlt (fun p hp => by have := (h0.blk p hp).1; omega)
theorem Rs.void (g o : Nat) (f : Nat → Nat) (w : World) : Rs g o 0 f w := ⟨fun h => absurd h (by decide), fun i hi => absurd hi (by omega)⟩
section
variable {ρ : Operand → Value} {o : Oper} {x y : Operand} {g : Nat} {w : World}
end
set_option maxRecDepth 100000
/-- The numbers of a list that is handed in. -/
def Cz (p : Option Addr) (zs : List Int) (w : World) : Prop := ∀ g o, p = some ⟨g, o, none⟩ → ∀ i, i < zs.length → g < w.heap.size ∧ w.cell? ⟨g, o + i, none⟩ = some (.int .i64 (zs.getD i 0))
theorem Cz.below {p : Option Addr} {zs : List Int} {w w' : World} (h : Cz p zs w) (hb : Below w.heap.size w w') : Cz p zs w' := fun g o e i hi => by
  obtain ⟨h1, h2⟩ := h g o e i hi
  exact ⟨Nat.lt_of_lt_of_le h1 hb.size, by rw [hb.cell (p := ⟨g, o + i, none⟩) h1]; exact h2⟩
section
variable {ρ : Operand → Value} {o : Oper} {x y : Operand} {g off m c j : Nat} {w : World}
end
set_option maxRecDepth 100000
/-- A part handed in: its slice, and where its bytes lie. -/
structure Pt8 where
  gb : Nat
  o : Nat
  n : Nat
  cp : Nat
  p : Option Addr
  f : Nat → Nat
/-- m parts lie in the list that pl begins. -/
def Ls (pl : Option Addr) (P : Nat → Pt8) (m : Nat) (w : World) : Prop := ∀ g o, pl = some ⟨g, o, none⟩ → ∀ i, i < m → g < w.heap.size ∧ w.cell? ⟨g, o + i, none⟩ = some (.slice (P i).p (P i).n (P i).cp) ∧ Rs (P i).gb (P i).o (P i).n (P i).f w
theorem Ls.below {pl : Option Addr} {P : Nat → Pt8} {m : Nat} {w w' : World} (h : Ls pl P m w) (hb : Below w.heap.size w w') : Ls pl P m w' := fun g o e i hi => by
  obtain ⟨h1, h2, h3⟩ := h g o e i hi
  exact ⟨Nat.lt_of_lt_of_le h1 hb.size, by rw [hb.cell h1]; exact h2, h3.below hb⟩
section
variable {ρ : Operand → Value} {o : Oper} {x y : Operand} {g off m c j : Nat} {w : World}
end
set_option maxRecDepth 100000
section
variable {ρ : Operand → Value} {o : Oper} {x y : Operand} {g off j n a b c : Nat} {w : World}
/-- Bytes, bit by bit: unlike. -/
def x8 (a b : Nat) : Nat := (a ^^^ b) % 256
end
set_option maxRecDepth 100000
/-- A block, each byte xor x. -/
def mk8 (K : Nat → Nat) (x : Nat) : Nat → Nat := fun j => x8 (K j) x
set_option maxRecDepth 100000
/-- How many bytes k parts have. -/
def tn (P : Nat → Pt8) : Nat → Nat
  | 0 => 0
  | k + 1 => tn P k + (P k).n
/-- What a list of parts wants: where it lies, and each part's slice. -/
structure Lw (pl : Option Addr) (P : Nat → Pt8) (m : Nat) : Prop where
  p2 : 0 < m → ∃ g o, pl = some ⟨g, o, none⟩
  bv : ∀ i, i < m → Bv (P i).gb (P i).o (P i).n (P i).cp 0 (.slice (P i).p (P i).n (P i).cp) ∧ (P i).n ≤ (P i).cp
  tl : ∀ i, i < m → 64 + tn P i + (P i).n < 4611686018427387904
  ml : m ≤ 1048576
theorem Ls.mk {w : World} {l : List (Nat × List Value)} {gs : Nat} {vs : List Value} {P : Nat → Pt8} {m : Nat} (h : Mm w l) (k : Nat) (hk : l[k]? = some (gs, vs)) (hv : ∀ i, i < m → vs[i]? = some (.slice (P i).p (P i).n (P i).cp)) (hr : ∀ i, i < m → Rs (P i).gb (P i).o (P i).n (P i).f w) : Ls (some ⟨gs, 0, none⟩) P m w := fun g o e i hi => by
  injection e with e
  injection e with e1 e2
  subst e1 e2
  have hb := h.blk _ (List.mem_of_getElem? hk)
  exact ⟨hb.1, by rw [Nat.zero_add]; exact (hb.2 i _ (hv i hi)).1, hr i hi⟩
theorem Ls.one {w : World} {l : List (Nat × List Value)} {gs : Nat} {q : Pt8} (h : Mm w l) (k : Nat) (hk : l[k]? = some (gs, [.slice q.p q.n q.cp])) (hr : Rs q.gb q.o q.n q.f w) : Ls (some ⟨gs, 0, none⟩) (fun _ => q) 1 w :=
  Ls.mk h k hk (fun i hi => by
    obtain rfl : i = 0 := by omega
    rfl) (fun _ _ => hr)
/-- A part that is a whole row. -/
def pw (g n : Nat) (f : Nat → Nat) : Pt8 := ⟨g, 0, n, n, some ⟨g, 0, none⟩, f⟩
theorem pw_bv (g n : Nat) (f : Nat → Nat) : Bv (pw g n f).gb (pw g n f).o (pw g n f).n (pw g n f).cp 0 (.slice (pw g n f).p (pw g n f).n (pw g n f).cp) ∧ (pw g n f).n ≤ (pw g n f).cp := ⟨Bv.start _ _ _ _, Nat.le_refl _⟩
theorem Lw.one (gs g n : Nat) (f : Nat → Nat) (hn : n ≤ 1048576) : Lw (some ⟨gs, 0, none⟩) (fun _ => pw g n f) 1 :=
  ⟨fun _ => ⟨gs, 0, rfl⟩, fun _ _ => pw_bv g n f, fun i hi => by
    obtain rfl : i = 0 := by omega
    show 64 + 0 + n < _
    omega, by decide⟩
section
variable {ρ : Operand → Value} {o : Oper} {x : Operand} {w : World}
end
set_option maxRecDepth 100000
/-- A part handed in is a slice. -/
structure Pok (q : Pt8) : Prop where
  bv : Bv q.gb q.o q.n q.cp 0 (.slice q.p q.n q.cp)
  le : q.n ≤ q.cp
abbrev Pt8.rs (q : Pt8) (w : World) : Prop := Rs q.gb q.o q.n q.f w
theorem Lw.of (gs : Nat) {q : Pt8} (h : Pok q) (hn : q.n ≤ 1048576) : Lw (some ⟨gs, 0, none⟩) (fun _ => q) 1 :=
  ⟨fun _ => ⟨gs, 0, rfl⟩, fun _ _ => ⟨h.bv, h.le⟩, fun i hi => by
    obtain rfl : i = 0 := by omega
    show 64 + 0 + q.n < _
    omega, by decide⟩
theorem Pok.at {q : Pt8} (h : Pok q) (hn : 0 < q.n) : q.p = some ⟨q.gb, q.o, none⟩ := by
  have e := h.bv.1 hn
  injection e
section
variable {ρ : Operand → Value} {o : Oper} {x y : Operand} {g off m c j a : Nat} {w : World}
end
set_option maxRecDepth 100000
/-- A part that can be read, while nothing old is changed. -/
structure Bq (q : Pt8) (w w' : World) : Prop where
  b : Below w.heap.size w w'
  r : q.rs w'
theorem Bq.grow {q : Pt8} {w w1 w2 : World} (h : Bq q w w1) (hb : Below w1.heap.size w1 w2) : Bq q w w2 := ⟨h.b.trans (hb.mono h.b.size), h.r.below hb⟩
theorem Bq.size {q : Pt8} {w w1 : World} (h : Bq q w w1) : w.heap.size ≤ w1.heap.size := h.b.size
section
variable {ρ : Operand → Value} {o : Oper} {x y z : Operand} {a c : Nat} {w : World}
end
set_option maxRecDepth 100000
theorem Zo.blk {w w1 : World} {B n g cap : Nat} {l : List (Nat × List Value)} {P : Nat → Nat} (h : Zo w B l (.slice (some ⟨g, 0, none⟩) n cap) n P w1) : B ≤ g ∧ g < w1.heap.size ∧ n ≤ cap ∧ Blk w1 g (ints .u8 P n) := by
  have hl := World.ownsRow.lt h.own g rfl
  refine ⟨hl.1, hl.2, ?_, fun j v hj => ?_⟩
  · rcases h.own.2 with ⟨h1, _⟩ | ⟨g', cap', cur, h1, _, _, h2, _⟩
    · cases h1
    · injection h1 with _ _ e
      rw [e]
      exact h2
  · have hjn : j < n := by
      have := (List.getElem?_eq_some_iff.1 hj).1
      rwa [ints_len] at this
    refine ⟨?_, World.ownsRow.frozenAt h.own j⟩
    rw [World.ownsRow.cellAt h.own j (by omega)]
    exact hj
section
variable {ρ : Operand → Value} {o : Oper} {x y : Operand} {z : Int} {w : World}
end
set_option maxRecDepth 100000
section
variable {ρ : Operand → Value} {o : Oper} {x y : Operand} {a b : Nat} {w : World}
end
set_option maxRecDepth 100000
theorem _root_.Go.Proofs.Ytidicdlfjdlpnaa.Rg.Mm.bsl {w : World} {l : List (Nat × List Value)} {g m n c : Nat} {f : Nat → Nat} (h : Mm w l) (k : Nat) (hk : l[k]? = some (g, ints .u8 f m)) (hn : n ≤ m) (hc : n ≤ c) : BSl w ((List.range n).map fun i => ((f i : Nat) : Int)) c (.slice (some ⟨g, 0, none⟩) n c) :=
  Rd.bsl ⟨(h.blk _ (List.mem_of_getElem? hk)).1, (h.rs k hk hn).at_⟩ hc
set_option maxRecDepth 100000
section
variable {ρ : Operand → Value} {o : Oper} {x y : Operand} {a b : Nat} {w : World}
end
set_option maxRecDepth 100000
def Dv (v : Value) (n : Nat) (f : Nat → Nat) (w : World) : Prop := (v = .slice none 0 0 ∧ n = 0) ∨ ∃ a cp, v = .slice (some a) n cp ∧ Ra a n f w
theorem Dv.below {v : Value} {n : Nat} {f : Nat → Nat} {w w' : World} (h : Dv v n f w) (hb : Below w.heap.size w w') : Dv v n f w' := by
  rcases h with h | ⟨a, cp, e, h⟩
  · exact .inl h
  · exact .inr ⟨a, cp, e, h.below hb⟩
set_option maxRecDepth 100000
/-- Two slices of the call's own, beside blocks l. -/
structure Z2 (w : World) (B : Nat) (l : List (Nat × List Value)) (v1 : Value) (n1 : Nat) (P1 : Nat → Nat) (v2 : Value) (n2 : Nat) (P2 : Nat → Nat) (w' : World) : Prop where
  b : Below w.heap.size w w'
  lo : w.heap.size ≤ B
  hi : B ≤ w'.heap.size
  m : Mm w' l
  lt : ∀ p ∈ l, p.1 < B
  o1 : w'.ownsRow B 5 1 v1 n1 (ints .u8 P1 n1)
  o2 : w'.ownsRow B 5 1 v2 n2 (ints .u8 P2 n2)
  ne : v1.ownBlock = none ∨ v1.ownBlock ≠ v2.ownBlock
theorem own_step {w1 w2 : World} {B n : Nat} {vv : Value} {P : Nat → Nat} (h : w1.ownsRow B 5 1 vv n (ints .u8 P n)) (hb : Below w1.heap.size w1 w2) : w2.ownsRow B 5 1 vv n (ints .u8 P n) := by
  refine ⟨h.1, ?_⟩
  rcases h.2 with ⟨h1, h2⟩ | ⟨g, cap, cur, h1, h2, h3, h4⟩
  · exact .inl ⟨h1, h2⟩
  · refine .inr ⟨g, cap, cur, h1, h2, ?_, h4⟩
    rw [hb.block g (Array.getElem?_eq_some_iff.1 h3).1]
    exact h3
theorem own_cg {w1 : World} {B n : Nat} {vv : Value} {P P' : Nat → Nat} (h : w1.ownsRow B 5 1 vv n (ints .u8 P n)) (e : ∀ j, j < n → P j = P' j) : w1.ownsRow B 5 1 vv n (ints .u8 P' n) := by
  rw [ints_congr e] at h
  exact h
theorem own_app {w1 : World} {B n : Nat} {vv : Value} {P : Nat → Nat} (h : w1.ownsRow B 5 1 vv n (ints .u8 P n)) (hB : B ≤ w1.heap.size) {a : Addr} (m c : Nat) (Q : Nat → Nat) (hr : ∀ j, j < m → w1.cell? (a.add j) = some (Z8 (Q j))) (hb : n + m ≤ 2097152) (ty : TypeId) :
    ∃ v' w2, (Builtin.append_ #[34, 34] ty #[vv, .slice (some a) m c]).run Try.prog w1 = .ok v' w2 ∧ w2.ownsRow B 5 1 v' (n + m) (ints .u8 (ct P n Q) (n + m)) ∧ w1.grownBy w2 vv.ownBlock ∧ (v'.ownBlock = vv.ownBlock ∨ v'.ownBlock = some w1.heap.size) := by
  obtain ⟨i0, hi, hz0, hz1, hz2⟩ := info_byte
  obtain ⟨v', w2, h1, h2, h3, _, h5⟩ := run_append_own_at (P := Try.prog) w1 B 34 ty 5 i0 (.int .u8 0) 1 1 Try.underlying34 hi hz0 hz1 hz2 rfl (by decide) vv n _ h a m c (ints .u8 Q m) (by rw [ints_len]; omega)
    (fun j u hj => by
      have hjm : j < m := by
        have := (List.getElem?_eq_some_iff.1 hj).1
        rwa [ints_len] at this
      rw [ints_get _ _ hjm] at hj
      rw [hr j hjm]
      exact hj) (List.all_eq_true.1 (ints_all _ _ _)) (by unfold maxLen; omega) (by omega) hB
  rw [ints_cat] at h2
  exact ⟨v', w2, h1, h2, h3, h5⟩
section
variable {w w1 w2 : World} {B n1 n2 : Nat} {l : List (Nat × List Value)} {v1 v2 : Value} {P1 P2 P' : Nat → Nat}
theorem Z2.size (h : Z2 w B l v1 n1 P1 v2 n2 P2 w1) : w.heap.size ≤ w1.heap.size := h.b.size
theorem Z2.step (h : Z2 w B l v1 n1 P1 v2 n2 P2 w1) (hb : Below w1.heap.size w1 w2) : Z2 w B l v1 n1 P1 v2 n2 P2 w2 :=
  ⟨h.b.trans (hb.mono h.b.size), h.lo, Nat.le_trans h.hi hb.size, h.m.below hb, h.lt, own_step h.o1 hb, own_step h.o2 hb, h.ne⟩
theorem Z2.nil (hm : Mm w1 l) (hb : Below w.heap.size w w1) (P1 P2 : Nat → Nat) : Z2 w w1.heap.size l (.slice none 0 0) 0 P1 (.slice none 0 0) 0 P2 w1 :=
  ⟨hb, hb.size, Nat.le_refl _, hm, fun p hp => (hm.blk p hp).1, World.ownsRow_nil _ _ _ _, World.ownsRow_nil _ _ _ _, .inl rfl⟩
end
/-- A slice of the call's own, apart from the blocks L. -/
structure Ow (w : World) (L : List Nat) (vv : Value) (n : Nat) (P : Nat → Nat) (w' : World) : Prop where
  b : Below w.heap.size w w'
  own : w'.ownsRow w.heap.size 5 1 vv n (ints .u8 P n)
  ne : ∀ g ∈ L, some g ≠ vv.ownBlock
section
variable {w w1 w2 : World} {B n n2 : Nat} {L : List Nat} {l : List (Nat × List Value)} {vv v2 : Value} {P P' P2 : Nat → Nat}
theorem Ow.size (h : Ow w L vv n P w1) : w.heap.size ≤ w1.heap.size := h.b.size
theorem Ow.step (h : Ow w L vv n P w1) (hb : Below w1.heap.size w1 w2) : Ow w L vv n P w2 := ⟨h.b.trans (hb.mono h.b.size), own_step h.own hb, h.ne⟩
theorem Ow.cg (h : Ow w L vv n P w1) (e : ∀ j, j < n → P j = P' j) : Ow w L vv n P' w1 := ⟨h.b, own_cg h.own e, h.ne⟩
theorem Ow.alloc (h : Ow w L vv n P w1) (o : Obj) : Ow w (w1.heap.size :: L) vv n P (w1.alloc o) :=
  ⟨h.b.trans (((Below.refl _ _).alloc (Nat.le_refl _) _).mono h.b.size), own_step h.own ((Below.refl _ _).alloc (Nat.le_refl _) _), fun g hg e => by
    rcases List.mem_cons.1 hg with rfl | hg
    · have := (World.ownsRow.lt h.own _ e.symm).2
      omega
    · exact h.ne g hg e⟩
theorem Ow.put (h : Ow w L vv n P w1) {g off : Nat} {vs : List Value} (hg : g ∈ L) (ho : w.heap.size ≤ g) : Ow w L vv n P (w1.setCells g off vs) := by
  refine ⟨below_setCells _ ho _ _ _ h.b, ⟨h.own.1, ?_⟩, h.ne⟩
  rcases h.own.2 with h1 | ⟨k, cap, cur, h1, h2, h3, h4⟩
  · exact .inl h1
  · refine .inr ⟨k, cap, cur, h1, h2, ?_, h4⟩
    have hk : k ≠ g := fun e => h.ne g hg (by rw [h1, ← e]; rfl)
    rw [heap_setCells0 g k hk]
    exact h3
theorem Ow.app (h : Ow w L vv n P w1) (hm : Mm w1 l) (hl : l.map Prod.fst = L) {a : Addr} (m c : Nat) (Q : Nat → Nat) (hr : ∀ j, j < m → w1.cell? (a.add j) = some (Z8 (Q j))) (hb : n + m ≤ 2097152) (ty : TypeId) :
    ∃ v' w2, (Builtin.append_ #[34, 34] ty #[vv, .slice (some a) m c]).run Try.prog w1 = .ok v' w2 ∧ Ow w L v' (n + m) (ct P n Q) w2 ∧ Mm w2 l := by
  obtain ⟨v', w2, h1, h2, h3, h5⟩ := own_app h.own h.b.size m c Q hr hb ty
  have hb2 : Below w.heap.size w1 w2 := (Below.refl _ _).grown h3 h.b.size (fun k hk => (World.ownsRow.lt h.own k hk).1)
  have hne : ∀ p ∈ l, some p.1 ≠ vv.ownBlock := fun p hp => h.ne p.1 (by rw [← hl]; exact List.mem_map_of_mem hp)
  refine ⟨v', w2, h1, ⟨h.b.trans hb2, h2, fun g hg e => ?_⟩, ⟨fun p hp => ?_, hm.nd⟩⟩
  · rcases h5 with e5 | e5
    · exact h.ne g hg (e.trans e5)
    · rw [e5] at e
      rw [← hl] at hg
      obtain ⟨p, hp, e6⟩ := List.mem_map.1 hg
      have := (hm.blk p hp).1
      injection e with e
      omega
  · have hlt := (hm.blk p hp).1
    have hblk := h3.block p.1 hlt (hne p hp)
    refine ⟨Nat.lt_of_lt_of_le hlt hb2.size, fun j v hj => ?_⟩
    have := (hm.blk p hp).2 j v hj
    rw [World.cell?_of_block (a := ⟨p.1, j, none⟩) hblk, World.frozen?_of_block (a := ⟨p.1, j, none⟩) hblk]
    exact this
end
/-- A key's block, as the document fills it. -/
def kz (f : Nat → Nat) (n : Nat) : Nat → Nat := fun j => if j < n then f j else 0
set_option maxRecDepth 100000
/-- A key's block, as the document has it. -/
def kd (f : Nat → Nat) (n : Nat) : Nat → Nat := if 64 < n then kz (ds f n) 32 else kz f n
set_option maxRecDepth 100000
abbrev Pt8.bs (a : Pt8) (xs : List Int) (w : World) : Prop := BSl w xs a.cp (.slice a.p a.n a.cp) ∧ a.rs w
theorem Pt8.bs.below {a : Pt8} {xs : List Int} {w w' : World} (h : a.bs xs w) (hb : Below w.heap.size w w') : a.bs xs w' := ⟨BSl.below h.1 hb, Rs.below h.2 hb⟩
section
variable {ρ : Operand → Value} {o : Oper} {x y : Operand} {t : Bool} {w : World}
end
set_option maxRecDepth 100000
theorem Ow.nil (P : Nat → Nat) (w : World) : Ow w [] (.slice none 0 0) 0 P w := ⟨Below.refl _ _, World.ownsRow_nil _ _ _ _, fun g hg => by cases hg⟩
theorem Ow.rs {w w1 : World} {L : List Nat} {n g c : Nat} {P : Nat → Nat} (h : Ow w L (.slice (some ⟨g, 0, none⟩) n c) n P w1) : Rs g 0 n P w1 := by
  refine ⟨fun _ => (World.ownsRow.lt h.own g rfl).2, fun i hi => ?_⟩
  have := World.ownsRow.cells h.own (g := g) rfl i _ (ints_get .u8 P hi)
  rw [show (⟨g, 0, none⟩ : Addr).add i = ⟨g, 0 + i, none⟩ by unfold Addr.add; split <;> simp_all] at this
  exact this
/-- The outer slice, and a part that can be read. -/
structure Oq (q : Pt8) (w : World) (vv : Value) (n : Nat) (P : Nat → Nat) (w' : World) : Prop where
  o : Ow w [] vv n P w'
  r : q.rs w'
theorem Oq.step {q : Pt8} {w w1 w2 : World} {vv : Value} {n : Nat} {P : Nat → Nat} (h : Oq q w vv n P w1) (hb : Below w1.heap.size w1 w2) : Oq q w vv n P w2 := ⟨h.o.step hb, h.r.below hb⟩
theorem Oq.size {q : Pt8} {w w1 : World} {vv : Value} {n : Nat} {P : Nat → Nat} (h : Oq q w vv n P w1) : w.heap.size ≤ w1.heap.size := h.o.b.size
section
variable {ρ : Operand → Value} {o : Oper} {x y : Operand} {a : Nat} {w : World}
end
set_option maxRecDepth 100000
def setO (j : Nat) (v : Value) : Obj → Obj
  | .cells c elem frozen => .cells (c.setIfInBounds j v) elem frozen
  | o => o
theorem heap_set {w : World} {g j : Nat} {v : Value} {o : Obj} (h : w.heap[g]? = some o) : (w.setCells g j [v]).heap[g]? = some (setO j v o) := by
  show (World.setCell w ⟨g, j, none⟩ v).heap[g]? = _
  unfold World.setCell
  show (Array.modify _ _ _)[g]? = _
  rw [Array.getElem?_modify, if_pos rfl, h]
  cases o <;> rfl
/-- Two blocks alike but in their first c cells. -/
def Sm (c : Nat) (o o' : Obj) : Prop := o' = o ∨ ∃ cur cur' t fz, o = .cells cur t fz ∧ o' = .cells cur' t fz ∧ cur'.size = cur.size ∧ ∀ j, c ≤ j → cur'[j]? = cur[j]?
theorem Sm.trans {c : Nat} {a b d : Obj} (h : Sm c a b) (k : Sm c b d) : Sm c a d := by
  rcases h with rfl | ⟨x, y, t, fz, rfl, rfl, h1, h2⟩
  · exact k
  · rcases k with rfl | ⟨x2, y2, t2, fz2, e, rfl, h3, h4⟩
    · exact .inr ⟨x, y, t, fz, rfl, rfl, h1, h2⟩
    · injection e with e1 e2 e3
      subst e1 e2 e3
      exact .inr ⟨x, y2, _, _, rfl, rfl, h3.trans h1, fun j hj => (h4 j hj).trans (h2 j hj)⟩
/-- Block g may have changed, in its first c cells alone. -/
structure Ov (c g : Nat) (w w' : World) : Prop where
  k : Kp g w w'
  lt : g < w.heap.size
  ob : ∀ o, w.heap[g]? = some o → ∃ o', w'.heap[g]? = some o' ∧ Sm c o o'
theorem Ov.refl {c g : Nat} {w : World} (h : g < w.heap.size) : Ov c g w w := ⟨Kp.refl g w, h, fun o e => ⟨o, e, .inl rfl⟩⟩
theorem Ov.size {c g : Nat} {w w' : World} (h : Ov c g w w') : w.heap.size ≤ w'.heap.size := h.k.size
theorem Ov.grow {c g : Nat} {w w1 w2 : World} (h : Ov c g w w1) (hb : Below w1.heap.size w1 w2) : Ov c g w w2 :=
  ⟨h.k.trans hb, h.lt, fun o e => by
    obtain ⟨o', e', h1⟩ := h.ob o e
    exact ⟨o', by rw [hb.block g (Nat.lt_of_lt_of_le h.lt h.k.size)]; exact e', h1⟩⟩
theorem Ov.join {c g : Nat} {w w1 w2 : World} (h : Ov c g w w1) (k : Ov c g w1 w2) : Ov c g w w2 :=
  ⟨h.k.join k.k, h.lt, fun o e => by
    obtain ⟨o', e', h1⟩ := h.ob o e
    obtain ⟨o2, e2, h2⟩ := k.ob o' e'
    exact ⟨o2, e2, h1.trans h2⟩⟩
theorem Ov.put {c g j : Nat} {v : Value} {w w1 : World} (h : Ov c g w w1) (hj : j < c) : Ov c g w (w1.setCells g j [v]) :=
  ⟨h.k.put (Or.inl rfl), h.lt, fun o e => by
    obtain ⟨o', e', h1⟩ := h.ob o e
    refine ⟨_, heap_set e', h1.trans ?_⟩
    cases o' with
    | cells cur t fz => exact .inr ⟨cur, _, t, fz, rfl, rfl, by simp, fun i hi => by rw [Array.getElem?_setIfInBounds, if_neg (by omega)]⟩
    | _ => exact .inl rfl⟩
section
variable {ρ : Operand → Value} {o : Oper} {x y : Operand} {n c : Nat} {w : World} {p : Option Addr}
end
set_option maxRecDepth 100000
/-- A slice that may lie apart: where, how long, its room, the bytes of all its room. -/
structure Ap where
  p : Option Addr
  g : Nat
  n : Nat
  c : Nat
  f : Nat → Nat
def Ap.pt (q : Ap) : Pt8 := ⟨q.g, 0, q.c, q.c, q.p, q.f⟩
structure Ap.Ok (q : Ap) : Prop where
  at_ : q.p = some ⟨q.g, 0, none⟩ ∨ (q.p = none ∧ q.n = 0 ∧ q.c = 0)
  le : q.n ≤ q.c
  mx : q.c ≤ 1048576
  by_ : ∀ j, q.f j < 256
def Ap.row (q : Ap) (f : Nat → Nat) (w : World) : Prop := q.p = none ∨ Mm w [(q.g, ints .u8 f q.c)]
theorem Ap.Ok.nil {q : Ap} (h : q.Ok) : q.pt.p = none → q.pt.cp = 0 := fun e => by
  rcases h.at_ with e2 | ⟨_, _, e2⟩
  · exact absurd (e2.symm.trans e) (by simp)
  · exact e2
theorem Ap.row.rs {q : Ap} (h : q.Ok) {w : World} (hr : q.row q.f w) : q.pt.rs w := by
  rcases hr with e | hm
  · rcases h.at_ with e2 | ⟨_, _, e2⟩
    · exact absurd (e2.symm.trans e) (by simp)
    · show Rs q.g 0 q.c q.f w
      rw [e2]
      exact Rs.void _ _ _ _
  · exact hm.rs 0 rfl (Nat.le_refl _)
theorem Ap.row.below {q : Ap} {f : Nat → Nat} {w w' : World} (h : q.row f w) (hb : Below w.heap.size w w') : q.row f w' := by
  rcases h with h | h
  · exact .inl h
  · exact .inr (h.below hb)
theorem Ap.row.bsl {q : Ap} (h : q.Ok) {w : World} (hr : q.row q.f w) : BSl w ((List.range q.c).map fun i => ((q.f i : Nat) : Int)) q.c (.slice q.p q.c q.c) := by
  rcases hr with e | hm
  · rcases h.at_ with e2 | ⟨_, _, e2⟩
    · exact absurd (e2.symm.trans e) (by simp)
    · rw [e2]
      exact .void _ rfl
  · rcases h.at_ with e2 | ⟨_, _, e2⟩
    · rw [e2]
      exact hm.bsl 0 rfl (Nat.le_refl _) (Nat.le_refl _)
    · rw [e2]
      exact .void _ rfl
/-- Slices in a list. -/
def apl (A : Nat → Ap) (m : Nat) : List Value := (List.range m).map fun i => .slice (A i).p (A i).n (A i).c
structure Al (gl : Nat) (A : Nat → Ap) (m : Nat) (w : World) : Prop where
  ls : Mm w [(gl, apl A m)]
  row : ∀ i, i < m → (A i).row (A i).f w
theorem Al.below {gl : Nat} {A : Nat → Ap} {m : Nat} {w w' : World} (h : Al gl A m w) (hb : Below w.heap.size w w') : Al gl A m w' := ⟨h.ls.below hb, fun i hi => (h.row i hi).below hb⟩
structure Aw (gl : Nat) (A : Nat → Ap) (m : Nat) : Prop where
  ok : ∀ i, i < m → (A i).Ok
  ne : ∀ i j, i < m → j < m → i ≠ j → (A i).p ≠ none → (A j).p ≠ none → (A i).g ≠ (A j).g
  nl : ∀ i, i < m → (A i).p ≠ none → (A i).g ≠ gl
  ml : m ≤ 1048576
theorem rmap_get {F : Nat → Value} {m k : Nat} (h : k < m) : ((List.range m).map F)[0 + k]? = some (F k) := by
  rw [Nat.zero_add, List.getElem?_map, List.getElem?_range h]
  rfl
/-- The copies, k of them. -/
def wl (A : Nat → Ap) (G : Nat → Nat × Nat) (k m : Nat) : List Value := (List.range m).map fun j => if j < k then .slice (some ⟨(G j).1, 0, none⟩) (A j).c ((A j).c + (G j).2) else .slice none 0 0
theorem wl_len (A : Nat → Ap) (G : Nat → Nat × Nat) (k m : Nat) : (wl A G k m).length = m := by simp [wl]
theorem wl_zero (A : Nat → Ap) (G : Nat → Nat × Nat) (m : Nat) : wl A G 0 m = List.replicate m (.slice none 0 0) := by
  apply List.ext_getElem?
  intro j
  unfold wl
  by_cases h : j < m
  · have e := rmap_get (F := fun j => if j < 0 then .slice (some ⟨(G j).1, 0, none⟩) (A j).c ((A j).c + (G j).2) else .slice none 0 0) h
    rw [Nat.zero_add] at e
    rw [e, List.getElem?_replicate, if_pos h, if_neg (Nat.not_lt_zero _)]
  · rw [List.getElem?_eq_none (by simp; omega), List.getElem?_replicate, if_neg h]
def uG (G : Nat → Nat × Nat) (k : Nat) (v : Nat × Nat) : Nat → Nat × Nat := fun j => if j = k then v else G j
theorem wl_put (A : Nat → Ap) (G : Nat → Nat × Nat) (k m g x : Nat) (h : k < m) : patch (wl A G k m) (0 + k) [.slice (some ⟨g, 0, none⟩) (A k).c ((A k).c + x)] = wl A (uG G k (g, x)) (k + 1) m := by
  apply List.ext_getElem?
  intro j
  rw [patch_get _ _ _ (by rw [wl_len]; simp; omega)]
  by_cases hj : j < m
  · have e1 : (wl A G k m)[j]? = some (if j < k then .slice (some ⟨(G j).1, 0, none⟩) (A j).c ((A j).c + (G j).2) else .slice none 0 0) := by
      have := rmap_get (F := fun j => if j < k then .slice (some ⟨(G j).1, 0, none⟩) (A j).c ((A j).c + (G j).2) else .slice none 0 0) hj
      rw [Nat.zero_add] at this
      exact this
    have e2 : (wl A (uG G k (g, x)) (k + 1) m)[j]? = some (if j < k + 1 then .slice (some ⟨(uG G k (g, x) j).1, 0, none⟩) (A j).c ((A j).c + (uG G k (g, x) j).2) else .slice none 0 0) := by
      have := rmap_get (F := fun j => if j < k + 1 then .slice (some ⟨(uG G k (g, x) j).1, 0, none⟩) (A j).c ((A j).c + (uG G k (g, x) j).2) else .slice none 0 0) hj
      rw [Nat.zero_add] at this
      exact this
    rw [e1, e2]
    unfold uG
    by_cases h1 : j = k
    · subst h1
      rw [if_pos (by simp), if_pos (by omega), if_pos rfl, show j - (0 + j) = 0 by omega]
      rfl
    · rw [if_neg (by simp; omega), if_neg h1]
      by_cases h2 : j < k
      · rw [if_pos h2, if_pos (by omega)]
      · rw [if_neg h2, if_neg (by omega)]
  · rw [if_neg (by simp; omega), List.getElem?_eq_none (by rw [wl_len]; omega), List.getElem?_eq_none (by rw [wl_len]; omega)]
structure Wq (w : World) (gw : Nat) (A : Nat → Ap) (m k : Nat) (G : Nat → Nat × Nat) (w' : World) : Prop where
  b : Below w.heap.size w w'
  lo : w.heap.size ≤ gw
  m_ : Mm w' [(gw, wl A G k m)]
  cp : ∀ j, j < k → gw < (G j).1 ∧ Mm w' [((G j).1, ints .u8 (A j).f (A j).c)]
def Wk (w : World) (gw : Nat) (A : Nat → Ap) (m k : Nat) (w' : World) : Prop := ∃ G, Wq w gw A m k G w'
section
variable {w w1 w2 : World} {gw gl m k i : Nat} {A : Nat → Ap} {G : Nat → Nat × Nat}
theorem Wq.step (h : Wq w gw A m k G w1) (hb : Below w1.heap.size w1 w2) : Wq w gw A m k G w2 := ⟨h.b.trans (hb.mono h.b.size), h.lo, h.m_.below hb, fun j hj => ⟨(h.cp j hj).1, (h.cp j hj).2.below hb⟩⟩
theorem Wq.size (h : Wq w gw A m k G w1) : w.heap.size ≤ w1.heap.size := h.b.size
theorem Wk.step (h : Wk w gw A m k w1) (hb : Below w1.heap.size w1 w2) : Wk w gw A m k w2 := let ⟨G, h⟩ := h; ⟨G, h.step hb⟩
theorem Wk.b (h : Wk w gw A m k w1) : Below w.heap.size w w1 := let ⟨_, h⟩ := h; h.b
theorem Wk.size (h : Wk w gw A m k w1) : w.heap.size ≤ w1.heap.size := h.b.size
theorem Wk.lt (h : Wk w gw A m k w1) : gw < w1.heap.size := let ⟨_, h⟩ := h; (h.m_.blk _ (List.mem_singleton.2 rfl)).1
theorem Wk.start (hb : Below w.heap.size w w1) (A : Nat → Ap) (m : Nat) (t : TypeId) : Wk w w1.heap.size A m 0 (w1.alloc (.cells (List.replicate m (.slice none 0 0) : List Value).toArray t)) :=
  ⟨fun _ => (0, 0), hb.alloc hb.size _, hb.size, by rw [wl_zero]; exact (Mm.nil w1).alloc _ t rfl, fun j hj => absurd hj (Nat.not_lt_zero _)⟩
theorem _root_.Go.Proofs.Ytidicdlfjdlpnaa.Rg.Mm.kp {w w' : World} {g k : Nat} {cs : List Value} (h : Mm w [(g, cs)]) (hk : Kp k w w') (hne : g ≠ k) : Mm w' [(g, cs)] := by
  refine ⟨fun p hp => ?_, List.pairwise_singleton _ _⟩
  rw [List.mem_singleton.1 hp]
  have hb := h.blk _ (List.mem_singleton.2 rfl)
  have hblk := hk.block g hb.1 hne
  refine ⟨Nat.lt_of_lt_of_le hb.1 hk.size, fun j v hj => ?_⟩
  rw [World.cell?_of_block (a := ⟨g, j, none⟩) hblk, World.frozen?_of_block (a := ⟨g, j, none⟩) hblk]
  exact hb.2 j v hj
theorem _root_.Go.Proofs.Ytidicdlfjdlpnaa.Rg.Mm.other {w : World} {g g' off : Nat} {cs vs : List Value} (h : Mm w [(g, cs)]) (hg : g ≠ g') : Mm (w.setCells g' off vs) [(g, cs)] := h.kp ((Kp.refl g' w).put (Or.inl rfl)) hg
theorem Wq.store (h : Wq w gw A m k G w1) (hk : k < m) {g x : Nat} (hg : gw < g) (hm : Mm w1 [(g, ints .u8 (A k).f (A k).c)]) : Wk w gw A m (k + 1) (w1.setCells gw (0 + k) [.slice (some ⟨g, 0, none⟩) (A k).c ((A k).c + x)]) := by
  refine ⟨uG G k (g, x), below_setCells _ h.lo _ _ _ h.b, h.lo, ?_, fun j hj => ?_⟩
  · have := h.m_.put 0 (off := 0 + k) (vs := [.slice (some ⟨g, 0, none⟩) (A k).c ((A k).c + x)]) rfl (by rw [wl_len]; simp; omega)
    rw [wl_put A G k m g x hk] at this
    exact this
  · unfold uG
    by_cases e : j = k
    · subst e
      rw [if_pos rfl]
      exact ⟨hg, hm.other (by omega)⟩
    · rw [if_neg e]
      have hc := h.cp j (by omega)
      exact ⟨hc.1, hc.2.other (by omega)⟩
/-- One of the slices is written over. -/
structure Wo (w : World) (gw : Nat) (A : Nat → Ap) (m i : Nat) (G : Nat → Nat × Nat) (w' : World) : Prop where
  lo : w.heap.size ≤ gw
  sz : w.heap.size ≤ w'.heap.size
  m_ : Mm w' [(gw, wl A G m m)]
  cp : ∀ j, j < m → gw < (G j).1 ∧ Mm w' [((G j).1, ints .u8 (A j).f (A j).c)]
  ov : ((A i).p = none ∧ Below w.heap.size w w') ∨ ((A i).p ≠ none ∧ Ov (A i).c (A i).g w w' ∧ Mm w' [((A i).g, ints .u8 (mk8 (A i).f 90) (A i).c)])
theorem Wo.step (h : Wo w gw A m i G w1) (hb : Below w1.heap.size w1 w2) : Wo w gw A m i G w2 :=
  ⟨h.lo, Nat.le_trans h.sz hb.size, h.m_.below hb, fun j hj => ⟨(h.cp j hj).1, (h.cp j hj).2.below hb⟩, by
    rcases h.ov with ⟨e, h1⟩ | ⟨e, h1, h2⟩
    · exact .inl ⟨e, h1.trans (hb.mono h.sz)⟩
    · exact .inr ⟨e, h1.grow hb, h2.below hb⟩⟩
theorem Wo.size (h : Wo w gw A m i G w1) : w.heap.size ≤ w1.heap.size := h.sz
theorem Wq.nil (h : Wq w gw A m m G w1) (hp : (A i).p = none) (hb : Below w1.heap.size w1 w2) : Wo w gw A m i G w2 :=
  let h' := h.step hb
  ⟨h'.lo, h'.b.size, h'.m_, h'.cp, .inl ⟨hp, h'.b⟩⟩
theorem Wq.over (h : Wq w gw A m m G w1) (hp : (A i).p ≠ none) (hlt : (A i).g < w.heap.size) (hm : Mm w2 [((A i).g, ints .u8 (mk8 (A i).f 90) (A i).c)]) (ho : Ov (A i).c (A i).g w1 w2) : Wo w gw A m i G w2 := by
  have hlo := h.lo
  refine ⟨h.lo, Nat.le_trans h.b.size ho.size, h.m_.kp ho.k (by omega), fun j hj => ⟨(h.cp j hj).1, (h.cp j hj).2.kp ho.k (by have := (h.cp j hj).1; omega)⟩, .inr ⟨hp, ((Ov.refl hlt).grow h.b).join ho, hm⟩⟩
/-- The list, and the other slices, meanwhile. -/
theorem Wo.ls (h : Wo w gw A m i G w1) (hA : Al gl A m w) (hW : Aw gl A m) (hi : i < m) : Mm w1 [(gl, apl A m)] := by
  rcases h.ov with ⟨_, h1⟩ | ⟨e, h1, _⟩
  · exact hA.ls.below h1
  · exact hA.ls.kp h1.k (Ne.symm (hW.nl i hi e))
theorem Wo.row (h : Wo w gw A m i G w1) (hA : Al gl A m w) (hW : Aw gl A m) (hi : i < m) (hk : k < m) (hne : k ≠ i) : (A k).row (A k).f w1 := by
  rcases h.ov with ⟨_, h1⟩ | ⟨e, h1, _⟩
  · exact (hA.row k hk).below h1
  · rcases hA.row k hk with e2 | hm
    · exact .inl e2
    · by_cases e3 : (A k).p = none
      · exact .inl e3
      · exact .inr (hm.kp h1.k (hW.ne k i hk hi hne e3 e))
/-- Written over twice, nothing has changed. -/
theorem Wo.nil (h : Wo w gw A m i G w1) (hp : (A i).p = none) (hb : Below w1.heap.size w1 w2) : Below w.heap.size w w2 := by
  rcases h.ov with ⟨_, h1⟩ | ⟨e, _⟩
  · exact h1.trans (hb.mono h.sz)
  · exact absurd hp e
end
section
variable {ρ : Operand → Value} {o : Oper} {x y : Operand} {g off n c m : Nat} {w : World} {p : Option Addr}
end
set_option maxRecDepth 100000
theorem same_bb {xs : List Int} {c c' : Nat} {v v' : Value} {w : World} (h : BSl w xs c v) (h' : BSl w xs c' v') : Calls Try.prog 29 #[v, v'] w fun e w' => e = .returned (.bool true) ∧ Below w.heap.size w w' := Calls.mono (same_any w h h') (fun e w' hh => ⟨hh.1, by rw [hh.2]; exact Below.refl _ _⟩)
set_option maxRecDepth 100000
/-- What holds of a world, and stays, while nothing old is changed. -/
structure Bk (w : World) (F : World → Prop) (w' : World) : Prop where
  b : Below w.heap.size w w'
  st : ∀ {x y : World}, Below x.heap.size x y → F x → F y
  r : F w'
theorem Bk.step {w w1 w2 : World} {F : World → Prop} (h : Bk w F w1) (hb : Below w1.heap.size w1 w2) : Bk w F w2 := ⟨h.b.trans (hb.mono h.b.size), h.st, h.st hb h.r⟩
theorem Bk.size {w w1 : World} {F : World → Prop} (h : Bk w F w1) : w.heap.size ≤ w1.heap.size := h.b.size
theorem Bk.of {w w1 w2 : World} {xs : List Int} {c : Nat} {v : Value} (h : Below w.heap.size w w1) (hb : Below w1.heap.size w1 w2) (h2 : BSl w2 xs c v) : Bk w (fun u => BSl u xs c v) w2 := ⟨h.trans (hb.mono h.size), fun hb h => BSl.below h hb, h2⟩
theorem Bk.and {w w1 w2 : World} {F : World → Prop} {xs : List Int} {c : Nat} {v : Value} (h : Bk w F w1) (hb : Below w1.heap.size w1 w2) (h2 : BSl w2 xs c v) : Bk w (fun u => F u ∧ BSl u xs c v) w2 := ⟨h.b.trans (hb.mono h.b.size), fun hb h' => ⟨h.st hb h'.1, BSl.below h'.2 hb⟩, h.st hb h.r, h2⟩
def ap (g n c : Nat) (f : Nat → Nat) : Ap := ⟨some ⟨g, 0, none⟩, g, n, c, f⟩
section
variable {ρ : Operand → Value} {o : Oper} {x0 x1 x2 x3 x4 : Operand} {w : World}
end
set_option maxRecDepth 100000
/-- A call of a hash: its kind, its bytes. -/
structure Ac where
  kd : Nat
  q : Pt8
  xs : List Int
/-- Acts in a list. -/
def Lc (pl : Option Addr) (X : Nat → Ac) (m : Nat) (w : World) : Prop := ∀ g o, pl = some ⟨g, o, none⟩ → ∀ i, i < m → g < w.heap.size ∧ w.cell? ⟨g, o + 2 * i, none⟩ = some (Z8 (X i).kd) ∧ w.cell? ⟨g, o + 2 * i + 1, none⟩ = some (.slice (X i).q.p (X i).q.n (X i).q.cp) ∧ (X i).q.bs (X i).xs w
theorem Lc.below {pl : Option Addr} {X : Nat → Ac} {m : Nat} {w w' : World} (h : Lc pl X m w) (hb : Below w.heap.size w w') : Lc pl X m w' := fun g o e i hi => by
  obtain ⟨h1, h2, h3, h4⟩ := h g o e i hi
  exact ⟨Nat.lt_of_lt_of_le h1 hb.size, by rw [hb.cell h1]; exact h2, by rw [hb.cell h1]; exact h3, h4.below hb⟩
section
variable {ρ : Operand → Value} {o : Oper} {x y : Operand} {g off m c j a b : Nat} {w : World} {p : Option Addr}
end
/-- What the object of a slice's own block is. -/
def Eo (n : Nat) (f : Nat → Nat) (o : Obj) (x : Nat) : Prop := ∃ cur, o = .cells cur 5 (0, 0) ∧ n + x ≤ maxLen ∧ cur.size = (n + x) * 1 ∧ cur.toList.take (n * 1) = ints .u8 f n
theorem Eo.own {n g x B : Nat} {f : Nat → Nat} {w : World} (h : ∃ o, w.heap[g]? = some o ∧ Eo n f o x) (hB : B ≤ g) : w.ownsRow B 5 1 (.slice (some ⟨g, 0, none⟩) n (n + x)) n (ints .u8 f n) := by
  obtain ⟨o, h1, cur, rfl, h2, h3, h4⟩ := h
  exact ⟨by rw [ints_len, Nat.mul_one], .inr ⟨g, n + x, cur, rfl, hB, h1, Nat.le_add_right _ _, h2, h3, h4⟩⟩
theorem own_appQ {w1 : World} {B n : Nat} {vv : Value} {P : Nat → Nat} (h : w1.ownsRow B 5 1 vv n (ints .u8 P n)) (hB : B ≤ w1.heap.size) {q : Pt8} (hq : Pok q) (hN : q.p = none → q.cp = 0) (hR : q.rs w1) (hb : n + q.n ≤ 2097152) (ty : TypeId) :
    ∃ v' w2, (Builtin.append_ #[34, 34] ty #[vv, .slice q.p q.n q.cp]).run Try.prog w1 = .ok v' w2 ∧ w2.ownsRow B 5 1 v' (n + q.n) (ints .u8 (ct P n q.f) (n + q.n)) ∧ w1.grownBy w2 vv.ownBlock ∧ (v'.ownBlock = vv.ownBlock ∨ v'.ownBlock = some w1.heap.size) := by
  obtain ⟨gb, o, m, cp, p, f⟩ := q
  obtain ⟨hB', hle⟩ := hq
  simp only [Pt8.rs] at hB' hN hR hb hle ⊢
  cases p with
  | none =>
    have hn : m = 0 := by
      rcases Nat.eq_zero_or_pos m with e | e
      · exact e
      · have := hB'.1 e
        simp at this
    have hc := hN rfl
    subst hn hc
    obtain ⟨i0, hi, _, _, _⟩ := info_byte
    exact ⟨vv, w1, run_append_owned_none (P := Try.prog) (w := w1) B 34 ty 5 i0 1 Try.underlying34 hi vv n _ h, own_cg h (fun j hj => by unfold ct; rw [if_pos (show j < n from hj)]), ⟨rfl, rfl, rfl, Nat.le_refl _, fun _ _ _ => rfl⟩, .inl rfl⟩
  | some a =>
    refine own_app h hB (a := a) m cp f (fun j hj => ?_) hb ty
    have e := hB'.1 (by omega)
    injection e with e1
    injection e1 with e1
    rw [e1]
    exact hR.add j hj
/-- The part that a slice of one's own is. -/
theorem own_part {w1 : World} {B n : Nat} {vv : Value} {P : Nat → Nat} (h : w1.ownsRow B 5 1 vv n (ints .u8 P n)) : ∃ q : Pt8, vv = .slice q.p q.n q.cp ∧ Pok q ∧ (q.p = none → q.cp = 0) ∧ q.n = n ∧ q.f = P ∧ q.rs w1 ∧ (0 < q.n → vv.ownBlock = some q.gb) := by
  rcases h.2 with ⟨h1, h2⟩ | ⟨g, cap, cur, h1, h2, h3, h4, _⟩
  · subst h2
    exact ⟨⟨0, 0, 0, 0, none, P⟩, h1, ⟨Bv.void _ _ _ _ _, Nat.le_refl _⟩, fun _ => rfl, rfl, rfl, Rs.void _ _ _ _, fun h => absurd h (Nat.lt_irrefl _)⟩
  · subst h1
    refine ⟨⟨g, 0, n, cap, some ⟨g, 0, none⟩, P⟩, rfl, ⟨Bv.start _ _ _ _, h4⟩, (fun e => by cases e), rfl, rfl, ⟨fun _ => (World.ownsRow.lt h g rfl).2, fun i hi => ?_⟩, fun _ => rfl⟩
    have := World.ownsRow.cells h (g := g) rfl i _ (ints_get .u8 P hi)
    rw [show (⟨g, 0, none⟩ : Addr).add i = ⟨g, 0 + i, none⟩ by unfold Addr.add; split <;> simp_all] at this
    exact this
/-- Two parts that can be read, apart from blocks L that may change. -/
structure Sr (w : World) (L : List Nat) (q0 q1 : Pt8) (w' : World) : Prop where
  b : Below w.heap.size w w'
  r0 : q0.rs w'
  r1 : q1.rs w'
  a0 : 0 < q0.n → q0.gb ∉ L
  a1 : 0 < q1.n → q1.gb ∉ L
section
variable {w w1 w2 : World} {L : List Nat} {q0 q1 q : Pt8} {g : Nat}
theorem Rs.kpx {g gb o n : Nat} {f : Nat → Nat} {w w' : World} (h : Rs gb o n f w) (k : Kp g w w') (ne : 0 < n → gb ≠ g) : Rs gb o n f w' := by
  refine ⟨fun hn => Nat.lt_of_lt_of_le (h.lt hn) k.size, fun i hi => ?_⟩
  have e := k.block gb (h.lt (by omega)) (ne (by omega))
  rw [World.cell?_of_block (w := w) (a := ⟨gb, o + i, none⟩) e]
  exact h.at_ i hi
theorem Sr.size (h : Sr w L q0 q1 w1) : w.heap.size ≤ w1.heap.size := h.b.size
theorem Sr.step (h : Sr w L q0 q1 w1) (hb : Below w1.heap.size w1 w2) : Sr w L q0 q1 w2 := ⟨h.b.trans (hb.mono h.b.size), h.r0.below hb, h.r1.below hb, h.a0, h.a1⟩
theorem Sr.kp (h : Sr w L q0 q1 w1) (hk : Kp g w1 w2) (hg : g ∈ L) (ho : w.heap.size ≤ g) : Sr w L q0 q1 w2 :=
  ⟨Below.kp h.b hk ho h.b.size, h.r0.kpx hk (fun hn e => h.a0 hn (e ▸ hg)), h.r1.kpx hk (fun hn e => h.a1 hn (e ▸ hg)), h.a0, h.a1⟩
theorem Sr.put {off : Nat} {vs : List Value} (h : Sr w L q0 q1 w1) (hg : g ∈ L) (ho : w.heap.size ≤ g) : Sr w L q0 q1 (w1.setCells g off vs) := h.kp ((Kp.refl g w1).put (Or.inl rfl)) hg ho
theorem Sr.more (h : Sr w L q0 q1 w1) (h0 : 0 < q0.n → q0.gb < g) (h1 : 0 < q1.n → q1.gb < g) : Sr w (g :: L) q0 q1 w1 :=
  ⟨h.b, h.r0, h.r1, fun hn hm => by
    rcases List.mem_cons.1 hm with e | e
    · have := h0 hn; omega
    · exact h.a0 hn e, fun hn hm => by
    rcases List.mem_cons.1 hm with e | e
    · have := h1 hn; omega
    · exact h.a1 hn e⟩
end
end Wi
end Rg
end Go.Proofs.Ytidicdlfjdlpnaa
end
section
namespace Go.Proofs.Ytidicdlfjdlpnaa
open Go.RowKit
namespace Rg
namespace Wi
set_option maxRecDepth 100000
section
variable {P : Program} {full : Array Oper} {Q : Exit → Act → World → Prop} {a : Act} {w : World}
theorem sq_start {id : Nat} {l : List Nat} (h : List.range full.size = l) (hw : wpOps P full Q l a w) : (Code.region id full false).wp P Q a w := wp_region (by rw [h]; exact hw)
theorem sq_startW {id : Nat} {l : List Nat} (h : List.range full.size = l) (hw : ∀ u, u = w → wpOps P full Q l a u) : (Code.region id full false).wp P Q a w := sq_start h (hw w rfl)
theorem rest_gone1 {i d : Nat} {r : List Nat} {o : Oper} (ho : full[i]? = some o) (hd : o.dst = some d) (hw : Region.wanted o (yielded full a.tmps) = false) (h : wpOps P full Q r (a.put (some d) undef) w) : wpOps P full Q (i :: r) a w := rest_gone ho hw (by rw [hd]; exact h)
end
/-- A value that lies in one cell. -/
def st1 : Value → Bool
  | .int _ _ => true
  | .bool _ => true
  | .slice _ _ _ => true
  | .string _ => true
  | .pointer _ => true
  | _ => false
/-- A slice without its first k, and its first k. -/
def sdrop : Value → Nat → Value
  | .slice p m c, k => .slice (if c = k then p else p.map (·.add k)) (m - k) (c - k)
  | v, _ => v
def stake : Value → Nat → Value
  | .slice p _ c, k => .slice p k c
  | v, _ => v
section
variable {ρ : Operand → Value} {o : Oper} {x y z : Operand} {t : TypeId} {g off : Nat} {v : Value} {w : World}
theorem ex_st1 {cs : List Value} {l : List (Nat × List Value)} (h : Mm w l) (k : Nat) (hk : l[k]? = some (g, cs)) (ho : o.op = .store t x y) (hs : ∀ w, (sizeOf t).run Try.prog w = .ok 1 w) (hx : ρ x = PT g off) (hy : ρ y = v) (h1 : st1 v = true) (hc : off < cs.length) :
    (execOp ρ o).run Try.prog w = .ok .skip (w.setCells g off [v]) := by
  have hm := List.mem_of_getElem? hk
  have e : cs[off]? = some (cs[off]'hc) := List.getElem?_eq_getElem _
  have c0 := h.cell hm e
  have f0 := h.free hm e
  clear h hm hk
  simp only [execOp, ho, hx, hy]
  cases v with
  | int k n => clear h1 hy; go_simp; simp [World.setCells]
  | bool _ => clear h1 hy; go_simp; simp [World.setCells]
  | slice _ _ _ => clear h1 hy; go_simp; simp [World.setCells]
  | string _ => clear h1 hy; go_simp; simp [World.setCells]
  | pointer _ => clear h1 hy; go_simp; simp [World.setCells]
  | _ => cases h1
theorem ex_take {p : Option Addr} {m c k : Nat} (hk : k ≤ c) (ho : o.op = .slice 34 x none (some y) none) (hx : ρ x = .slice p m c) (hy : ρ y = .int .i64 (k : Int)) :
    (execOp ρ o).run Try.prog w = .ok (.value (stake (.slice p m c) k)) w := by
  have h1 : (k : Int) ≤ c := by omega
  unfold stake
  simp only [execOp, ho, hx, hy, Option.map_some, Option.map_none]
  clear ho hx hy
  cases p <;> go_simp
end
/-! A slice of which the first i are gone. -/
theorem sdrop_slice (p : Option Addr) (m c k : Nat) : sdrop (.slice p m c) k = .slice (if c = k then p else p.map (·.add k)) (m - k) (c - k) := rfl
theorem Bv.slice {gb o n cp i : Nat} {v : Value} (h : Bv gb o n cp i v) (hi : i ≤ n) : ∃ p c, v = .slice p (n - i) c ∧ n - i ≤ c + (n - cp) := by
  rcases Nat.lt_or_eq_of_le hi with e | e
  · exact ⟨_, _, h.1 e, by omega⟩
  · obtain ⟨p, c, h2⟩ := h.2 e
    exact ⟨p, c, by rw [h2, e, Nat.sub_self], by omega⟩
theorem Bv.drop {gb o n cp i k : Nat} {v : Value} (h : Bv gb o n cp i v) (hle : n ≤ cp) (_hk : i + k ≤ n) : Bv gb o n cp (i + k) (sdrop v k) := by
  refine ⟨fun hlt => ?_, fun he => ?_⟩
  · rw [h.1 (by omega)]
    rw [sdrop_slice]
    rw [if_neg (by omega), Option.map_some, show (⟨gb, o + i, none⟩ : Addr).add k = ⟨gb, o + (i + k), none⟩ by unfold Addr.add; split <;> simp_all [Nat.add_assoc], Nat.sub_sub, Nat.sub_sub]
  · rcases Nat.lt_or_eq_of_le (show i ≤ n by omega) with e | e
    · rw [h.1 e]
      rw [sdrop_slice]
      exact ⟨_, _, by rw [show n - i - k = 0 by omega]⟩
    · obtain ⟨p, c, h2⟩ := h.2 e
      rw [h2]
      rw [sdrop_slice]
      exact ⟨_, _, by rw [Nat.zero_sub]⟩
end Wi
end Rg
end Go.Proofs.Ytidicdlfjdlpnaa
end
section
namespace Go.Proofs.Ytidicdlfjdlpnaa
open Go.RowKit
namespace Rg
namespace Wi
set_option maxRecDepth 100000
/-- What a call may have changed: the blocks L, and what is new. -/
structure Chg (L : List Nat) (w w' : World) : Prop where
  os : w'.os = w.os
  tape : w'.tape = w.tape
  output : w'.output = w.output
  size : w.heap.size ≤ w'.heap.size
  block : ∀ k, k < w.heap.size → k ∉ L → w'.heap[k]? = w.heap[k]?
theorem Chg.refl (L : List Nat) (w : World) : Chg L w w := ⟨rfl, rfl, rfl, Nat.le_refl _, fun _ _ _ => rfl⟩
theorem Chg.trans {L M : List Nat} {a c d : World} (h : Chg L a c) (k : Chg M c d) (hs : ∀ x ∈ M, x ∈ L ∨ a.heap.size ≤ x) : Chg L a d :=
  ⟨k.os.trans h.os, k.tape.trans h.tape, k.output.trans h.output, Nat.le_trans h.size k.size, fun i hi hn => (k.block i (Nat.lt_of_lt_of_le hi h.size) (fun hm => (hs i hm).elim hn (fun e => absurd hi (Nat.not_lt.2 e)))).trans (h.block i hi hn)⟩
theorem Chg.mono {L M : List Nat} {a c : World} (h : Chg L a c) (hs : ∀ x ∈ L, x ∈ M ∨ a.heap.size ≤ x) : Chg M a c := (Chg.refl M a).trans h hs
theorem Chg.below {L : List Nat} {a c d : World} (h : Chg L a c) (k : Below c.heap.size c d) : Chg L a d :=
  ⟨k.os.trans h.os, k.tape.trans h.tape, k.output.trans h.output, Nat.le_trans h.size k.size, fun i hi hn => (k.block i (Nat.lt_of_lt_of_le hi h.size)).trans (h.block i hi hn)⟩
theorem Chg.of {L : List Nat} {c d : World} (k : Below c.heap.size c d) : Chg L c d := (Chg.refl L c).below k
theorem Chg.grown {w w' : World} {r : Option Nat} (h : w.grownBy w' r) : Chg r.toList w w' :=
  ⟨h.os, h.tape, h.output, h.size, fun k hk hn => h.block k hk (fun e => hn (by rw [← e]; simp))⟩
theorem Chg.put {L : List Nat} {a w : World} {g off : Nat} {vs : List Value} (h : Chg L a w) (hb : g ∈ L ∨ a.heap.size ≤ g) : Chg L a (w.setCells g off vs) := by
  have hB := below_setCells (B := 0) (w0 := w) g (Nat.zero_le _) vs off w (Below.refl _ _)
  refine ⟨hB.os.trans h.os, hB.tape.trans h.tape, hB.output.trans h.output, by rw [size_setCells]; exact h.size, fun k hk hn => ?_⟩
  have hne : k ≠ g := fun e => by
    subst e
    rcases hb with e | e
    · exact hn e
    · omega
  rw [heap_setCells g k hne vs off w]
  exact h.block k hk hn
theorem Chg.toBelow {L : List Nat} {B : Nat} {a c : World} (h : Chg L a c) (hL : ∀ x ∈ L, B ≤ x) (hB : B ≤ a.heap.size) : Below B a c :=
  ⟨h.os, h.tape, h.output, h.size, fun k hk => h.block k (Nat.lt_of_lt_of_le hk hB) (fun hm => by have := hL k hm; omega)⟩
theorem Chg.cell {L : List Nat} {a c : World} (h : Chg L a c) {p : Addr} (hp : p.block < a.heap.size) (hn : p.block ∉ L) : c.cell? p = a.cell? p := World.cell?_of_block (h.block p.block hp hn)
theorem Chg.frozen {L : List Nat} {a c : World} (h : Chg L a c) {p : Addr} (hp : p.block < a.heap.size) (hn : p.block ∉ L) : c.frozen? p = a.frozen? p := World.frozen?_of_block (h.block p.block hp hn)
theorem Chg.mm {L : List Nat} {a c : World} {l : List (Nat × List Value)} (h : Chg L a c) (hm : Mm a l) (hn : ∀ p ∈ l, p.1 ∉ L) : Mm c l :=
  ⟨fun p hp => ⟨Nat.lt_of_lt_of_le (hm.blk p hp).1 h.size, fun j v hv => by
    have := (hm.blk p hp).2 j v hv
    rw [h.cell (p := ⟨p.1, j, none⟩) (hm.blk p hp).1 (hn p hp), h.frozen (p := ⟨p.1, j, none⟩) (hm.blk p hp).1 (hn p hp)]
    exact this⟩, hm.nd⟩
/-- A slice's block, as a list. -/
abbrev vbl (v : Value) : List Nat := v.ownBlock.toList
theorem own_keep {w w' : World} {B e size n : Nat} {v : Value} {xs : List Value} (h : w.ownsRow B e size v n xs) (hb : ∀ b ∈ vbl v, w'.heap[b]? = w.heap[b]?) : w'.ownsRow B e size v n xs := by
  refine ⟨h.1, ?_⟩
  rcases h.2 with ⟨h1, h2⟩ | ⟨g, cap, cur, h1, h2, h3, h4⟩
  · exact .inl ⟨h1, h2⟩
  · subst h1
    refine .inr ⟨g, cap, cur, rfl, h2, ?_, h4⟩
    rw [hb g (by simp [vbl, Value.ownBlock])]
    exact h3
theorem own_base {w : World} {B B' e size n : Nat} {v : Value} {xs : List Value} (h : w.ownsRow B e size v n xs) (hb : B' ≤ B) : w.ownsRow B' e size v n xs := by
  refine ⟨h.1, ?_⟩
  rcases h.2 with ⟨h1, h2⟩ | ⟨g, cap, cur, h1, h2, h3, h4⟩
  · exact .inl ⟨h1, h2⟩
  · exact .inr ⟨g, cap, cur, h1, Nat.le_trans hb h2, h3, h4⟩
theorem own_lt {w : World} {B e size n : Nat} {v : Value} {xs : List Value} (h : w.ownsRow B e size v n xs) : ∀ b ∈ vbl v, b < w.heap.size := fun b hb => by
  unfold vbl at hb
  cases hv : v.ownBlock with
  | none => rw [hv] at hb; simp at hb
  | some k => rw [hv] at hb; simp at hb; subst hb; exact (World.ownsRow.lt h _ hv).2
theorem own_slice {w : World} {B e size n : Nat} {v : Value} {xs : List Value} (h : w.ownsRow B e size v n xs) : ∃ p c, v = .slice p n c ∧ n ≤ c := by
  rcases h.2 with ⟨h1, h2⟩ | ⟨g, cap, cur, h1, h2, h3, h4, _⟩
  · subst h2
    exact ⟨_, _, h1, Nat.le_refl _⟩
  · exact ⟨_, _, h1, h4⟩
/-- A row cut to its first k. -/
theorem own_take {w : World} {B n k : Nat} {p : Option Addr} {c : Nat} {P : Nat → Nat} (h : w.ownsRow B 5 1 (.slice p n c) n (ints .u8 P n)) (hk : k ≤ n) : w.ownsRow B 5 1 (.slice p k c) k (ints .u8 P k) := by
  refine ⟨by rw [ints_len]; omega, ?_⟩
  rcases h.2 with ⟨h1, h2⟩ | ⟨g, cap, cur, h1, h2, h3, h4, h5, h6, h7⟩
  · subst h2
    obtain rfl : k = 0 := by omega
    exact .inl ⟨h1, rfl⟩
  · injection h1 with e1 e2 e3
    subst e1
    subst e3
    refine .inr ⟨g, c, cur, rfl, h2, h3, by omega, h5, h6, ?_⟩
    have e : cur.toList.take (k * 1) = (cur.toList.take (n * 1)).take k := by rw [List.take_take]; congr 1; omega
    rw [e, h7]
    apply List.ext_getElem?
    intro j
    rw [List.getElem?_take]
    by_cases hj : j < k
    · rw [if_pos hj, ints_get _ _ (by omega), ints_get _ _ hj]
    · rw [if_neg hj, ints_none _ _ (by omega)]
/-- An operation under way: how many bytes stay, and which stand behind. -/
structure Uop where
  st : Nat
  q : Pt8
def uoc (o : Uop) : List Value := [.int .i64 (o.st : Int), .slice o.q.p o.q.n o.q.cp]
def opc (l : List Uop) : List Value := l.flatMap uoc
theorem opc_at : ∀ (l : List Uop) (i : Nat) (o : Uop), l[i]? = some o → (opc l)[2 * i]? = some (.int .i64 (o.st : Int)) ∧ (opc l)[2 * i + 1]? = some (.slice o.q.p o.q.n o.q.cp)
  | [], i, o, h => by simp at h
  | x :: r, 0, o, h => by
    simp at h
    subst h
    exact ⟨rfl, rfl⟩
  | x :: r, i + 1, o, h => by
    have h2 := opc_at r i o (by simpa using h)
    have e : opc (x :: r) = uoc x ++ opc r := rfl
    rw [e, List.getElem?_append_right (by simp [uoc]; omega), List.getElem?_append_right (by simp [uoc]; omega)]
    simp only [uoc, List.length_cons, List.length_nil]
    exact ⟨by rw [show 2 * (i + 1) - (0 + 1 + 1) = 2 * i by omega]; exact h2.1, by rw [show 2 * (i + 1) + 1 - (0 + 1 + 1) = 2 * i + 1 by omega]; exact h2.2⟩
theorem opc_snoc (l : List Uop) (o : Uop) : opc (l ++ [o]) = opc l ++ uoc o := by simp [opc]
def Uop.ok (o : Uop) (w : World) : Prop := Pok o.q ∧ (o.q.p = none → o.q.cp = 0) ∧ o.q.rs w
def uob (o : Uop) : List Nat := if o.q.n = 0 then [] else [o.q.gb]
theorem Uop.ok.keep {o : Uop} {w w' : World} (h : o.ok w) (hs : w.heap.size ≤ w'.heap.size) (hb : ∀ b ∈ uob o, w'.heap[b]? = w.heap[b]?) : o.ok w' := by
  refine ⟨h.1, h.2.1, fun hn => Nat.lt_of_lt_of_le (h.2.2.lt hn) hs, fun i hi => ?_⟩
  have e : w'.heap[o.q.gb]? = w.heap[o.q.gb]? := hb _ (by unfold uob; rw [if_neg (by omega)]; simp)
  rw [World.cell?_of_block (a := ⟨o.q.gb, o.q.o + i, none⟩) e]
  exact h.2.2.at_ i hi
/-- A file's bytes and operations, but for its own block. -/
structure Fi (s u : Value) (n : Nat) (P : Nat → Nat) (ops : List Uop) (w : World) : Prop where
  row : w.ownsRow 0 5 1 s n (ints .u8 P n)
  und : w.ownsRow 0 120 2 u ops.length (opc ops)
  opk : ∀ o ∈ ops, o.ok w
def fbl (s u : Value) (ops : List Uop) : List Nat := vbl s ++ (vbl u ++ ops.flatMap uob)
theorem Fi.keep {s u : Value} {n : Nat} {P : Nat → Nat} {ops : List Uop} {w w' : World} (h : Fi s u n P ops w) (hs : w.heap.size ≤ w'.heap.size) (hb : ∀ b ∈ fbl s u ops, w'.heap[b]? = w.heap[b]?) : Fi s u n P ops w' :=
  ⟨own_keep h.row (fun b hm => hb b (by unfold fbl; simp [hm])), own_keep h.und (fun b hm => hb b (by unfold fbl; simp [hm])), fun o ho => (h.opk o ho).keep hs (fun b hm => hb b (by unfold fbl; simp only [List.mem_append, List.mem_flatMap]; exact .inr (.inr ⟨o, ho, hm⟩)))⟩
theorem Fi.lt {s u : Value} {n : Nat} {P : Nat → Nat} {ops : List Uop} {w : World} (h : Fi s u n P ops w) : ∀ b ∈ fbl s u ops, b < w.heap.size := fun b hb => by
  unfold fbl at hb
  simp only [List.mem_append, List.mem_flatMap] at hb
  rcases hb with e | e | ⟨o, ho, e⟩
  · exact own_lt h.row b e
  · exact own_lt h.und b e
  · unfold uob at e
    split at e
    · simp at e
    · simp at e
      subst e
      exact (h.opk o ho).2.2.lt (by omega)
theorem Fi.chg {s u : Value} {n : Nat} {P : Nat → Nat} {ops : List Uop} {L : List Nat} {w w' : World} (h : Fi s u n P ops w) (hc : Chg L w w') (hn : ∀ b ∈ fbl s u ops, b ∉ L) : Fi s u n P ops w' :=
  h.keep hc.size (fun b hb => hc.block b (h.lt b hb) (hn b hb))
theorem Fi.below {s u : Value} {n : Nat} {P : Nat → Nat} {ops : List Uop} {w w' : World} (h : Fi s u n P ops w) (hb : Below w.heap.size w w') : Fi s u n P ops w' :=
  h.keep hb.size (fun b hm => hb.block b (h.lt b hm))
/-- An operation in memory, read. -/
theorem Fi.opAt {s u : Value} {n : Nat} {P : Nat → Nat} {ops : List Uop} {w : World} (h : Fi s u n P ops w) {i : Nat} {o : Uop} (hi : ops[i]? = some o) : ∃ g c, u = .slice (some ⟨g, 0, none⟩) ops.length c ∧ w.cell? ⟨g, 2 * i, none⟩ = some (.int .i64 (o.st : Int)) ∧ w.cell? ⟨g, 2 * i + 1, none⟩ = some (.slice o.q.p o.q.n o.q.cp) := by
  have hlt := (List.getElem?_eq_some_iff.1 hi).1
  rcases h.und.2 with ⟨h1, h2⟩ | ⟨g, cap, cur, h1, _⟩
  · omega
  · refine ⟨g, cap, h1, ?_, ?_⟩
    · have := World.ownsRow.cells h.und (g := g) (by rw [h1]; rfl) (2 * i) _ (opc_at ops i o hi).1
      rwa [show (⟨g, 0, none⟩ : Addr).add (2 * i) = ⟨g, 2 * i, none⟩ by unfold Addr.add; split <;> simp_all] at this
    · have := World.ownsRow.cells h.und (g := g) (by rw [h1]; rfl) (2 * i + 1) _ (opc_at ops i o hi).2
      rwa [show (⟨g, 0, none⟩ : Addr).add (2 * i + 1) = ⟨g, 2 * i + 1, none⟩ by unfold Addr.add; split <;> simp_all] at this
section
variable {ρ : Operand → Value} {o : Oper} {x y : Operand} {g off m c j k n : Nat} {w : World}
theorem ex_ixO (ho : o.op = .indexAddr 115 x y) (hx : ρ x = .slice (some ⟨g, 0, none⟩) m c) (hy : ρ y = .int .i64 ((j : Nat) : Int)) (h : j < m) : (execOp ρ o).run Try.prog w = .ok (.value (PT g (2 * j))) w := by
  simp only [execOp, ho, hx, hy]
  clear ho hx hy
  go_simp
theorem ex_ldO {a d : Value} (c0 : w.cell? ⟨g, off, none⟩ = some a) (c1 : w.cell? ⟨g, off + 1, none⟩ = some d) (ho : o.op = .load 120 x) (hx : ρ x = PT g off) : (execOp ρ o).run Try.prog w = .ok (.value (.agg #[a, d])) w := by
  simp only [execOp, ho, hx]
  clear ho hx
  go_simp
end
end Wi
end Rg
end Go.Proofs.Ytidicdlfjdlpnaa
end
section
namespace Go.Proofs.Ytidicdlfjdlpnaa
open Go.RowKit
namespace Rg
namespace Wi
set_option maxRecDepth 100000
theorem ex_mkO {ρ : Operand → Value} {o : Oper} {w : World} (ho : o.op = .alloc 120) : (execOp ρ o).run Try.prog w = .ok (.value (.pointer (some ⟨w.heap.size, 0, none⟩))) (w.alloc (.cells ([.int .i64 0, .slice none 0 0] : List Value).toArray 120)) := by
  simp only [execOp, ho]
  go_simp
theorem ex_mk120 {ρ : Operand → Value} {o : Oper} {w : World} (ho : o.op = .alloc 120) : (execOp ρ o).run Try.prog w = .ok (.value (.pointer (some ⟨w.heap.size, 0, none⟩))) (w.alloc (.cells ([.int .i64 0, .slice none 0 0] : List Value).toArray 120)) := ex_mkO ho
theorem obs (ps : Option Addr) (n m c d : Nat) : (Value.slice ps n c).ownBlock = (Value.slice ps m d).ownBlock := by cases ps <;> rfl
theorem vbl_new {v' v p : Value} {k B : Nat} (h : v'.ownBlock = v.ownBlock ∨ v'.ownBlock = some k) (hB : B ≤ k) (e : v.ownBlock = p.ownBlock) : ∀ x ∈ vbl v', x ∈ vbl p ∨ B ≤ x := fun x hx => by
  unfold vbl at hx ⊢
  rcases h with h | h
  · rw [h, e] at hx
    exact .inl hx
  · rw [h] at hx
    simp at hx
    subst hx
    exact .inr hB
set_option maxHeartbeats 2000000 in
set_option maxRecDepth 100000 in
theorem upon_any (o : Uop) (ps : Option Addr) (n cs B : Nat) (P : Nat → Nat) (hst : o.st ≤ n) (hcap : o.st ≤ cs) (hbd : o.st + o.q.n ≤ 2097152) (w : World) (hB : B ≤ w.heap.size) (row0 : w.ownsRow B 5 1 (Value.slice ps n cs) n (ints .u8 P n)) (hq0 : o.ok w) :
    Calls Try.prog 102 #[.agg ([Value.int .i64 ((o.st : Nat) : Int), Value.slice o.q.p o.q.n o.q.cp]).toArray, .slice ps n cs] w fun e w' => ∃ v', e = .returned v' ∧ w'.ownsRow B 5 1 v' (o.st + o.q.n) (ints .u8 (ct P o.st o.q.f) (o.st + o.q.n)) ∧ Chg (vbl (Value.slice ps n cs)) w w' ∧ ∀ x ∈ vbl v', x ∈ vbl (Value.slice ps n cs) ∨ w.heap.size ≤ x := by
  have H0 : Hid (_ ∧ _) := ⟨Mm.nil w, Below.refl w.heap.size w⟩
  have row : Hid _ := row0
  have hq : Hid _ := hq0
  clear row0 hq0
  go_enter Try.func102, Try.ntmps102
  refine wp_seq ?_
  refine sq_startW (l := [0, 1]) rfl (fun u0 hu0 => ?_)
  have H1 : Hid (Mm u0 [] ∧ Below w.heap.size w u0) := by rw [hu0]; exact H0
  clear hu0 H0
  refine rest_set (d := 2) (v := PT u0.heap.size 0) (w' := (u0.alloc (.cells ([Value.int .i64 ((o.st : Nat) : Int), Value.slice o.q.p o.q.n o.q.cp] : List Value).toArray 120))) rfl rfl rfl (ex_boxT rfl rfl) ?_
  simp only [Act.put, sa, sz, ss]
  have o_γs2 : Hid (w.heap.size ≤ u0.heap.size) := H1.out.2.size
  have H2 : Hid (Mm (u0.alloc (.cells ([Value.int .i64 ((o.st : Nat) : Int), Value.slice o.q.p o.q.n o.q.cp] : List Value).toArray 120)) ((u0.heap.size, [Value.int .i64 ((o.st : Nat) : Int), Value.slice o.q.p o.q.n o.q.cp]) :: []) ∧ Below w.heap.size w (u0.alloc (.cells ([Value.int .i64 ((o.st : Nat) : Int), Value.slice o.q.p o.q.n o.q.cp] : List Value).toArray 120))) := ⟨H1.out.1.alloc _ 120 rfl, H1.out.2.trans (((Below.refl _ _).alloc (Nat.le_refl _) _).mono H1.out.2.size)⟩
  clear H1
  generalize hgw : u0.alloc (.cells ([Value.int .i64 ((o.st : Nat) : Int), Value.slice o.q.p o.q.n o.q.cp] : List Value).toArray 120) = w2 at H2 ⊢
  clear hgw
  generalize u0.heap.size = γs2 at o_γs2 H2 ⊢
  refine rest_set (d := 4) (v := .slice none 0 0) (w' := w2) rfl rfl rfl (rfl) ?_
  simp only [Act.put, sa, sz, ss]
  refine rest_nil (then_normal (wp_seq ?_))
  refine walk_anyB 6 [.quiet (.slice ps n cs), .quiet (PT γs2 0), .quiet (.int .i64 ((o.st : Nat) : Int)), .quiet (.slice ps o.st cs), .quiet (PT γs2 1), .quiet (.slice o.q.p o.q.n o.q.cp)] H2 ?ho2 ?he2
  case ho2 => exact ak (fun _ => ⟨rfl, fun _ _ => rfl⟩) (ak (by refine fun γ => ⟨rfl, fun w' h => ?_⟩; clear h; go_simp) (ak (fun γ => ⟨rfl, fun w' h => ex_loadC h 0 rfl rfl rfl Try.isAgg3 rfl⟩) (ak (fun γ => ⟨rfl, fun w' _ => ex_take hcap rfl rfl rfl⟩) (ak (by refine fun γ => ⟨rfl, fun w' h => ?_⟩; clear h; go_simp) (ak (fun γ => ⟨rfl, fun w' h => ex_loadC h 0 rfl rfl rfl Try.isAgg34 rfl⟩) trivial)))))
  intro _ w3 H3
  clear H2
  refine rest_at (l := [6, 7]) rfl ?_
  obtain ⟨vr, w4, hr, hO, hG, h5⟩ := own_appQ (own_take (own_keep row.out (fun b hb => H3.out.2.block b (own_lt row.out b hb))) hst) (Nat.le_trans hB H3.out.2.size) hq.out.1 hq.out.2.1 (hq.out.2.2.below H3.out.2) hbd 34
  refine rest_set (d := 11) (v := vr) (w' := w4) rfl rfl rfl (ex_app rfl rfl rfl hr) ?_
  simp only [Act.put, sa, sz, ss]
  have hC : Chg (vbl (Value.slice ps n cs)) w w4 := (Chg.of H3.out.2).trans (Chg.grown hG) (fun x hx => .inl (by unfold vbl; rw [obs ps n o.st cs cs]; exact hx))
  have hV : Hid (∀ x ∈ vbl vr, x ∈ vbl (Value.slice ps n cs) ∨ w.heap.size ≤ x) := vbl_new h5 H3.out.2.size (obs _ _ _ _ _)
  have hOO : Hid _ := hO
  have H4 : Hid (Mm w4 [] ∧ Chg (vbl (Value.slice ps n cs)) w w4) := ⟨Mm.nil _, hC⟩
  clear hr hO hG h5 hC H3
  refine rest_set (d := 4) (v := vr) (w' := w4) rfl rfl rfl (rfl) ?_
  simp only [Act.put, sa, sz, ss]
  refine rest_nil (then_normal (wp_ret ?_))
  repeat (first | refine then_ret ?_ | refine block_ret ?_)
  refine bodyPost_ret (v := vr) (by simp [results, Try.results102, go_sem, *]) rfl ?_
  exact ⟨_, rfl, hOO.out, H4.out.2, hV.out⟩
end Wi
end Rg
end Go.Proofs.Ytidicdlfjdlpnaa
end
section
namespace Go.Proofs.Ytidicdlfjdlpnaa
open Go.RowKit
namespace Rg
namespace Wi
set_option maxRecDepth 100000
theorem info_op : ∃ i z, Try.prog.info? 120 = some i ∧ i.zero = some z ∧ i.size = 2 ∧ i.bytes = 32 ∧ z.cells.size = 2 := by
  have h : (Try.prog.info? 120).map (fun i => (i.size, i.bytes, i.zero.map (fun z => z.cells.size))) = some (2, 32, some 2) := by kernel_rfl
  cases hi : Try.prog.info? 120 with
  | none => rw [hi] at h; simp at h
  | some i =>
    rw [hi] at h
    simp only [Option.map_some, Option.some.injEq, Prod.mk.injEq] at h
    obtain ⟨h1, h2, h3⟩ := h
    cases hz : i.zero with
    | none => rw [hz] at h3; simp at h3
    | some z =>
      rw [hz] at h3
      simp only [Option.map_some, Option.some.injEq] at h3
      exact ⟨i, z, rfl, hz, h1, h2, h3⟩
theorem own_appO {w : World} {u : Value} {ops : List Uop} (h : w.ownsRow 0 120 2 u ops.length (opc ops)) (o : Uop) {g c : Nat} (c0 : w.cell? ⟨g, 0, none⟩ = some (.int .i64 (o.st : Int))) (c1 : w.cell? ⟨g, 1, none⟩ = some (.slice o.q.p o.q.n o.q.cp)) (hb : ops.length ≤ 1000000) (ty : TypeId) :
    ∃ v' w2, (Builtin.append_ #[115, 115] ty #[u, .slice (some ⟨g, 0, none⟩) 1 c]).run Try.prog w = .ok v' w2 ∧ w2.ownsRow 0 120 2 v' (ops ++ [o]).length (opc (ops ++ [o])) ∧ w.grownBy w2 u.ownBlock ∧ (v'.ownBlock = u.ownBlock ∨ v'.ownBlock = some w.heap.size) := by
  obtain ⟨i0, z0, hi, hz0, hz1, hz2, hz3⟩ := info_op
  obtain ⟨v', w2, h1, h2, h3, _, h5⟩ := run_append_own_at (P := Try.prog) w 0 115 ty 120 i0 z0 2 32 Try.underlying115 hi hz0 hz1 hz2 hz3 (by decide) u _ _ h ⟨g, 0, none⟩ 1 c (uoc o) rfl
    (fun j v hj => by
      match j, hj with
      | 0, hj => simp [uoc] at hj; subst hj; exact c0
      | 1, hj => simp [uoc] at hj; subst hj; exact c1) (fun v hv => by
      simp [uoc] at hv
      rcases hv with rfl | rfl <;> rfl) (by unfold maxLen; omega) (by omega) (Nat.zero_le _)
  refine ⟨v', w2, h1, ?_, h3, h5⟩
  rw [List.length_append, opc_snoc]
  exact h2
theorem ex_appO {ρ : Operand → Value} {o : Oper} {x y : Operand} {vv sv v' : Value} {w w2 : World} (ho : o.op = .call { callee := .builtin .append, args := #[x, y], argTypes := #[115, 115] }) (hx : ρ x = vv) (hy : ρ y = sv) (hr : (Builtin.append_ #[115, 115] o.type #[vv, sv]).run Try.prog w = .ok v' w2) : (execOp ρ o).run Try.prog w = .ok (.value v') w2 := by
  unfold execOp
  simp only [ho, resolve, invoke, builtin, Sem.run_bind, Sem.run_pure, Result.andThen_ok, List.map_toArray, List.map_cons, List.map_nil, hx, hy, hr]
theorem ex_bsO {ρ : Operand → Value} {o : Oper} {x : Operand} {a d : Value} {w : World} (ho : o.op = .buildSlice 115 1 #[(0, x)]) (hx : ρ x = .agg #[a, d]) : (execOp ρ o).run Try.prog w = .ok (.value (.slice (some ⟨w.heap.size, 0, none⟩) 1 1)) (w.alloc (.cells ([a, d] : List Value).toArray 120)) := by
  simp only [execOp, ho, List.map_toArray, List.map_cons, List.map_nil, hx]
  kernel_rfl
theorem own_st {w : World} {B e z n : Nat} {v : Value} {xs : List Value} (h : w.ownsRow B e z v n xs) : st1 v = true := by
  rcases h.2 with ⟨h1, _⟩ | ⟨g, cap, cur, h1, _⟩ <;> rw [h1] <;> rfl
/-- A file's parts lie apart. -/
structure Apt (g : Nat) (s u : Value) (ops : List Uop) : Prop where
  gs : g ∉ vbl s
  gu : g ∉ vbl u
  go : ∀ o ∈ ops, g ∉ uob o
  su : ∀ x ∈ vbl s, x ∉ vbl u
  so : ∀ x ∈ vbl s, ∀ o ∈ ops, x ∉ uob o
  uo : ∀ x ∈ vbl u, ∀ o ∈ ops, x ∉ uob o
theorem Fi.begun {g : Nat} {s u u' : Value} {n : Nat} {P : Nat → Nat} {ops : List Uop} {w w' : World} (h : Fi s u n P ops w) (a : Apt g s u ops) (hc : Chg (g :: vbl u) w w') {o : Uop} (hu : w'.ownsRow 0 120 2 u' (ops ++ [o]).length (opc (ops ++ [o]))) (ho : o.ok w) (ha : ∀ x ∈ uob o, x ∉ g :: vbl u) : Fi s u' n P (ops ++ [o]) w' :=
  ⟨own_keep h.row (fun x hx => hc.block x (own_lt h.row x hx) (fun hm => by
    rcases List.mem_cons.1 hm with e | e
    · subst e; exact a.gs hx
    · exact a.su x hx e)), hu, fun p hp => by
    have key : p.ok w ∧ ∀ x ∈ uob p, x ∉ g :: vbl u := by
      rcases List.mem_append.1 hp with e | e
      · refine ⟨h.opk p e, fun x hx hm => ?_⟩
        rcases List.mem_cons.1 hm with e2 | e2
        · subst e2; exact a.go p e hx
        · exact a.uo x e2 p e hx
      · obtain rfl := List.mem_singleton.1 e
        exact ⟨ho, ha⟩
    refine key.1.keep hc.size (fun x hx => hc.block x ?_ (key.2 x hx))
    unfold uob at hx
    split at hx
    · simp at hx
    · simp at hx
      subst hx
      exact key.1.2.2.lt (by omega)⟩
theorem Apt.begun {g : Nat} {s u u' : Value} {ops : List Uop} {B : Nat} (a : Apt g s u ops) (hB : ∀ x ∈ g :: fbl s u ops, x < B) (hu : ∀ x ∈ vbl u', x ∈ vbl u ∨ B ≤ x) {o : Uop} (ho : ∀ x ∈ uob o, x < B ∧ x ∉ g :: fbl s u ops) : Apt g s u' (ops ++ [o]) := by
  have hs : ∀ x ∈ vbl s, x ∈ g :: fbl s u ops := fun x hx => by unfold fbl; simp [hx]
  have hu0 : ∀ x ∈ vbl u, x ∈ g :: fbl s u ops := fun x hx => by unfold fbl; simp [hx]
  have hoo : ∀ p ∈ ops, ∀ x ∈ uob p, x ∈ g :: fbl s u ops := fun p hp x hx => by
    unfold fbl
    simp only [List.mem_cons, List.mem_append, List.mem_flatMap]
    exact .inr (.inr (.inr ⟨p, hp, hx⟩))
  have cs : ∀ p ∈ ops ++ [o], p ∈ ops ∨ p = o := fun p hp => (List.mem_append.1 hp).imp_right List.mem_singleton.1
  refine ⟨a.gs, fun h => ?_, fun p hp h => ?_, fun x hx h => ?_, fun x hx p hp h => ?_, fun x hx p hp h => ?_⟩
  · rcases hu g h with e | e
    · exact a.gu e
    · have := hB g (by simp); omega
  · rcases cs p hp with e | e
    · exact a.go p e h
    · subst e; exact (ho g h).2 (by simp)
  · rcases hu x h with e | e
    · exact a.su x hx e
    · have := hB x (hs x hx); omega
  · rcases cs p hp with e | e
    · exact a.so x hx p e h
    · subst e; exact (ho x h).2 (hs x hx)
  · rcases hu x hx with e | e
    · rcases cs p hp with e2 | e2
      · exact a.uo x e p e2 h
      · subst e2; exact (ho x h).2 (hu0 x e)
    · rcases cs p hp with e2 | e2
      · have := hB x (hoo p e2 x h); omega
      · subst e2; have := (ho x h).1; omega
set_option maxHeartbeats 2000000 in
set_option maxRecDepth 100000 in
theorem within_any (a : Int) (m : Nat) (w : World) :
    Calls Try.prog 104 #[.int .i64 a, .int .i64 ((m : Nat) : Int)] w fun e w' => e = .returned (.int .i64 ((min a.toNat m : Nat) : Int)) ∧ Below w.heap.size w w' := by
  have H0 : Hid (_ ∧ _) := ⟨Mm.nil w, Below.refl w.heap.size w⟩
  go_enter Try.func104, Try.ntmps104
  refine wp_seq ?_
  refine sq_startW (l := [0]) rfl (fun u0 hu0 => ?_)
  have H1 : Hid (Mm u0 [] ∧ Below w.heap.size w u0) := by rw [hu0]; exact H0
  clear hu0 H0
  refine rest_set (d := 4) (v := .int .i64 0) (w' := u0) rfl rfl rfl (rfl) ?_
  simp only [Act.put, sa, sz, ss]
  refine rest_nil (then_normal (wp_seq ?_))
  refine sq_start (l := [0, 1, 2, 3, 4]) rfl ?_
  refine rest_set (d := 5) (v := .int .i64 a) (w' := u0) rfl rfl rfl (rfl) ?_
  simp only [Act.put, sa, sz, ss]
  refine rest_set (d := 6) (v := .int .i64 ((a.toNat : Nat) : Int)) (w' := u0) rfl rfl rfl (by go_simp <;> omega) ?_
  simp only [Act.put, sa, sz, ss]
  refine rest_set (d := 7) (v := .int .i64 ((m : Nat) : Int)) (w' := u0) rfl rfl rfl (rfl) ?_
  simp only [Act.put, sa, sz, ss]
  refine rest_set (d := 8) (v := .int .i64 ((min a.toNat m : Nat) : Int)) (w' := u0) rfl rfl rfl (by go_simp <;> omega) ?_
  simp only [Act.put, sa, sz, ss]
  refine rest_set (d := 4) (v := .int .i64 ((min a.toNat m : Nat) : Int)) (w' := u0) rfl rfl rfl (rfl) ?_
  simp only [Act.put, sa, sz, ss]
  refine rest_nil (then_normal (wp_ret ?_))
  repeat (first | refine then_ret ?_ | refine block_ret ?_)
  refine bodyPost_ret (v := .int .i64 ((min a.toNat m : Nat) : Int)) (by simp [results, Try.results104, go_sem, *]) rfl ?_
  exact ⟨rfl, H1.out.2⟩
set_option maxHeartbeats 2000000 in
set_option maxRecDepth 100000 in
theorem size_nil (g : Nat) (ps pu : Option Addr) (n cs cu : Nat) (fr : Bool) (w : World) (hm : Mm w [(g, [Value.slice ps n cs, Value.slice pu 0 cu, Value.bool fr])]) :
    Calls Try.prog 68 #[PT g 0] w fun e w' => e = .returned (.int .i64 ((n : Nat) : Int)) ∧ Below w.heap.size w w' := by
  have H0 : Hid (_ ∧ _) := ⟨hm, Below.refl w.heap.size w⟩
  clear hm
  go_enter Try.func68, Try.ntmps68
  refine wp_seq ?_
  refine sq_startW (l := [0]) rfl (fun u0 hu0 => ?_)
  have H1 : Hid (Mm u0 [(g, [Value.slice ps n cs, Value.slice pu 0 cu, Value.bool fr])] ∧ Below w.heap.size w u0) := by rw [hu0]; exact H0
  clear hu0 H0
  refine rest_set (d := 2) (v := .int .i64 0) (w' := u0) rfl rfl rfl (rfl) ?_
  simp only [Act.put, sa, sz, ss]
  refine rest_nil (then_normal ?_)
  refine wp_seq (wp_seq ?_)
  refine sq_start (l := [0, 1, 2, 3, 4, 5]) rfl ?_
  refine rest_set (d := 5) (v := PT g 0) (w' := u0) rfl rfl rfl (rfl) ?_
  simp only [Act.put, sa, sz, ss]
  refine rest_set (d := 6) (v := PT g 0) (w' := u0) rfl rfl rfl (by go_simp) ?_
  simp only [Act.put, sa, sz, ss]
  refine rest_set (d := 7) (v := PT g 1) (w' := u0) rfl rfl rfl (by go_simp) ?_
  simp only [Act.put, sa, sz, ss]
  refine rest_set (d := 8) (v := .slice pu 0 cu) (w' := u0) rfl rfl rfl (ex_loadC H1.out.1 0 rfl rfl rfl Try.isAgg115 rfl) ?_
  simp only [Act.put, sa, sz, ss]
  refine rest_set (d := 9) (v := .int .i64 ((0 : Nat) : Int)) (w' := u0) rfl rfl rfl (by go_simp) ?_
  simp only [Act.put, sa, sz, ss]
  refine rest_set (d := 3) (v := .int .i64 ((0 : Nat) : Int)) (w' := u0) rfl rfl rfl (rfl) ?_
  simp only [Act.put, sa, sz, ss]
  refine rest_nil (then_normal (wp_seq ?_))
  refine sq_start (l := [0, 1]) rfl ?_
  refine rest_set (d := 10) (v := .int .i64 ((0 : Nat) : Int)) (w' := u0) rfl rfl rfl (rfl) ?_
  simp only [Act.put, sa, sz, ss]
  refine rest_set (d := 11) (v := .bool false) (w' := u0) rfl rfl rfl (by go_simp <;> omega) ?_
  simp only [Act.put, sa, sz, ss]
  refine rest_nil (then_normal ?_)
  refine wp_cond_false rfl (wp_skip ?_)
  refine then_normal (wp_seq ?_)
  refine sq_start (l := [0, 1, 2, 3, 4, 5]) rfl ?_
  refine rest_set (d := 26) (v := PT g 0) (w' := u0) rfl rfl rfl (rfl) ?_
  simp only [Act.put, sa, sz, ss]
  refine rest_set (d := 27) (v := PT g 0) (w' := u0) rfl rfl rfl (by go_simp) ?_
  simp only [Act.put, sa, sz, ss]
  refine rest_set (d := 28) (v := PT g 0) (w' := u0) rfl rfl rfl (by go_simp) ?_
  simp only [Act.put, sa, sz, ss]
  refine rest_set (d := 29) (v := .slice ps n cs) (w' := u0) rfl rfl rfl (ex_loadC H1.out.1 0 rfl rfl rfl Try.isAgg34 rfl) ?_
  simp only [Act.put, sa, sz, ss]
  refine rest_set (d := 30) (v := .int .i64 ((n : Nat) : Int)) (w' := u0) rfl rfl rfl (by go_simp) ?_
  simp only [Act.put, sa, sz, ss]
  refine rest_set (d := 2) (v := .int .i64 ((n : Nat) : Int)) (w' := u0) rfl rfl rfl (rfl) ?_
  simp only [Act.put, sa, sz, ss]
  refine rest_nil (then_normal (wp_ret ?_))
  repeat (first | refine then_ret ?_ | refine block_ret ?_)
  refine bodyPost_ret (v := .int .i64 ((n : Nat) : Int)) (by simp [results, Try.results68, go_sem, *]) rfl ?_
  exact ⟨rfl, H1.out.2⟩
set_option maxHeartbeats 2000000 in
set_option maxRecDepth 100000 in
theorem begin_any (g : Nat) (ps pu : Option Addr) (n cs cu : Nat) (fr : Bool) (P : Nat → Nat) (ops : List Uop) (o : Uop) (hm : ops.length ≤ 1000000) (w : World) (hm : Mm w [(g, [Value.slice ps n cs, Value.slice pu ops.length cu, Value.bool fr])]) (fi0 : Fi (Value.slice ps n cs) (Value.slice pu ops.length cu) n P ops w) (ap0 : Apt g (Value.slice ps n cs) (Value.slice pu ops.length cu) ops) (ho0 : o.ok w) (ha : ∀ x ∈ uob o, x ∉ g :: vbl (Value.slice pu ops.length cu)) :
    Calls Try.prog 69 #[PT g 0, .agg ([Value.int .i64 ((o.st : Nat) : Int), Value.slice o.q.p o.q.n o.q.cp]).toArray] w fun e w' => e = .returned (.tuple #[]) ∧ ∃ u', Mm w' [(g, [Value.slice ps n cs, u', Value.bool fr])] ∧ Fi (Value.slice ps n cs) u' n P (ops ++ [o]) w' ∧ Chg (g :: vbl (Value.slice pu ops.length cu)) w w' ∧ ∀ x ∈ vbl u', x ∈ vbl (Value.slice pu ops.length cu) ∨ w.heap.size ≤ x := by
  have H0 : Hid (_ ∧ _) := ⟨hm, Below.refl w.heap.size w⟩
  clear hm
  have hg : g < w.heap.size := (H0.out.1.blk _ (List.mem_cons_self ..)).1
  have fi : Hid _ := fi0
  have ap : Hid _ := ap0
  have hok : Hid _ := ho0
  have hap : Hid _ := ha
  clear fi0 ap0 ho0 ha
  go_enter Try.func69, Try.ntmps69
  refine wp_seq ?_
  refine sq_startW (l := [0]) rfl (fun u0 hu0 => ?_)
  have H1 : Hid (Mm u0 [(g, [Value.slice ps n cs, Value.slice pu ops.length cu, Value.bool fr])] ∧ Below w.heap.size w u0) := by rw [hu0]; exact H0
  clear hu0 H0
  refine rest_set (d := 3) (v := PT u0.heap.size 0) (w' := (u0.alloc (.cells ([Value.int .i64 ((o.st : Nat) : Int), Value.slice o.q.p o.q.n o.q.cp] : List Value).toArray 120))) rfl rfl rfl (ex_boxT rfl rfl) ?_
  simp only [Act.put, sa, sz, ss]
  have o_γs2 : Hid (w.heap.size ≤ u0.heap.size) := H1.out.2.size
  have H2 : Hid (Mm (u0.alloc (.cells ([Value.int .i64 ((o.st : Nat) : Int), Value.slice o.q.p o.q.n o.q.cp] : List Value).toArray 120)) ((u0.heap.size, [Value.int .i64 ((o.st : Nat) : Int), Value.slice o.q.p o.q.n o.q.cp]) :: [(g, [Value.slice ps n cs, Value.slice pu ops.length cu, Value.bool fr])]) ∧ Below w.heap.size w (u0.alloc (.cells ([Value.int .i64 ((o.st : Nat) : Int), Value.slice o.q.p o.q.n o.q.cp] : List Value).toArray 120))) := ⟨H1.out.1.alloc _ 120 rfl, H1.out.2.trans (((Below.refl _ _).alloc (Nat.le_refl _) _).mono H1.out.2.size)⟩
  clear H1
  generalize hgw : u0.alloc (.cells ([Value.int .i64 ((o.st : Nat) : Int), Value.slice o.q.p o.q.n o.q.cp] : List Value).toArray 120) = w2 at H2 ⊢
  clear hgw
  generalize u0.heap.size = γs2 at o_γs2 H2 ⊢
  refine rest_nil (then_normal ?_)
  refine walk_value (by kernel_rfl) 7 [0] [.quiet (PT g 0), .quiet (PT g 0), .quiet (PT g 0), .quiet (PT g 1), .quiet (.slice pu ops.length cu), .quiet (.agg ([Value.int .i64 ((o.st : Nat) : Int), Value.slice o.q.p o.q.n o.q.cp]).toArray), .row (fun g => .slice (some ⟨g, 0, none⟩) 1 1) (uoc o) 120] (fun w' => Mm w' [(γs2, [Value.int .i64 ((o.st : Nat) : Int), Value.slice o.q.p o.q.n o.q.cp]), (g, [Value.slice ps n cs, Value.slice pu ops.length cu, Value.bool fr])]) ?pre2 ?F2 ?G2 _ 11 ?hpre2 (fun γ => ?hF2) (fun v γ => ?hG2) (by kernel_rfl) rfl ?hL2 ?hS2 ?ho2 (fun v => ?hla2) ?he2
  case hpre2 => simp only [tk, tz]; rfl
  case hF2 => simp only [fill, Kind.val, Act.put, sa, sz, ss]; rfl
  case hG2 => simp only [fill, Kind.val, Act.put, sa, sz, ss]; rfl
  case hL2 => exact trivial
  case hS2 => exact fun w' hb => H2.out.1.below hb
  case ho2 =>
    refine ak (fun _ => ⟨rfl, fun _ _ => rfl⟩) ?_
    refine ak (fun _ => ⟨rfl, fun _ _ => rfl⟩) ?_
    refine ak (by refine fun γ => ⟨rfl, fun w' h => ?_⟩; clear h; go_simp) ?_
    refine ak (by refine fun γ => ⟨rfl, fun w' h => ?_⟩; clear h; go_simp) ?_
    refine ak (fun γ => ⟨rfl, fun w' h => ex_loadC h 1 rfl rfl rfl Try.isAgg115 rfl⟩) ?_
    refine ak (fun γ => ⟨rfl, fun w' h => ex_loadT h 0 rfl rfl rfl Try.isAgg120 Try.sizeOf120 rfl rfl⟩) ?_
    refine ak (fun γ => ⟨rfl, fun w' => ex_bsO (w := w') rfl rfl⟩) ?_
    exact trivial
  case hla2 => exact ⟨⟨_, _, rfl, rfl, fun γ => ⟨rfl, fun w' => rfl⟩⟩, trivial⟩
  intro γ w3 l hM hl
  have H3 : Hid (Mm w3 [(γ 6, uoc o), (γs2, [Value.int .i64 ((o.st : Nat) : Int), Value.slice o.q.p o.q.n o.q.cp]), (g, [Value.slice ps n cs, Value.slice pu ops.length cu, Value.bool fr])] ∧ _) := growB H2 hM (Nat.le_refl _) hl [6] rfl (by decide)
  have o2_6 := ownB H2 hM (Nat.le_refl _) hl (i := 6) rfl
  clear hM hl l H2
  generalize γ 6 = γ2_6 at H3 o2_6 ⊢
  clear γ
  obtain ⟨vr, w4, hr, hO, hG, h5⟩ := own_appO (own_keep (w' := w3) fi.out.und (fun b hb => H3.out.2.block b (own_lt fi.out.und b hb))) o (H3.out.1.get 0 rfl 0 rfl) (H3.out.1.get 0 rfl 1 rfl) hm 115
  refine ⟨vr, w4, ex_appO rfl rfl rfl hr, ?_⟩
  have hC : Chg (g :: vbl (Value.slice pu ops.length cu)) w w4 := (Chg.of H3.out.2).trans (Chg.grown hG) (fun x hx => .inl (List.mem_cons_of_mem _ hx))
  have hM : Mm w4 [(g, [Value.slice ps n cs, Value.slice pu ops.length cu, Value.bool fr])] := (Chg.grown hG).mm (H3.out.1.one 2 rfl) (fun p hp => by obtain rfl := List.mem_singleton.1 hp; exact ap.out.gu)
  have hV : Hid (∀ x ∈ vbl vr, x ∈ vbl (Value.slice pu ops.length cu) ∨ w.heap.size ≤ x) := vbl_new h5 H3.out.2.size rfl
  have hs1 : Hid _ := own_st hO
  have hOO : Hid _ := hO
  have H4 : Hid (Mm w4 [(g, [Value.slice ps n cs, Value.slice pu ops.length cu, Value.bool fr])] ∧ Chg (g :: vbl (Value.slice pu ops.length cu)) w w4) := ⟨hM, hC⟩
  clear hr hO hG h5 hC hM H3
  refine rest_at (l := [8, 9, 10]) rfl ?_
  refine rest_set (d := 12) (v := PT g 0) (w' := w4) rfl rfl rfl (by go_simp) ?_
  simp only [Act.put, sa, sz, ss]
  refine rest_set (d := 13) (v := PT g 1) (w' := w4) rfl rfl rfl (by go_simp) ?_
  simp only [Act.put, sa, sz, ss]
  refine rest_store rfl rfl rfl (ex_st1 (v := vr) H4.out.1 0 rfl rfl Try.sizeOf115 rfl rfl (hs1.out) (Nat.le_of_ble_eq_true rfl)) ?_
  have H5 : Hid (Mm (w4.setCells g 1 [vr]) [(g, [Value.slice ps n cs, vr, Value.bool fr])] ∧ Chg (g :: vbl (Value.slice pu ops.length cu)) w (w4.setCells g 1 [vr])) := ⟨H4.out.1.put 0 (off := 1) (vs := [vr]) rfl (Nat.le_of_ble_eq_true rfl), Chg.put H4.out.2 (.inl (List.mem_cons_self ..))⟩
  clear H4
  have hO2 : Hid (World.ownsRow (World.setCells w4 g 1 [vr]) 0 120 2 vr (ops ++ [o]).length (opc (ops ++ [o]))) := own_keep hOO.out (fun b hb => heap_setCells g b (fun e => by subst e; rcases hV.out b hb with h | h; exact ap.out.gu h; exact absurd hg (Nat.not_lt.2 h)) _ _ _)
  clear hOO
  generalize hgw : World.setCells _ _ _ _ = w5 at hO2 H5 ⊢
  clear hgw
  refine rest_nil ?_
  refine bodyPost_end (v := .tuple #[]) (by simp [results, Try.results69, go_sem]) rfl ?_
  exact ⟨rfl, vr, H5.out.1, fi.out.begun ap.out H5.out.2 hO2.out hok.out hap.out, H5.out.2, hV.out⟩
end Wi
end Rg
end Go.Proofs.Ytidicdlfjdlpnaa
end
section
namespace Go.Proofs.Ytidicdlfjdlpnaa
open Go.RowKit
namespace Rg
section
variable {P : Program} {ops : Array Oper} {ks : List Kind} {a₀ : Act} {w₀ : World} {Q : Exit → Act → World → Prop}
theorem first_enterV {full : Array Oper} {n p : Nat} {op : Oper} {d : Nat} (hO : Orderly ops ks n) (hn : n = a₀.tmps.size) (hL : LaidOk ks ks) {S : World → Prop} (hS : ∀ w, Below w₀.heap.size w₀ w → S w)
    (hp : ops.size = p) (hpf : p + 1 ≤ full.size) (hfull : ∀ i, i < p → full[i]? = ops[i]?) (hgd : ∀ {i : Nat} {o : Oper} {g : Nat} {b : Bool}, ops[i]? = some o → o.guard = some (g, b) → g < p)
    (hup : ∀ {i : Nat} {o : Oper}, full[i]? = some o → ∀ e ∈ o.after, Region.binds .any e = true → e.on < i)
    (hop : full[p]? = some op) (hdst : op.dst = some d) (hdn : d < n) (hdo : ∀ (j : Nat) (oj : Oper), ops[j]? = some oj → oj.dst ≠ some d) (hgu : op.guard = none) (hsel : ∀ cs b, op.op ≠ .select cs b)
    {late : List Nat} (hwp : ∀ j, j < p → waitsT full 12 op j = true ∨ j ∈ late) (hlook : ∀ d ∈ op.looksAt full, ∀ j oj, ops[j]? = some oj → oj.dst = some d → waitsT full 12 op j = true)
    (hwt : ∀ {i : Nat} {o : Oper}, full[i]? = some o → p + 1 ≤ i → ∀ j, j < i → waitsT full 12 o j = true)
    (hlate : ∀ v, LateOk P ops ks (fun γ => fill γ 0 ops.toList ks (a₀.put (some d) v)) late)
    (hops : AllOk P ops S (fun γ => fill γ 0 ops.toList ks a₀) ops.toList ks)
    (hend : ∀ γ w l, Mem ks w₀ l γ w → (∀ i, i < p → l.getD i false = true) → ∃ (f : FuncId) (args : Array Value) (R : Value → World → Prop), (execOp (fill γ 0 ops.toList ks a₀).eval op).run P w = .ok (.enter f args) w ∧ Calls P f args w (fun e w' => ∃ v, e = .returned v ∧ R v w') ∧ ∀ v w', R v w' → wpOps P full Q (List.range' (p + 1) (full.size - (p + 1))) (fill γ 0 ops.toList ks (a₀.put (some d) v)) w') :
    ∀ (fuel : Nat) (l : Array Bool) (γ : Nat → Nat) (a : Act) (w : World), l.size = full.size → l.toList.count false ≤ fuel → Closed full l → (∀ i, p ≤ i → i < full.size → l.getD i true = false) → Agree ops ks a₀ l γ a → Mem ks w₀ l γ w → wpAny P .any full Q fuel l a w := by
  intro fuel
  induction fuel with
  | zero =>
    intro l γ a w hsz hc hcl ht hA hM
    have := count_set (ht p (Nat.le_refl _) (by omega))
    omega
  | succ fuel ih =>
    intro l γ a w hsz hc hcl ht hA hM
    have hpu := ht p (Nat.le_refl _) (by omega)
    refine ⟨fun hr => ?_, fun i hi => ?_⟩
    · have := ready_all hup hsz hr p (by omega)
      rw [(getD_same hpu).1] at this
      cases this
    · obtain ⟨hun, o, ho, hedge⟩ := mem_ready.1 hi
      have hilt : i < full.size := (Array.getElem?_eq_some_iff.1 ho).1
      have hc' := count_set hun
      have hip1 : i < p + 1 := by
        rcases Nat.lt_or_ge i (p + 1) with h' | h'
        · exact h'
        · have := waitsT_spec hcl 12 o (hwt ho h' p (by omega)) hedge
          rw [(getD_same hpu).1] at this
          cases this
      by_cases hip : i = p
      · subst hip
        have ho2 := ho
        rw [hop] at ho
        injection ho with ho
        subst ho
        have hbefore : ∀ j, j < i → j ∉ late → l.getD j false = true := fun j hj hnl => by
          rcases hwp j hj with h | h
          · exact waitsT_spec hcl 12 _ h hedge
          · exact absurd h hnl
        obtain ⟨l', hM', hs', hl1, hl2⟩ := mem_late (hlate undef) hM
        have hfin : ∀ j, j < i → l'.getD j false = true := fun j hj => by
          by_cases h : j ∈ late
          · exact hl2 j h (by omega)
          · exact hl1 j (hbefore j hj h)
        obtain ⟨f, args, R, hx, hcall, hQ⟩ := hend γ w l' hM' hfin
        have he := see_all (full := full) hA hsel (fun d hd j oj hj hdj => waitsT_spec hcl 12 _ (hlook d hd j oj hj hdj) hedge)
        refine wpOp_step hop (fun K' hK => ?_)
        have hwn : Region.wanted op (yielded full a.tmps) = true := by unfold Region.wanted; rw [hgu]
        rw [if_pos hwn]
        unfold Oper.wp
        rw [he, hx]
        refine Calls.mono hcall ?_
        rintro _ w1 ⟨v, rfl, hR⟩
        have hA' : Agree ops ks (a₀.put (some d) v) (l.setIfInBounds i true) γ (a.put op.dst v) := by
          rw [hdst]
          refine ⟨by rw [put_defers', put_defers']; exact hA.defers, by rw [put_size, put_size]; exact hA.size, fun t ht => ?_⟩
          by_cases e : t = d
          · subst e
            rw [fill_off γ t ops.toList ks _ 0 (fun j' oj hj => hdo j' oj (by simpa using hj))]
            simp only [Act.put, Array.getElem?_setIfInBounds]
            rw [if_pos trivial, if_pos trivial, hA.size]
          · have h0 := hA.slots t (fun j oj hj hdj => by
              have h1 := ht j oj hj hdj
              have hj' : j < i := by rw [← hp]; exact (Array.getElem?_eq_some_iff.1 hj).1
              rwa [getD_set_ne false (by omega)] at h1)
            rw [fill_put γ d v ops.toList ks a₀ 0 (fun j' oj hj => hdo j' oj (by simpa using hj))]
            simp only [Act.put, Array.getElem?_setIfInBounds]
            rw [if_neg (fun h => e h.symm), if_neg (fun h => e h.symm)]
            exact h0
        refine hK _ _ (after_putU (a₀ := a₀.put (some d) v) hO (by rw [put_size]; exact hn) hp hpf hfull hgd hup hwt (hlate v) (hQ v w1 hR) fuel _ _ (by simp [hsz]) (by omega) (hcl.step ho2 hedge) (fun j hj hj2 => ?_) (fun j hj hj2 => ?_) hA')
        · by_cases e : i = j
          · subst e
            have hi' : i < l.size := by omega
            simp [hi'] at hj2
          · rw [getD_set_ne true e] at hj2
            apply Classical.byContradiction
            intro hnl
            have := hbefore j (by omega) hnl
            rw [(getD_same hj2).1] at this
            cases this
        · rw [getD_set_ne true (by omega)]
          exact ht j (by omega) hj2
      · have hlt : i < p := by omega
        have ho' : ops[i]? = some o := by rw [← hfull i hlt]; exact ho
        refine kind_step hO hn hL hS hfull hgd hops hA hM hlt ho' hun hedge (fun γ' a' w' hA' hM' => ?_)
        exact ih _ γ' a' w' (by simp [hsz]) (by omega) (hcl.step ho hedge) (fun j hj hj2 => by rw [getD_set_ne true (by omega)]; exact ht j hj hj2) hA' hM'
theorem walk_enterV {full : Array Oper} {a : Act} {w : World} {id : Nat} (hm : P.follows .mixedOrders = true) (p : Nat) (late : List Nat) (ks : List Kind) (S : World → Prop) (pre : List Oper) (F : (Nat → Nat) → Act) (F' : Value → (Nat → Nat) → Act) (op : Oper) (d : Nat) (hpre : full.toList.take p = pre)
    (hF : ∀ γ, fill γ 0 pre ks a = F γ) (hF' : ∀ v γ, fill γ 0 pre ks (a.put (some d) v) = F' v γ) (hor : (orderly pre.toArray ks a.tmps.size && guarded pre.toArray p && enterly full p d a.tmps.size late) = true) (hop : full[p]? = some op) (hL : LaidOk ks ks) (hS : ∀ w', Below w.heap.size w w' → S w')
    (hops : AllOk P pre.toArray S F pre ks) (hlate : ∀ v, LateOk P pre.toArray ks (F' v) late)
    (hend : ∀ γ w' l, Mem ks w l γ w' → (∀ i, i < p → l.getD i false = true) → ∃ (f : FuncId) (args : Array Value) (R : Value → World → Prop), (execOp (F γ).eval op).run P w' = .ok (.enter f args) w' ∧ Calls P f args w' (fun e w'' => ∃ v, e = .returned v ∧ R v w'') ∧ ∀ v w'', R v w'' → wpOps P full Q (List.range' (p + 1) (full.size - (p + 1))) (F' v γ) w'') :
    (Code.region id full true).wp P Q a w := by
  subst hpre
  obtain rfl : (fun γ => fill γ 0 (full.toList.take p) ks a) = F := funext hF
  obtain rfl : (fun v γ => fill γ 0 (full.toList.take p) ks (a.put (some d) v)) = F' := funext fun v => funext (hF' v)
  simp only [Bool.and_eq_true] at hor
  obtain ⟨⟨h1, h2⟩, h3⟩ := hor
  unfold enterly at h3
  rw [hop] at h3
  simp only [Bool.and_eq_true, decide_eq_true_eq, Option.isNone_iff_eq_none, beq_iff_eq] at h3
  obtain ⟨⟨⟨⟨⟨⟨h5, h6⟩, h7⟩, ⟨⟨h8, h9⟩, h10⟩, h11⟩, h12⟩, h13⟩, h14⟩ := h3
  have hsz : (full.toList.take p).toArray.size = p := by simp; omega
  have hfu : ∀ i, i < p → full[i]? = (full.toList.take p).toArray[i]? := fun i hi => by rw [← take_arr]; exact first_full hi
  refine wp_region_any hm (first_enterV (ops := (full.toList.take p).toArray) (Orderly.of h1) rfl hL hS hsz h6 hfu (fun ho hg => guarded_spec h2 ho hg) (fun ho e he hb => ?_) hop h8 h13 (fun j oj hj => ?_) h9 (fun cs b => Region.noSelect_spec h7 p op cs b hop) (late := late) (fun j hj => ?_) (fun d hd j oj hj hdj => ?_) (fun ho hi j hj => ?_) hlate hops hend full.size _ (fun _ => 0) a w.drew (by simp) (by simp) (Closed.none _ _) (fun i _ hi => none_listed' hi) (start_agree _ _) (start_mem _ _ (Below.refl _ _).drew))
  · have := Array.all_eq_true_iff_forall_mem.1 (eachOp_spec h5 ho) e he
    simpa [hb] using this
  · have hj' : j < p := by rw [← hsz]; exact (Array.getElem?_eq_some_iff.1 hj).1
    have := eachOp_spec h14 (by rw [hfu j hj']; exact hj)
    simp only [Bool.or_eq_true, decide_eq_true_eq, bne_iff_ne, ne_eq] at this
    rcases this with h | h
    · omega
    · exact h
  · have := List.all_eq_true.1 h10 j (List.mem_range.2 hj)
    simpa using this
  · have hj' : j < p := by rw [← hsz]; exact (Array.getElem?_eq_some_iff.1 hj).1
    have := eachOp_spec (List.all_eq_true.1 h11 d hd) (by rw [hfu j hj']; exact hj)
    simp only [hdj, bne_self_eq_false, Bool.false_or, Bool.or_eq_true, decide_eq_true_eq] at this
    rcases this with h | h
    · exact h
    · omega
  · have := eachOp_spec h12 ho
    simp only [Bool.or_eq_true, decide_eq_true_eq] at this
    rcases this with h | h
    · omega
    · exact List.all_eq_true.1 h j (List.mem_range.2 hj)
end
end Rg
end Go.Proofs.Ytidicdlfjdlpnaa
end
