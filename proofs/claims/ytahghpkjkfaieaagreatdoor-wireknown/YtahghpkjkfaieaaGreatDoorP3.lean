/- Texts of the proof, joined. -/
import Derived.Test.YtahghpkjkfaieaaGreatDoorP2
import Derived.Below
import Derived.BigQuiet
import Derived.ChangeKeysEq
import Derived.Deep.OwnRows
import Derived.Deep.RegionHeld3
import Derived.Laws.AppendOwn
import Derived.Laws.Bits64b
import Derived.Laws.Build
import Derived.Laws.BytesArg
import Derived.Laws.IdiomCopy
import Derived.Laws.NewBlocks
import Derived.Laws.OwnMore
import Derived.Laws.Pointers
import Derived.Laws.Shifts
import Derived.Laws.Unary
import Derived.Lib.Bytes
import Derived.Lib.SliceRun
import Derived.Lib.Slices
import Derived.Lib.Small
import Derived.Lib.Strings
import Derived.Lib.Walk
import Derived.LoopN
import Derived.Maps.AppendAt
import Derived.Orders
import Derived.RegionTactic
import Derived.WalkKit
import Derived.WalkSmall
import Derived.WalkSpells
set_option maxRecDepth 100000
section
namespace Go.Proofs.YtahghpkjkfaieaaGreatDoor
open Go.RowKit
namespace Rg
namespace Wi
abbrev U (n : Nat) : Value := .int .u64 (n : Int)
abbrev Z8 (n : Nat) : Value := .int .u8 (n : Int)
theorem ex_loadT {ρ : Operand → Value} {o : Oper} {x : Operand} {g off n : Nat} {t : TypeId} {cs ms : List Value} {w : World} {l : List (Nat × List Value)} (h : Mm w l) (q : Nat) (hk : l[q]? = some (g, cs)) (ho : o.op = .load t x) (hx : ρ x = PT g off) (ha : ∀ w, (isAgg t).run Tryz.prog w = .ok true w) (hs : ∀ w, (sizeOf t).run Tryz.prog w = .ok n w) (hc : (cs.drop off).take n = ms) (hl : ms.length = n) :
  (execOp ρ o).run Tryz.prog w = .ok (.value (.agg ms.toArray)) w := by
 have hm := List.mem_of_getElem? hk
 have hcell := run_loadCells_list (P := Tryz.prog) (w := w) ⟨g, off, none⟩ ms (fun j v hv => by
  have e : cs[off + j]? = some v := by
   rw [← List.getElem?_drop]
   rw [← hc, List.getElem?_take] at hv
   split at hv
   ·exact hv
   ·cases hv
  have e2 := h.cell hm e
  rw [show (⟨g, off, none⟩ : Addr).add j = ⟨g, off + j, none⟩ from by unfold Addr.add; split <;> simp_all]
  exact e2)
 rw [hl] at hcell
 have hf : (loadCellsFrom ⟨g, off, none⟩ 0 n #[]).run Tryz.prog w = .ok ms.toArray w := hcell
 clear hcell hc hk hm h
 simp only [execOp, ho, hx]
 go_simp
theorem zJ {ρ : Operand → Value} {o : Oper} {x : Operand} {g off : Nat} {t : TypeId} {v : Value} {cs : List Value} {w : World} {l : List (Nat × List Value)} (h : Mm w l) (k : Nat) (hk : l[k]? = some (g, cs)) (ho : o.op = .load t x) (hx : ρ x = PT g off) (ha : ∀ w, (isAgg t).run Tryz.prog w = .ok false w) (hc : cs[off]? = some v) :
  (execOp ρ o).run Tryz.prog w = .ok (.value v) w := by
 have c0 := h.cell (List.mem_of_getElem? hk) hc
 clear h hk hc
 simp only [execOp, ho, hx]
 go_simp
theorem lC {ρ : Operand → Value} {o : Oper} {x : Operand} {g off : Nat} {t : TypeId} {v : Value} {cs : List Value} {w : World} {l : List (Nat × List Value)} (h : Mm w l) (k : Nat) (ha : ∀ w, (isAgg t).run Tryz.prog w = .ok false w) (hk : l[k]? = some (g, cs) := by exact rfl) (ho : o.op = .load t x := by exact rfl) (hx : ρ x = PT g off := by exact rfl) (hc : cs[off]? = some v := by exact rfl) : (execOp ρ o).run Tryz.prog w = .ok (.value v) w := zJ h k hk ho hx ha hc
theorem lT {ρ : Operand → Value} {o : Oper} {x : Operand} {g off n : Nat} {t : TypeId} {cs ms : List Value} {w : World} {l : List (Nat × List Value)} (h : Mm w l) (q : Nat) (ha : ∀ w, (isAgg t).run Tryz.prog w = .ok true w) (hs : ∀ w, (sizeOf t).run Tryz.prog w = .ok n w) (hk : l[q]? = some (g, cs) := by exact rfl) (ho : o.op = .load t x := by exact rfl) (hx : ρ x = PT g off := by exact rfl) (hc : (cs.drop off).take n = ms := by exact rfl) (hl : ms.length = n := by exact rfl) : (execOp ρ o).run Tryz.prog w = .ok (.value (.agg ms.toArray)) w := ex_loadT h q hk ho hx ha hs hc hl
theorem bC {ops : Array Oper} {L : List (Nat × List Value)} {F : (Nat → Nat) → Act} {o : Oper} {os : List Oper} {ks : List Kind} {x : Operand} {g off : Nat} {cs : List Value} {t : TypeId} {v : Value} (k : Nat) (ha : ∀ w, (isAgg t).run Tryz.prog w = .ok false w) (hs : AllOk Tryz.prog ops (fun w' => Mm w' L) F os ks) (hw : ∀ J, Region.wanted o (yielded ops (F J).tmps) = true := by exact fun _ => rfl) (hk : L[k]? = some (g, cs) := by exact rfl) (ho : o.op = .load t x := by exact rfl) (hx : ∀ J, (F J).eval x = PT g off := by exact fun _ => rfl) (hc : cs[off]? = some v := by exact rfl) : AllOk Tryz.prog ops (fun w' => Mm w' L) F (o :: os) (.q v :: ks) := ⟨fun J => ⟨hw J, fun _ h => zJ h k hk ho (hx J) ha hc⟩, hs⟩
theorem bT {ops : Array Oper} {L : List (Nat × List Value)} {F : (Nat → Nat) → Act} {o : Oper} {os : List Oper} {ks : List Kind} {x : Operand} {g off : Nat} {cs : List Value} {n : Nat} {t : TypeId} {ms : List Value} (k : Nat) (ha : ∀ w, (isAgg t).run Tryz.prog w = .ok true w) (hz : ∀ w, (sizeOf t).run Tryz.prog w = .ok n w) (hs : AllOk Tryz.prog ops (fun w' => Mm w' L) F os ks) (hw : ∀ J, Region.wanted o (yielded ops (F J).tmps) = true := by exact fun _ => rfl) (hk : L[k]? = some (g, cs) := by exact rfl) (ho : o.op = .load t x := by exact rfl) (hx : ∀ J, (F J).eval x = PT g off := by exact fun _ => rfl) (hc : (cs.drop off).take n = ms := by exact rfl) (hl : ms.length = n := by exact rfl) : AllOk Tryz.prog ops (fun w' => Mm w' L) F (o :: os) (.q (.agg ms.toArray) :: ks) := ⟨fun J => ⟨hw J, fun _ h => ex_loadT h k hk ho (hx J) ha hz hc hl⟩, hs⟩
theorem ex_boxT {ρ : Operand → Value} {o : Oper} {x : Operand} {t : TypeId} {cs : List Value} {w : World} (ho : o.op = .box t x) (hx : ρ x = .agg cs.toArray) :
  (execOp ρ o).run Tryz.prog w = .ok (.value (.pointer (some ⟨w.heap.size, 0, none⟩))) (w.alloc (.cells cs.toArray t)) := by
 simp only [execOp, ho, hx]
 go_simp
theorem ex_storeT {ρ : Operand → Value} {o : Oper} {x y : Operand} {g off : Nat} {t : TypeId} {cs vs : List Value} {w : World} {l : List (Nat × List Value)} (h : Mm w l) (q : Nat) (hk : l[q]? = some (g, cs)) (ho : o.op = .store t x y) (hx : ρ x = PT g off) (hy : ρ y = .agg vs.toArray) (hs : ∀ w, (sizeOf t).run Tryz.prog w = .ok vs.length w) (h1 : vs.all Value.oneCell' = true) (hb : off + vs.length ≤ cs.length) :
  (execOp ρ o).run Tryz.prog w = .ok .skip (w.setCells g off vs) := by
 have hm := List.mem_of_getElem? hk
 have hq : ∀ j, j < vs.length → ∃ u, cs[off + j]? = some u := fun j hj => ⟨_, List.getElem?_eq_getElem (by omega)⟩
 have hst := run_storeCells_cells (P := Tryz.prog) g off vs 0 w (fun j hj => by
  obtain ⟨u, hu⟩ := hq j hj
  rw [show off + 0 + j = off + j by omega, h.cell hm hu]; rfl) (fun j hj => by
  obtain ⟨u, hu⟩ := hq j hj
  rw [show off + 0 + j = off + j by omega]; exact h.free hm hu) (List.all_eq_true.1 h1)
 clear h hm hq hb hk
 simp only [execOp, ho, hx, hy]
 go_simp
theorem var_T {g n : Nat} {t : TypeId} {cs : List Value} {w : World} {l : List (Nat × List Value)} (h : Mm w l) (q : Nat) (hk : l[q]? = some (g, cs)) (ha : ∀ w, (isAgg t).run Tryz.prog w = .ok true w) (hs : ∀ w, (sizeOf t).run Tryz.prog w = .ok n w) (hn : cs.length = n) : (loadVar t ⟨g, 0, none⟩).run Tryz.prog w = .ok (.agg cs.toArray) w := by
 have hm := List.mem_of_getElem? hk
 have hcell := run_loadCells_list (P := Tryz.prog) (w := w) ⟨g, 0, none⟩ cs (fun j v hv => by
  have e2 := h.cell hm hv
  rw [show (⟨g, 0, none⟩ : Addr).add j = ⟨g, j, none⟩ from by unfold Addr.add; split <;> simp_all]
  exact e2)
 rw [hn] at hcell
 have hf : (loadCellsFrom ⟨g, 0, none⟩ 0 n #[]).run Tryz.prog w = .ok cs.toArray w := hcell
 clear hcell h hk hm
 simp only [loadVar]
 go_simp
def slotfn (l : List Value) (d : Nat) : Value := l.getD d undef
/-- Sums, products of bits, of numbers by 2^32. -/
def ad (a b : Nat) : Nat := (a + b) % 4294967296
def an (a b : Nat) : Nat := (a &&& b) % 4294967296
def ou (a b : Nat) : Nat := (a ||| b) % 4294967296
def xo (a b : Nat) : Nat := (a ^^^ b) % 4294967296
def nt (a : Nat) : Nat := xo 4294967295 a
def sl (a k : Nat) : Nat := a * 2 ^ k % 4294967296
def sr (a k : Nat) : Nat := a / 2 ^ k
def c32 (a : Nat) : Nat := a % 4294967296
def c64 (a : Nat) : Nat := a % 18446744073709551616
section
variable {ρ : Operand → Value} {o : Oper} {x y : Operand} {a b k : Nat} {w : World}
end
/-- A row of numbers of one kind. -/
def zH (ik : IntKind) (f : Nat → Nat) (n : Nat) : List Value := (List.range n).map fun j => .int ik (f j : Int)
theorem ints_len (ik : IntKind) (f : Nat → Nat) (n : Nat) : (zH ik f n).length = n := by simp [zH]
theorem ints_get (ik : IntKind) (f : Nat → Nat) {n j : Nat} (h : j < n) : (zH ik f n)[j]? = some (.int ik (f j : Int)) := by
 unfold zH
 rw [List.getElem?_map, List.getElem?_eq_getElem (by simpa using h), List.getElem_range]
 rfl
theorem ints_none (ik : IntKind) (f : Nat → Nat) {n j : Nat} (h : n ≤ j) : (zH ik f n)[j]? = none := List.getElem?_eq_none (by rw [ints_len]; exact h)
theorem ints_all (ik : IntKind) (f : Nat → Nat) (n : Nat) : (zH ik f n).all Value.oneCell' = true := by
 rw [List.all_eq_true]
 intro v hv
 obtain ⟨j, _, rfl⟩ := List.mem_map.1 hv
 rfl
theorem ints_congr {ik : IntKind} {f f' : Nat → Nat} {n : Nat} (h : ∀ j, j < n → f j = f' j) : zH ik f n = zH ik f' n := by
 unfold zH
 exact List.map_congr_left fun j hj => by rw [h j (by simpa using hj)]
def up (f : Nat → Nat) (k v : Nat) : Nat → Nat := fun j => if j = k then v else f j
set_option maxRecDepth 100000
section
variable {ρ : Operand → Value} {o : Oper} {x y : Operand} {g off j n : Nat} {w : World}
end
structure Rs (gb o n : Nat) (f : Nat → Nat) (w : World) : Prop where
 lt : 0 < n → gb < w.heap.size
 at_ : ∀ i, i < n → w.cell? ⟨gb, o + i, none⟩ = some (Z8 (f i))
theorem Rs.below {gb o n : Nat} {f : Nat → Nat} {w w' : World} (h : Rs gb o n f w) (hb : Below w.heap.size w w') : Rs gb o n f w' :=
 ⟨fun hn => Nat.lt_of_lt_of_le (h.lt hn) hb.size, fun i hi => by rw [hb.cell (p := ⟨gb, o + i, none⟩) (h.lt (by omega))]; exact h.at_ i hi⟩
section
variable {ρ : Operand → Value} {o : Oper} {x y : Operand} {g off m c j k n : Nat} {f : Nat → Nat} {w : World}
theorem ex_ixS22 (ho : o.op = .indexAddr 51 x y) (hx : ρ x = .slice (some ⟨g, off, none⟩) m c) (hy : ρ y = .int .i64 ((j : Nat) : Int)) (h : j < m) : (execOp ρ o).run Tryz.prog w = .ok (.value (PT g (off + j))) w := by
 simp only [execOp, ho, hx, hy]
 clear ho hx hy
 go_simp
end
section
variable {ρ : Operand → Value} {o : Oper} {x y : Operand} {a b : Nat} {w : World}
end
theorem Rs.add {g o n : Nat} {f : Nat → Nat} {w : World} (h : Rs g o n f w) (j : Nat) (hj : j < n) : w.cell? ((⟨g, o, none⟩ : Addr).add j) = some (Z8 (f j)) := by
 rw [show (⟨g, o, none⟩ : Addr).add j = ⟨g, o + j, none⟩ by unfold Addr.add; split <;> simp_all]
 exact h.at_ j hj
/-- A slice on its way: i of n bytes are taken. -/
def Bv (gb o n cp i : Nat) (v : Value) : Prop := (i < n → v = .slice (some ⟨gb, o + i, none⟩) (n - i) (cp - i)) ∧ (i = n → ∃ p c, v = .slice p 0 c)
section
variable {ρ : Operand → Value} {o : Oper} {x y : Operand} {g off m c j a : Nat} {w : World}
end
theorem info_byte : ∃ i, Tryz.prog.info? 5 = some i ∧ i.zero = some (.int .u8 0) ∧ i.size = 1 ∧ i.bytes = 1 := by
 have h : (Tryz.prog.info? 5).map (fun i => (i.zero, i.size, i.bytes)) = some (some (.int .u8 0), 1, 1) := by kernel_rfl
 cases hi : Tryz.prog.info? 5 with
 | none => rw [hi] at h; simp at h
 | some i =>
  rw [hi] at h
  simp at h
  exact ⟨i, rfl, h.1, h.2.1, h.2.2⟩
/-- A row, and another behind its first n. -/
def ct (P : Nat → Nat) (n : Nat) (Q : Nat → Nat) : Nat → Nat := fun j => if j < n then P j else Q (j - n)
theorem ints_cat (P Q : Nat → Nat) (n m : Nat) : zH .u8 P n ++ zH .u8 Q m = zH .u8 (ct P n Q) (n + m) := by
 apply List.ext_getElem?
 intro j
 unfold ct
 by_cases h : j < n
 ·rw [List.getElem?_append_left (by rw [ints_len]; exact h), ints_get _ _ h, ints_get _ _ (by omega), if_pos h]
 ·rw [List.getElem?_append_right (by rw [ints_len]; omega), ints_len]
  by_cases h2 : j < n + m
  ·rw [ints_get _ _ (by omega), ints_get _ _ h2, if_neg h]
  ·rw [ints_none _ _ (by omega), ints_none _ _ (by omega)]
theorem ct_snoc {P P' Q : Nat → Nat} {n : Nat} (h : Q 0 = P' n) (e : ∀ j, j < n → P j = P' j := by intro j _; rfl) (j : Nat) (hj : j < n + 1) : ct P n Q j = P' j := by
 unfold ct
 by_cases hn : j < n
 ·rw [if_pos hn, e j hn]
 ·rw [if_neg hn, show j = n by omega, Nat.sub_self, h]
/-- A slice of the call's own, n bytes long, beside blocks l. -/
structure Zo (w : World) (B : Nat) (l : List (Nat × List Value)) (vv : Value) (n : Nat) (P : Nat → Nat) (w' : World) : Prop where
 b : Below w.heap.size w w'
 lo : w.heap.size ≤ B
 hi : B ≤ w'.heap.size
 m : Mm w' l
 lt : ∀ p ∈ l, p.1 < B
 own : w'.ownsRow B 5 1 vv n (zH .u8 P n)
section
variable {w w1 w2 : World} {B n : Nat} {l : List (Nat × List Value)} {vv : Value} {P P' : Nat → Nat}
theorem Zo.size (h : Zo w B l vv n P w1) : w.heap.size ≤ w1.heap.size := h.b.size
theorem Zo.step (h : Zo w B l vv n P w1) (hb : Below w1.heap.size w1 w2) : Zo w B l vv n P w2 := by
 refine ⟨h.b.trans (hb.mono h.b.size), h.lo, Nat.le_trans h.hi hb.size, h.m.below hb, h.lt, h.own.1, ?_⟩
 rcases h.own.2 with ⟨h1, h2⟩ | ⟨g, cap, cur, h1, h2, h3, h4⟩
 ·exact .inl ⟨h1, h2⟩
 ·refine .inr ⟨g, cap, cur, h1, h2, ?_, h4⟩
  rw [hb.block g (Array.getElem?_eq_some_iff.1 h3).1]
  exact h3
theorem Zo.cg (h : Zo w B l vv n P w1) (e : ∀ j, j < n → P j = P' j) : Zo w B l vv n P' w1 := by
 have := h.own
 rw [ints_congr e] at this
 exact ⟨h.b, h.lo, h.hi, h.m, h.lt, this⟩
theorem Zo.nil (P : Nat → Nat) (w : World) : Zo w w.heap.size [] (.slice none 0 0) 0 P w := ⟨Below.refl _ _, Nat.le_refl _, Nat.le_refl _, Mm.nil w, fun p hp => (by cases hp), World.ownsRow_nil _ _ _ _⟩
theorem Zo.made (P : Nat → Nat) (hm : Mm w1 l) (hb : Below w.heap.size w w1) : Zo w w1.heap.size l (.slice (some ⟨w1.heap.size, 0, none⟩) 0 0) 0 P (w1.alloc (.cells #[] 5)) :=
 ⟨hb.alloc hb.size _, hb.size, by simp, hm.below ((Below.refl _ _).alloc (Nat.le_refl _) _), fun p hp => (hm.blk p hp).1, by simp [zH], .inr ⟨w1.heap.size, 0, #[], rfl, Nat.le_refl _, heap_alloc_new _ _, Nat.le_refl _, by unfold maxLen; omega, rfl, rfl⟩⟩
theorem Zo.app (h : Zo w B l vv n P w1) {a : Addr} (m c : Nat) (Q : Nat → Nat) (hr : ∀ j, j < m → w1.cell? (a.add j) = some (Z8 (Q j))) (hb : n + m ≤ 2097152) (ty : TypeId) :
  ∃ v' w2, (Builtin.append_ #[51, 51] ty #[vv, .slice (some a) m c]).run Tryz.prog w1 = .ok v' w2 ∧ Zo w B l v' (n + m) (ct P n Q) w2 := by
 obtain ⟨i0, hi, hz0, hz1, hz2⟩ := info_byte
 obtain ⟨v', w2, h1, h2, h3, _⟩ := run_append_own (P := Tryz.prog) w1 B 51 ty 5 i0 (.int .u8 0) 1 1 Tryz.underlying51 hi hz0 hz1 hz2 rfl (by decide) vv n _ h.own a m c (zH .u8 Q m) (by rw [ints_len]; omega)
  (fun j u hj => by
   have hjm : j < m := by
    have := (List.getElem?_eq_some_iff.1 hj).1
    rwa [ints_len] at this
   rw [ints_get _ _ hjm] at hj
   rw [hr j hjm]
   exact hj) (List.all_eq_true.1 (ints_all _ _ _)) (by unfold maxLen; omega) (by omega) h.hi
 have hb2 : Below B w1 w2 := (Below.refl _ _).grown h3 h.hi (fun k hk => (World.ownsRow.lt h.own k hk).1)
 rw [ints_cat] at h2
 exact ⟨v', w2, h1, h.b.trans (hb2.mono h.lo), h.lo, Nat.le_trans h.hi hb2.size, ⟨fun p hp => ⟨Nat.lt_of_lt_of_le (h.m.blk p hp).1 hb2.size, (h.m.blk p hp).2.below hb2 (h.lt p hp)⟩, h.m.nd⟩, h.lt, h2⟩
theorem Zo.rs {g cap : Nat} (h : Zo w B l (.slice (some ⟨g, 0, none⟩) n cap) n P w1) : Rs g 0 n P w1 := by
 have hc := World.ownsRow.cells h.own (g := g) rfl
 refine ⟨fun _ => (World.ownsRow.lt h.own g rfl).2, fun i hi => ?_⟩
 have := hc i _ (ints_get .u8 P hi)
 rw [show (⟨g, 0, none⟩ : Addr).add i = ⟨g, 0 + i, none⟩ by unfold Addr.add; split <;> simp_all] at this
 exact this
end
section
variable {ρ : Operand → Value} {o : Oper} {x y : Operand} {a : Nat} {w w2 : World} {vv sv v' : Value}
theorem ex_app (ho : o.op = .call { callee := .builtin .append, args := #[x, y], argTypes := #[51, 51] }) (hx : ρ x = vv) (hy : ρ y = sv) (hr : (Builtin.append_ #[51, 51] o.type #[vv, sv]).run Tryz.prog w = .ok v' w2) : (execOp ρ o).run Tryz.prog w = .ok (.value v') w2 := by
 unfold execOp
 simp only [ho, resolve, invoke, builtin, Sem.run_bind, Sem.run_pure, Result.andThen_ok, List.map_toArray, List.map_cons, List.map_nil, hx, hy, hr]
end
set_option maxRecDepth 100000
/-- Bytes that can be read: n of them, from o on, in block g. -/
structure Rd (g o n : Nat) (f : Nat → Nat) (w : World) : Prop where
 lt : g < w.heap.size
 at_ : ∀ i, i < n → w.cell? ⟨g, o + i, none⟩ = some (.int .u8 ((f i : Nat) : Int))
theorem Rd.below {g o n : Nat} {f : Nat → Nat} {w w' : World} (h : Rd g o n f w) (hb : Below w.heap.size w w') : Rd g o n f w' :=
 ⟨Nat.lt_of_lt_of_le h.lt hb.size, fun i hi => by rw [hb.cell (p := ⟨g, o + i, none⟩) h.lt]; exact h.at_ i hi⟩
/-- v is a slice whose bytes are xs, with room for c. -/
structure BSl (w : World) (xs : List Int) (c : Nat) (v : Value) : Prop where
 or : (∃ g o, v = .slice (some ⟨g, o, none⟩) xs.length c ∧ g < w.heap.size ∧ xs.length ≤ c ∧ ∀ i, i < xs.length → w.cell? ⟨g, o + i, none⟩ = some (.int .u8 (xs.getD i 0))) ∨ ∃ p, v = .slice p 0 c ∧ xs = []
theorem BSl.full {w : World} {xs : List Int} {c : Nat} (g o : Nat) (hg : g < w.heap.size) (hc : xs.length ≤ c) (h : ∀ i, i < xs.length → w.cell? ⟨g, o + i, none⟩ = some (.int .u8 (xs.getD i 0))) : BSl w xs c (.slice (some ⟨g, o, none⟩) xs.length c) := ⟨.inl ⟨g, o, rfl, hg, hc, h⟩⟩
theorem BSl.void {w : World} {xs : List Int} {c : Nat} (p : Option Addr) (hx : xs = []) : BSl w xs c (.slice p 0 c) := ⟨.inr ⟨p, rfl, hx⟩⟩
theorem BSl.each {w : World} {xs : List Int} {c : Nat} {M : (v : Value) → BSl w xs c v → Prop} (full : ∀ (g o : Nat) (hg : g < w.heap.size) (hc : xs.length ≤ c) (h : ∀ i, i < xs.length → w.cell? ⟨g, o + i, none⟩ = some (.int .u8 (xs.getD i 0))), M (.slice (some ⟨g, o, none⟩) xs.length c) (BSl.full g o hg hc h)) (void : ∀ (p : Option Addr) (hx : xs = []), M (.slice p 0 c) (BSl.void p hx)) {v : Value} (h : BSl w xs c v) : M v h := by
 rcases h with ⟨⟨g, o, rfl, hg, hc, h⟩ | ⟨p, rfl, hx⟩⟩
 ·exact full g o hg hc h
 ·exact void p hx
theorem BSl.below {w w' : World} {xs : List Int} {c : Nat} {v : Value} (h : BSl w xs c v) (hb : Below w.heap.size w w') : BSl w' xs c v := by
 cases h using BSl.each with
 | full g o hg hc h => exact .full g o (Nat.lt_of_lt_of_le hg hb.size) hc (fun i hi => by rw [hb.cell (p := ⟨g, o + i, none⟩) hg]; exact h i hi)
 | void p hx => exact .void p hx
theorem BSl.alloc {w : World} {xs : List Int} {c : Nat} {v : Value} (h : BSl w xs c v) (o : Obj) : BSl (w.alloc o) xs c v := h.below ((Below.refl _ _).alloc (Nat.le_refl _) _)
theorem BSl.text {w : World} {xs : List Int} {c : Nat} {v : Value} (h : BSl w xs c v) : (convert 51 9 v).run Tryz.prog w = .ok (.string (strOfNums xs)) w := by
 cases h using BSl.each with
 | full g o hg hc h => exact run_convert_bytes_arg (P := Tryz.prog) w 51 5 (by kernel_rfl) (by kernel_rfl) g o xs.length c xs rfl h 9 (by kernel_rfl)
 | void p hx =>
  subst hx
  cases p with
  | none => exact run_convert_bytes_nil (P := Tryz.prog) w 51 5 (by kernel_rfl) (by kernel_rfl) 0 c 9 (by kernel_rfl)
  | some a =>
   have hl : (loadCells a 0).run Tryz.prog w = .ok (([] : List Int).map (Value.int .u8)).toArray w := by simpa using run_loadCells_list (P := Tryz.prog) w a [] (by simp)
   rw [run_convert_bytes_string w 51 9 5 _ 0 c (by kernel_rfl) (by kernel_rfl) (by kernel_rfl), run_bytesToString w _ 0 c [] hl, foldl_push_bytes]
   rfl
set_option maxHeartbeats 400000 in
theorem same_any {xs : List Int} {c c' : Nat} {v v' : Value} (w : World) (h : BSl w xs c v) (h' : BSl w xs c' v') :
  Calls Tryz.prog 24 #[v, v'] w fun e w' => e = .returned (.bool true) ∧ w' = w := by
 have h1 := h.text
 have h2 := h'.text
 clear h h'
 go_enter Tryz.func24, Tryz.ntmps24
 go_wp2
 go_ret
 exact ⟨rfl, rfl⟩
theorem Rd.bsl {g o n c : Nat} {f : Nat → Nat} {w : World} (h : Rd g o n f w) (hc : n ≤ c) : BSl w ((List.range n).map fun i => ((f i : Nat) : Int)) c (.slice (some ⟨g, o, none⟩) n c) := by
 have hl : ((List.range n).map fun i => ((f i : Nat) : Int)).length = n := by simp
 have hb := BSl.full (w := w) (xs := (List.range n).map fun i => ((f i : Nat) : Int)) (c := c) g o h.lt (by rw [hl]; exact hc) (fun i hi => by
  rw [hl] at hi
  rw [h.at_ i hi]
  simp [List.getD, hi])
 rw [hl] at hb
 exact hb
def Row8 (w : World) (g n : Nat) (f : Nat → Int) : Prop := ∀ j, j < n → w.cell? ⟨g, j, none⟩ = some (.int .u8 (f j)) ∧ w.frozen? ⟨g, j, none⟩ = false
theorem Row8.made (w : World) (m t : Nat) : Row8 (w.alloc (.cells (madeCells #[.int .u8 0] m) t)) w.heap.size m (fun _ => 0) := by
 intro j hj
 refine ⟨?_, World.frozen?_alloc_at _ _ _ _ rfl⟩
 rw [World.cell?_alloc_at _ _ _ _ rfl]
 simp [madeCells, hj, Nat.mod_one]
theorem Row8.below {wr w1 : World} {g n : Nat} {f : Nat → Int} (h : Row8 wr g n f) {B : Nat} (hb : Below B wr w1) (hg : g < B) : Row8 w1 g n f :=
 fun j hj => ⟨by rw [hb.cell (p := ⟨g, j, none⟩) hg]; exact (h j hj).1, by rw [hb.frozen (p := ⟨g, j, none⟩) hg]; exact (h j hj).2⟩
theorem Row8.alloc {wr : World} {g n : Nat} {f : Nat → Int} (h : Row8 wr g n f) (hg : g < wr.heap.size) (o : Obj) : Row8 (wr.alloc o) g n f :=
 h.below ((Below.refl _ _).alloc (Nat.le_refl _) o) hg
theorem BSl.row {w : World} {g n : Nat} {f : Nat → Int} (hg : g < w.heap.size) (hr : ∀ j, j < n → w.cell? ⟨g, j, none⟩ = some (.int .u8 (f j))) (c : Nat) (hc : n ≤ c) : BSl w ((List.range n).map f) c (.slice (some ⟨g, 0, none⟩) n c) := by
 have h : BSl w ((List.range n).map f) c (.slice (some ⟨g, 0, none⟩) ((List.range n).map f).length c) := .full g 0 hg (by simpa using hc) (fun i hi => by
  have hi' : i < n := by simpa using hi
  rw [Nat.zero_add, hr i hi']
  simp [hi'])
 simpa using h
section
variable {ρ : Operand → Value} {o : Oper} {x y : Operand} {a b k : Nat} {w : World}
end
/-- A hash, cell by cell. -/
def hs (m : Bool) (s r : Nat → Nat) (c : Nat) : List Value := .bool m :: (zH .u32 s 8 ++ (zH .u8 r 64 ++ [U c]))
set_option maxRecDepth 100000
/-- Eight numbers, as a row. -/
def ei (a b c d e f g h : Nat) (j : Nat) : Nat := [a, b, c, d, e, f, g, h].getD j 0
section
variable {ρ : Operand → Value} {o : Oper} {x y : Operand} {g off j n : Nat} {w : World}
end
/-- A number turned to the right. -/
def ro (x k : Nat) : Nat := ou (sl x (32 - k)) (sr x k)
def sA (x : Nat) : Nat := xo (xo (ro x 7) (ro x 18)) (sr x 3)
def sB' (x : Nat) : Nat := xo (xo (ro x 17) (ro x 19)) (sr x 10)
def gA (x : Nat) : Nat := xo (xo (ro x 2) (ro x 13)) (ro x 51)
def gB (x : Nat) : Nat := xo (xo (ro x 6) (ro x 11)) (ro x 25)
section
variable {ρ : Operand → Value} {o : Oper} {x y : Operand} {k : Nat} {w : World}
end
set_option maxRecDepth 100000
/-- The tables. -/
def kT (j : Nat) : Nat := [1116352408, 1899447441, 3049323471, 3921009573, 961987163, 1508970993, 2453635748, 2870763221, 3624381080, 310598401, 607225278, 1426881987, 1925078388, 2162078206, 2614888103, 3248222580, 3835390401, 4022224774, 264347078, 604807628, 770255983, 1249150122, 1555081692, 1996064986, 2554220882, 2821834349, 2952996808, 3210313671, 3336571891, 3584528711, 113926993, 338241895, 666307205, 773529912, 1294757372, 1396182291, 1695183700, 1986661051, 2177026350, 2456956037, 2730485921, 2820302411, 3259730800, 3345764771, 3516065817, 3600352804, 4094571909, 275423344, 430227734, 506948616, 659060556, 883997877, 958139571, 1322822218, 1537002063, 1747873779, 1955562222, 2024104815, 2227730452, 2361852424, 2428436474, 2756734187, 3204031479, 3329325298].getD j 0
def fT (j : Nat) : Nat := ei 1779033703 3144134277 1013904242 2773480762 1359893119 2600822924 528734635 1541459225 j
/-- The words of a block. -/
def wd (x : Nat → Nat) (t : Nat) : Nat := ou (ou (ou (sl (c32 (x (4 * t))) 24) (sl (c32 (x (4 * t + 1))) 16)) (sl (c32 (x (4 * t + 2))) 8)) (c32 (x (4 * t + 3)))
def w0 (x : Nat → Nat) : Nat → Nat → Nat
 | 0 => fun _ => 0
 | n + 1 => up (w0 x n) n (wd x n)
def ws (v : Nat → Nat) : Nat → Nat → Nat
 | 0 => v
 | n + 1 => up (ws v n) (16 + n) (ad (ad (ad (sB' (ws v n (16 + n - 2))) (ws v n (16 + n - 7))) (sA (ws v n (16 + n - 15)))) (ws v n (16 + n - 16)))
/-- The eight numbers on their way. -/
structure St where
 a : Nat
 b : Nat
 c : Nat
 d : Nat
 e : Nat
 f : Nat
 g : Nat
 h : Nat
def pp (K w : Nat) (s : St) : Nat := ad (ad (ad (ad s.h (gB s.e)) (xo (an s.e s.f) (an (nt s.e) s.g))) K) w
def qq (s : St) : Nat := ad (gA s.a) (xo (xo (an s.a s.b) (an s.a s.c)) (an s.b s.c))
def stp (K w : Nat) (s : St) : St := ⟨ad (pp K w s) (qq s), s.a, s.b, s.c, ad s.d (pp K w s), s.e, s.f, s.g⟩
def rn (s w : Nat → Nat) : Nat → St
 | 0 => ⟨s 0, s 1, s 2, s 3, s 4, s 5, s 6, s 7⟩
 | t + 1 => stp (kT t) (w t) (rn s w t)
def mw (s w : Nat → Nat) : Nat → Nat := ei (ad (s 0) (rn s w 64).a) (ad (s 1) (rn s w 64).b) (ad (s 2) (rn s w 64).c) (ad (s 3) (rn s w 64).d) (ad (s 4) (rn s w 64).e) (ad (s 5) (rn s w 64).f) (ad (s 6) (rn s w 64).g) (ad (s 7) (rn s w 64).h)
/-- The eight numbers with one more block. -/
def mx (s x : Nat → Nat) : Nat → Nat := mw s (ws (w0 x 16) 48)
set_option maxRecDepth 100000
/-- The eight bytes of a number, the highest first. -/
def e8 (x : Nat) : Nat → Nat → Nat
 | 0 => fun _ => 0
 | n + 1 => up (e8 x n) n (sr x (56 - 8 * n) % 256)
/-- The bytes of the eight numbers. -/
def bo (s : Nat → Nat) : Nat → Nat → Nat
 | 0 => fun _ => 0
 | n + 1 => up (up (up (up (bo s n) (4 * n) (sr (s n) 24 % 256)) (4 * n + 1) (sr (s n) 16 % 256)) (4 * n + 2) (sr (s n) 8 % 256)) (4 * n + 3) (s n % 256)
theorem zU {P : Program} {c : Code} {Q : Exit → Act → World → Prop} {n : Nat} {a : Act} {w : World} (h : c.wp P (Exit.then (Code.rounds P c Q n) Q) a w) : Code.rounds P c Q (n + 1) a w := h
section
variable {ρ : Operand → Value} {o : Oper} {x y : Operand} {g : Nat} {f f' : Nat → Nat} {t : Bool} {w : World}
end
set_option maxRecDepth 100000
/-- Bytes put behind those that are there. -/
def pr8 (r : Nat → Nat) (k m : Nat) (F : Nat → Nat) : Nat → Nat := fun j => if k ≤ j ∧ j < k + m then F (j - k) else r j
/-- Bytes that can be read while block g changes. -/
structure Src (g gb o n : Nat) (f : Nat → Nat) (w : World) : Prop where
 lt : 0 < n → gb < w.heap.size
 ne : 0 < n → gb ≠ g
 at_ : ∀ i, i < n → w.cell? ⟨gb, o + i, none⟩ = some (Z8 (f i))
theorem Src.kp {g gb o n : Nat} {f : Nat → Nat} {w w' : World} (h : Src g gb o n f w) (k : Kp g w w') (i : Nat) (hi : i < n) : w'.cell? ⟨gb, o + i, none⟩ = some (Z8 (f i)) := by
 have e := k.block gb (h.lt (by omega)) (h.ne (by omega))
 rw [World.cell?_of_block (w := w) (a := ⟨gb, o + i, none⟩) e]
 exact h.at_ i hi
section
variable {ρ : Operand → Value} {o : Oper} {x y : Operand} {g off k l n c : Nat} {w : World}
end
set_option maxRecDepth 100000
def cl (r : Nat → Nat) (k : Nat) : Nat → Nat := fun j => if k ≤ j then 0 else r j
section
variable {ρ : Operand → Value} {o : Oper} {x : Operand} {g k c : Nat} {w : World}
end
/-- The digest that a hash comes to. -/
def fz (s r : Nat → Nat) (c : Nat) : Nat → Nat := if c % 64 < 56 then bo (mx s (pr8 (cl (up r (c % 64) 128) ((c % 64) + 1)) 56 8 (e8 (c64 (8 * c)) 8))) 8 else if c % 64 < 63 then bo (mx (mx s (cl (up r (c % 64) 128) ((c % 64) + 1))) (pr8 (fun _ => 0) 56 8 (e8 (c64 (8 * c)) 8))) 8 else bo (mx (mx s (up r (c % 64) 128)) (pr8 (fun _ => 0) 56 8 (e8 (c64 (8 * c)) 8))) 8
set_option maxRecDepth 100000
/-- A text of n letters. -/
def st (f : Nat → Nat) (n : Nat) : ByteArray := strOfNums ((List.range n).map fun j => (f j : Int))
section
variable {ρ : Operand → Value} {o : Oper} {x y : Operand} {g j a b : Nat} {f : Nat → Nat} {w : World}
end
set_option maxRecDepth 100000
section
variable {ρ : Operand → Value} {o : Oper} {x y : Operand} {j a b n : Nat} {f : Nat → Nat} {w : World}
end
set_option maxRecDepth 100000
section
variable {ρ : Operand → Value} {o : Oper} {x y : Operand} {g off m c j k n : Nat} {f : Nat → Nat} {w : World}
end
/-- A word's bytes, one by one. -/
def iw (v : Nat → Nat) (t : Nat) (y : Nat → Nat) : Nat → Nat → Nat
 | 0 => v
 | i + 1 => up (iw v t y i) t (ou (sl (iw v t y i t) 8) (c32 (y i)))
/-- The words of a block, as the document makes them. -/
def dw (P : Nat → Nat) (ap : Nat) : Nat → Nat → Nat
 | 0 => fun _ => 0
 | k + 1 => if k < 16 then iw (dw P ap k) k (fun i => P ((ap + (4 * k)) + i)) 4 else up (dw P ap k) k (ad (ad (ad (sB' (dw P ap k (k - 2))) (dw P ap k (k - 7))) (sA (dw P ap k (k - 15)))) (dw P ap k (k - 16)))
def xp (K W : Nat) (x : Nat → Nat) : Nat := ad (ad (ad (ad (x 7) (gB (x 4))) (xo (an (x 4) (x 5)) (an (nt (x 4)) (x 6)))) K) W
def xq (x : Nat → Nat) : Nat := ad (gA (x 0)) (xo (xo (an (x 0) (x 1)) (an (x 0) (x 2))) (an (x 1) (x 2)))
def xs (h K W : Nat → Nat) : Nat → Nat → Nat
 | 0 => h
 | k + 1 => ei (ad (xp (K k) (W k) (xs h K W k)) (xq (xs h K W k))) (xs h K W k 0) (xs h K W k 1) (xs h K W k 2) (ad (xs h K W k 3) (xp (K k) (W k) (xs h K W k))) (xs h K W k 4) (xs h K W k 5) (xs h K W k 6)
def hv (h x : Nat → Nat) : Nat → Nat → Nat
 | 0 => h
 | k + 1 => up (hv h x k) k (ad (hv h x k k) (x k))
/-- The eight numbers behind a block, as the document has it. -/
def db (h K P : Nat → Nat) (ap : Nat) : Nat → Nat := hv h (xs h K (dw P ap 64) 64) 8
set_option maxRecDepth 100000
section
variable {w w1 w2 : World} {B n : Nat} {l : List (Nat × List Value)} {vv : Value} {P P' : Nat → Nat}
end
section
variable {ρ : Operand → Value} {o : Oper} {x y : Operand} {a : Nat} {w w2 : World} {vv sv v' : Value}
end
/-- A number's bytes, the highest first. -/
def b8 (x : Nat) (j : Nat) : Nat := sr x (56 - 8 * j) % 256
set_option maxRecDepth 100000
section
variable {ρ : Operand → Value} {o : Oper} {x y : Operand} {a b : Nat} {w : World}
end
/-- Bytes at an address. -/
structure Ra (a : Addr) (n : Nat) (f : Nat → Nat) (w : World) : Prop where
 lt : 0 < n → a.block < w.heap.size
 at_ : ∀ j, j < n → w.cell? (a.add j) = some (Z8 (f j))
theorem add_block (a : Addr) (j : Nat) : (a.add j).block = a.block := by unfold Addr.add; split <;> rfl
theorem Ra.below {a : Addr} {n : Nat} {f : Nat → Nat} {w w' : World} (h : Ra a n f w) (hb : Below w.heap.size w w') : Ra a n f w' :=
 ⟨fun hn => Nat.lt_of_lt_of_le (h.lt hn) hb.size, fun j hj => by rw [hb.cell (p := a.add j) (by rw [add_block]; exact h.lt (by omega))]; exact h.at_ j hj⟩
/-- The message with its ending, as the document has it. -/
def zc (n : Nat) : Nat := (120 - (n + 1) % 64) % 64
def pn (n : Nat) : Nat := n + 1 + zc n + 8
def nb (n : Nat) : Nat := pn n / 64
def pz (f : Nat → Nat) (n : Nat) : Nat → Nat := fun j => if j < n then f j else if j = n then 128 else 0
def pd (f : Nat → Nat) (n : Nat) : Nat → Nat := ct (pz f n) (n + 1 + zc n) (b8 (c64 (8 * c64 n)))
def hd (P : Nat → Nat) : Nat → Nat → Nat
 | 0 => fT
 | k + 1 => db (hd P k) kT P (64 * k)
def ob (h : Nat → Nat) : Nat → Nat → Nat
 | 0 => fun _ => 0
 | i + 1 => up (ob h i) i (sr (h (i / 4)) (24 - (8 * (i % 4))) % 256)
/-- The digest of n bytes, as the document has it. -/
def ds (f : Nat → Nat) (n : Nat) : Nat → Nat := ob (hd (pd f n) (nb n)) 32
set_option maxRecDepth 100000
theorem _root_.Go.Proofs.YtahghpkjkfaieaaGreatDoor.Rg.Mm.rs {w : World} {l : List (Nat × List Value)} {f : Nat → Nat} {g m n : Nat} (h : Mm w l) (k : Nat) (hk : l[k]? = some (g, zH .u8 f m)) (hn : n ≤ m) : Rs g 0 n f w := by
 have hb := h.blk _ (List.mem_of_getElem? hk)
 exact ⟨fun _ => hb.1, fun i hi => by rw [Nat.zero_add]; exact (hb.2 i _ (ints_get .u8 f (by omega))).1⟩
theorem Bv.start (gb o n cp : Nat) : Bv gb o n cp 0 (.slice (some ⟨gb, o, none⟩) n cp) := ⟨fun _ => rfl, fun h => ⟨some ⟨gb, o, none⟩, cp, by rw [← h]⟩⟩
set_option maxRecDepth 100000
theorem _root_.Go.Proofs.YtahghpkjkfaieaaGreatDoor.Rg.Kp.join {g : Nat} {a b c : World} (h : Kp g a b) (k : Kp g b c) : Kp g a c :=
 ⟨k.os.trans h.os, k.tape.trans h.tape, k.output.trans h.output, Nat.le_trans h.size k.size, fun i hi hg => (k.block i (Nat.lt_of_lt_of_le hi h.size) hg).trans (h.block i hi hg)⟩
theorem Src.void (g gb o : Nat) (f : Nat → Nat) (w : World) : Src g gb o 0 f w := ⟨fun h => absurd h (by decide), fun h => absurd h (by decide), fun i hi => absurd hi (by omega)⟩
theorem Bv.void (gb o cp : Nat) (p : Option Addr) (c : Nat) : Bv gb o 0 cp 0 (.slice p 0 c) := ⟨fun h => absurd h (by decide), fun _ => ⟨p, c, rfl⟩⟩
set_option maxRecDepth 100000
theorem _root_.Go.Proofs.YtahghpkjkfaieaaGreatDoor.Rg.Mm.over {u w : World} {l : List (Nat × List Value)} {g : Nat} {cs : List Value} (h0 : Mm u l) (hge : u.heap.size ≤ g) (h1 : Mm w l) (hb : Blk w g cs) (hlt : g < w.heap.size) : Mm w ((g, cs) :: l) :=
 h1.cons hb hlt (fun p hp => by have := (h0.blk p hp).1; omega)
theorem Rs.void (g o : Nat) (f : Nat → Nat) (w : World) : Rs g o 0 f w := ⟨fun h => absurd h (by decide), fun i hi => absurd hi (by omega)⟩
section
variable {ρ : Operand → Value} {o : Oper} {x y : Operand} {g : Nat} {w : World}
end
set_option maxRecDepth 100000
/-- The numbers of a list that is handed in. -/
def Cz (p : Option Addr) (zs : List Int) (w : World) : Prop := ∀ g o, p = some ⟨g, o, none⟩ → ∀ i, i < zs.length → g < w.heap.size ∧ w.cell? ⟨g, o + i, none⟩ = some (.int .i64 (zs.getD i 0))
theorem Cz.below {p : Option Addr} {zs : List Int} {w w' : World} (h : Cz p zs w) (hb : Below w.heap.size w w') : Cz p zs w' := fun g o e i hi => by
 obtain ⟨h1, h2⟩ := h g o e i hi
 exact ⟨Nat.lt_of_lt_of_le h1 hb.size, by rw [hb.cell (p := ⟨g, o + i, none⟩) h1]; exact h2⟩
section
variable {ρ : Operand → Value} {o : Oper} {x y : Operand} {g off m c j : Nat} {w : World}
end
set_option maxRecDepth 100000
/-- A part handed in: its slice, and where its bytes lie. -/
structure Pt8 where
 gb : Nat
 o : Nat
 n : Nat
 cp : Nat
 p : Option Addr
 f : Nat → Nat
/-- m parts lie in the list that pl begins. -/
def Ls (pl : Option Addr) (P : Nat → Pt8) (m : Nat) (w : World) : Prop := ∀ g o, pl = some ⟨g, o, none⟩ → ∀ i, i < m → g < w.heap.size ∧ w.cell? ⟨g, o + i, none⟩ = some (.slice (P i).p (P i).n (P i).cp) ∧ Rs (P i).gb (P i).o (P i).n (P i).f w
theorem Ls.below {pl : Option Addr} {P : Nat → Pt8} {m : Nat} {w w' : World} (h : Ls pl P m w) (hb : Below w.heap.size w w') : Ls pl P m w' := fun g o e i hi => by
 obtain ⟨h1, h2, h3⟩ := h g o e i hi
 exact ⟨Nat.lt_of_lt_of_le h1 hb.size, by rw [hb.cell h1]; exact h2, h3.below hb⟩
section
variable {ρ : Operand → Value} {o : Oper} {x y : Operand} {g off m c j : Nat} {w : World}
end
set_option maxRecDepth 100000
section
variable {ρ : Operand → Value} {o : Oper} {x y : Operand} {g off j n a b c : Nat} {w : World}
/-- Bytes, bit by bit: unlike. -/
def x8 (a b : Nat) : Nat := (a ^^^ b) % 256
end
set_option maxRecDepth 100000
/-- A block, each byte xor x. -/
def mk8 (K : Nat → Nat) (x : Nat) : Nat → Nat := fun j => x8 (K j) x
set_option maxRecDepth 100000
/-- How many bytes k parts have. -/
def tn (P : Nat → Pt8) : Nat → Nat
 | 0 => 0
 | k + 1 => tn P k + (P k).n
/-- What a list of parts wants: where it lies, and each part's slice. -/
structure Lw (pl : Option Addr) (P : Nat → Pt8) (m : Nat) : Prop where
 p2 : 0 < m → ∃ g o, pl = some ⟨g, o, none⟩
 bv : ∀ i, i < m → Bv (P i).gb (P i).o (P i).n (P i).cp 0 (.slice (P i).p (P i).n (P i).cp) ∧ (P i).n ≤ (P i).cp
 tl : ∀ i, i < m → 64 + tn P i + (P i).n < 4611686018427387904
 ml : m ≤ 1048576
theorem Ls.mk {w : World} {l : List (Nat × List Value)} {gs : Nat} {vs : List Value} {P : Nat → Pt8} {m : Nat} (h : Mm w l) (k : Nat) (hk : l[k]? = some (gs, vs)) (hv : ∀ i, i < m → vs[i]? = some (.slice (P i).p (P i).n (P i).cp)) (hr : ∀ i, i < m → Rs (P i).gb (P i).o (P i).n (P i).f w) : Ls (some ⟨gs, 0, none⟩) P m w := fun g o e i hi => by
 injection e with e
 injection e with e1 e2
 subst e1 e2
 have hb := h.blk _ (List.mem_of_getElem? hk)
 exact ⟨hb.1, by rw [Nat.zero_add]; exact (hb.2 i _ (hv i hi)).1, hr i hi⟩
theorem Ls.one {w : World} {l : List (Nat × List Value)} {gs : Nat} {q : Pt8} (h : Mm w l) (k : Nat) (hk : l[k]? = some (gs, [.slice q.p q.n q.cp])) (hr : Rs q.gb q.o q.n q.f w) : Ls (some ⟨gs, 0, none⟩) (fun _ => q) 1 w :=
 Ls.mk h k hk (fun i hi => by
  obtain rfl : i = 0 := by omega
  rfl) (fun _ _ => hr)
/-- A part that is a whole row. -/
def pw (g n : Nat) (f : Nat → Nat) : Pt8 := ⟨g, 0, n, n, some ⟨g, 0, none⟩, f⟩
theorem pw_bv (g n : Nat) (f : Nat → Nat) : Bv (pw g n f).gb (pw g n f).o (pw g n f).n (pw g n f).cp 0 (.slice (pw g n f).p (pw g n f).n (pw g n f).cp) ∧ (pw g n f).n ≤ (pw g n f).cp := ⟨Bv.start _ _ _ _, Nat.le_refl _⟩
theorem Lw.one (gs g n : Nat) (f : Nat → Nat) (hn : n ≤ 1048576) : Lw (some ⟨gs, 0, none⟩) (fun _ => pw g n f) 1 :=
 ⟨fun _ => ⟨gs, 0, rfl⟩, fun _ _ => pw_bv g n f, fun i hi => by
  obtain rfl : i = 0 := by omega
  show 64 + 0 + n < _
  omega, by decide⟩
section
variable {ρ : Operand → Value} {o : Oper} {x : Operand} {w : World}
end
set_option maxRecDepth 100000
/-- A part handed in is a slice. -/
structure Pok (q : Pt8) : Prop where
 bv : Bv q.gb q.o q.n q.cp 0 (.slice q.p q.n q.cp)
 le : q.n ≤ q.cp
abbrev Pt8.rs (q : Pt8) (w : World) : Prop := Rs q.gb q.o q.n q.f w
theorem Lw.of (gs : Nat) {q : Pt8} (h : Pok q) (hn : q.n ≤ 1048576) : Lw (some ⟨gs, 0, none⟩) (fun _ => q) 1 :=
 ⟨fun _ => ⟨gs, 0, rfl⟩, fun _ _ => ⟨h.bv, h.le⟩, fun i hi => by
  obtain rfl : i = 0 := by omega
  show 64 + 0 + q.n < _
  omega, by decide⟩
theorem Pok.at {q : Pt8} (h : Pok q) (hn : 0 < q.n) : q.p = some ⟨q.gb, q.o, none⟩ := by
 have e := h.bv.1 hn
 injection e
section
variable {ρ : Operand → Value} {o : Oper} {x y : Operand} {g off m c j a : Nat} {w : World}
end
set_option maxRecDepth 100000
/-- A part that can be read, while nothing old is changed. -/
structure Bq (q : Pt8) (w w' : World) : Prop where
 b : Below w.heap.size w w'
 r : q.rs w'
theorem Bq.grow {q : Pt8} {w w1 w2 : World} (h : Bq q w w1) (hb : Below w1.heap.size w1 w2) : Bq q w w2 := ⟨h.b.trans (hb.mono h.b.size), h.r.below hb⟩
theorem Bq.size {q : Pt8} {w w1 : World} (h : Bq q w w1) : w.heap.size ≤ w1.heap.size := h.b.size
section
variable {ρ : Operand → Value} {o : Oper} {x y z : Operand} {a c : Nat} {w : World}
end
set_option maxRecDepth 100000
theorem Zo.blk {w w1 : World} {B n g cap : Nat} {l : List (Nat × List Value)} {P : Nat → Nat} (h : Zo w B l (.slice (some ⟨g, 0, none⟩) n cap) n P w1) : B ≤ g ∧ g < w1.heap.size ∧ n ≤ cap ∧ Blk w1 g (zH .u8 P n) := by
 have hl := World.ownsRow.lt h.own g rfl
 refine ⟨hl.1, hl.2, ?_, fun j v hj => ?_⟩
 ·rcases h.own.2 with ⟨h1, _⟩ | ⟨g', cap', cur, h1, _, _, h2, _⟩
  ·cases h1
  ·injection h1 with _ _ e
   rw [e]
   exact h2
 ·have hjn : j < n := by
   have := (List.getElem?_eq_some_iff.1 hj).1
   rwa [ints_len] at this
  refine ⟨?_, World.ownsRow.frozenAt h.own j⟩
  rw [World.ownsRow.cellAt h.own j (by omega)]
  exact hj
section
variable {ρ : Operand → Value} {o : Oper} {x y : Operand} {z : Int} {w : World}
end
set_option maxRecDepth 100000
section
variable {ρ : Operand → Value} {o : Oper} {x y : Operand} {a b : Nat} {w : World}
end
set_option maxRecDepth 100000
theorem _root_.Go.Proofs.YtahghpkjkfaieaaGreatDoor.Rg.Mm.bsl {w : World} {l : List (Nat × List Value)} {g m n c : Nat} {f : Nat → Nat} (h : Mm w l) (k : Nat) (hk : l[k]? = some (g, zH .u8 f m)) (hn : n ≤ m) (hc : n ≤ c) : BSl w ((List.range n).map fun i => ((f i : Nat) : Int)) c (.slice (some ⟨g, 0, none⟩) n c) :=
 Rd.bsl ⟨(h.blk _ (List.mem_of_getElem? hk)).1, (h.rs k hk hn).at_⟩ hc
set_option maxRecDepth 100000
section
variable {ρ : Operand → Value} {o : Oper} {x y : Operand} {a b : Nat} {w : World}
end
set_option maxRecDepth 100000
def Dv (v : Value) (n : Nat) (f : Nat → Nat) (w : World) : Prop := (v = .slice none 0 0 ∧ n = 0) ∨ ∃ a cp, v = .slice (some a) n cp ∧ Ra a n f w
theorem Dv.below {v : Value} {n : Nat} {f : Nat → Nat} {w w' : World} (h : Dv v n f w) (hb : Below w.heap.size w w') : Dv v n f w' := by
 rcases h with h | ⟨a, cp, e, h⟩
 ·exact .inl h
 ·exact .inr ⟨a, cp, e, h.below hb⟩
set_option maxRecDepth 100000
/-- Two slices of the call's own, beside blocks l. -/
structure Z2 (w : World) (B : Nat) (l : List (Nat × List Value)) (v1 : Value) (n1 : Nat) (P1 : Nat → Nat) (v2 : Value) (n2 : Nat) (P2 : Nat → Nat) (w' : World) : Prop where
 b : Below w.heap.size w w'
 lo : w.heap.size ≤ B
 hi : B ≤ w'.heap.size
 m : Mm w' l
 lt : ∀ p ∈ l, p.1 < B
 o1 : w'.ownsRow B 5 1 v1 n1 (zH .u8 P1 n1)
 o2 : w'.ownsRow B 5 1 v2 n2 (zH .u8 P2 n2)
 ne : v1.ownBlock = none ∨ v1.ownBlock ≠ v2.ownBlock
theorem own_step {w1 w2 : World} {B n : Nat} {vv : Value} {P : Nat → Nat} (h : w1.ownsRow B 5 1 vv n (zH .u8 P n)) (hb : Below w1.heap.size w1 w2) : w2.ownsRow B 5 1 vv n (zH .u8 P n) := by
 refine ⟨h.1, ?_⟩
 rcases h.2 with ⟨h1, h2⟩ | ⟨g, cap, cur, h1, h2, h3, h4⟩
 ·exact .inl ⟨h1, h2⟩
 ·refine .inr ⟨g, cap, cur, h1, h2, ?_, h4⟩
  rw [hb.block g (Array.getElem?_eq_some_iff.1 h3).1]
  exact h3
theorem own_cg {w1 : World} {B n : Nat} {vv : Value} {P P' : Nat → Nat} (h : w1.ownsRow B 5 1 vv n (zH .u8 P n)) (e : ∀ j, j < n → P j = P' j) : w1.ownsRow B 5 1 vv n (zH .u8 P' n) := by
 rw [ints_congr e] at h
 exact h
theorem own_app {w1 : World} {B n : Nat} {vv : Value} {P : Nat → Nat} (h : w1.ownsRow B 5 1 vv n (zH .u8 P n)) (hB : B ≤ w1.heap.size) {a : Addr} (m c : Nat) (Q : Nat → Nat) (hr : ∀ j, j < m → w1.cell? (a.add j) = some (Z8 (Q j))) (hb : n + m ≤ 2097152) (ty : TypeId) :
  ∃ v' w2, (Builtin.append_ #[51, 51] ty #[vv, .slice (some a) m c]).run Tryz.prog w1 = .ok v' w2 ∧ w2.ownsRow B 5 1 v' (n + m) (zH .u8 (ct P n Q) (n + m)) ∧ w1.grownBy w2 vv.ownBlock ∧ (v'.ownBlock = vv.ownBlock ∨ v'.ownBlock = some w1.heap.size) := by
 obtain ⟨i0, hi, hz0, hz1, hz2⟩ := info_byte
 obtain ⟨v', w2, h1, h2, h3, _, h5⟩ := run_append_own_at (P := Tryz.prog) w1 B 51 ty 5 i0 (.int .u8 0) 1 1 Tryz.underlying51 hi hz0 hz1 hz2 rfl (by decide) vv n _ h a m c (zH .u8 Q m) (by rw [ints_len]; omega)
  (fun j u hj => by
   have hjm : j < m := by
    have := (List.getElem?_eq_some_iff.1 hj).1
    rwa [ints_len] at this
   rw [ints_get _ _ hjm] at hj
   rw [hr j hjm]
   exact hj) (List.all_eq_true.1 (ints_all _ _ _)) (by unfold maxLen; omega) (by omega) hB
 rw [ints_cat] at h2
 exact ⟨v', w2, h1, h2, h3, h5⟩
section
variable {w w1 w2 : World} {B n1 n2 : Nat} {l : List (Nat × List Value)} {v1 v2 : Value} {P1 P2 P' : Nat → Nat}
theorem Z2.size (h : Z2 w B l v1 n1 P1 v2 n2 P2 w1) : w.heap.size ≤ w1.heap.size := h.b.size
theorem Z2.step (h : Z2 w B l v1 n1 P1 v2 n2 P2 w1) (hb : Below w1.heap.size w1 w2) : Z2 w B l v1 n1 P1 v2 n2 P2 w2 :=
 ⟨h.b.trans (hb.mono h.b.size), h.lo, Nat.le_trans h.hi hb.size, h.m.below hb, h.lt, own_step h.o1 hb, own_step h.o2 hb, h.ne⟩
theorem Z2.nil (hm : Mm w1 l) (hb : Below w.heap.size w w1) (P1 P2 : Nat → Nat) : Z2 w w1.heap.size l (.slice none 0 0) 0 P1 (.slice none 0 0) 0 P2 w1 :=
 ⟨hb, hb.size, Nat.le_refl _, hm, fun p hp => (hm.blk p hp).1, World.ownsRow_nil _ _ _ _, World.ownsRow_nil _ _ _ _, .inl rfl⟩
end
/-- A slice of the call's own, apart from the blocks L. -/
structure Ow (w : World) (L : List Nat) (vv : Value) (n : Nat) (P : Nat → Nat) (w' : World) : Prop where
 b : Below w.heap.size w w'
 own : w'.ownsRow w.heap.size 5 1 vv n (zH .u8 P n)
 ne : ∀ g ∈ L, some g ≠ vv.ownBlock
section
variable {w w1 w2 : World} {B n n2 : Nat} {L : List Nat} {l : List (Nat × List Value)} {vv v2 : Value} {P P' P2 : Nat → Nat}
theorem Ow.size (h : Ow w L vv n P w1) : w.heap.size ≤ w1.heap.size := h.b.size
theorem Ow.step (h : Ow w L vv n P w1) (hb : Below w1.heap.size w1 w2) : Ow w L vv n P w2 := ⟨h.b.trans (hb.mono h.b.size), own_step h.own hb, h.ne⟩
theorem Ow.cg (h : Ow w L vv n P w1) (e : ∀ j, j < n → P j = P' j) : Ow w L vv n P' w1 := ⟨h.b, own_cg h.own e, h.ne⟩
theorem Ow.alloc (h : Ow w L vv n P w1) (o : Obj) : Ow w (w1.heap.size :: L) vv n P (w1.alloc o) :=
 ⟨h.b.trans (((Below.refl _ _).alloc (Nat.le_refl _) _).mono h.b.size), own_step h.own ((Below.refl _ _).alloc (Nat.le_refl _) _), fun g hg e => by
  rcases List.mem_cons.1 hg with rfl | hg
  ·have := (World.ownsRow.lt h.own _ e.symm).2
   omega
  ·exact h.ne g hg e⟩
theorem Ow.put (h : Ow w L vv n P w1) {g off : Nat} {vs : List Value} (hg : g ∈ L) (ho : w.heap.size ≤ g) : Ow w L vv n P (w1.setCells g off vs) := by
 refine ⟨below_setCells _ ho _ _ _ h.b, ⟨h.own.1, ?_⟩, h.ne⟩
 rcases h.own.2 with h1 | ⟨k, cap, cur, h1, h2, h3, h4⟩
 ·exact .inl h1
 ·refine .inr ⟨k, cap, cur, h1, h2, ?_, h4⟩
  have hk : k ≠ g := fun e => h.ne g hg (by rw [h1, ← e]; rfl)
  rw [heap_setCells0 g k hk]
  exact h3
theorem Ow.app (h : Ow w L vv n P w1) (hm : Mm w1 l) (hl : l.map Prod.fst = L) {a : Addr} (m c : Nat) (Q : Nat → Nat) (hr : ∀ j, j < m → w1.cell? (a.add j) = some (Z8 (Q j))) (hb : n + m ≤ 2097152) (ty : TypeId) :
  ∃ v' w2, (Builtin.append_ #[51, 51] ty #[vv, .slice (some a) m c]).run Tryz.prog w1 = .ok v' w2 ∧ Ow w L v' (n + m) (ct P n Q) w2 ∧ Mm w2 l := by
 obtain ⟨v', w2, h1, h2, h3, h5⟩ := own_app h.own h.b.size m c Q hr hb ty
 have hb2 : Below w.heap.size w1 w2 := (Below.refl _ _).grown h3 h.b.size (fun k hk => (World.ownsRow.lt h.own k hk).1)
 have hne : ∀ p ∈ l, some p.1 ≠ vv.ownBlock := fun p hp => h.ne p.1 (by rw [← hl]; exact List.mem_map_of_mem hp)
 refine ⟨v', w2, h1, ⟨h.b.trans hb2, h2, fun g hg e => ?_⟩, ⟨fun p hp => ?_, hm.nd⟩⟩
 ·rcases h5 with e5 | e5
  ·exact h.ne g hg (e.trans e5)
  ·rw [e5] at e
   rw [← hl] at hg
   obtain ⟨p, hp, e6⟩ := List.mem_map.1 hg
   have := (hm.blk p hp).1
   injection e with e
   omega
 ·have hlt := (hm.blk p hp).1
  have hblk := h3.block p.1 hlt (hne p hp)
  refine ⟨Nat.lt_of_lt_of_le hlt hb2.size, fun j v hj => ?_⟩
  have := (hm.blk p hp).2 j v hj
  rw [World.cell?_of_block (a := ⟨p.1, j, none⟩) hblk, World.frozen?_of_block (a := ⟨p.1, j, none⟩) hblk]
  exact this
end
/-- A key's block, as the document fills it. -/
def kz (f : Nat → Nat) (n : Nat) : Nat → Nat := fun j => if j < n then f j else 0
set_option maxRecDepth 100000
/-- A key's block, as the document has it. -/
def kd (f : Nat → Nat) (n : Nat) : Nat → Nat := if 64 < n then kz (ds f n) 32 else kz f n
set_option maxRecDepth 100000
abbrev Pt8.bs (a : Pt8) (xs : List Int) (w : World) : Prop := BSl w xs a.cp (.slice a.p a.n a.cp) ∧ a.rs w
theorem Pt8.bs.below {a : Pt8} {xs : List Int} {w w' : World} (h : a.bs xs w) (hb : Below w.heap.size w w') : a.bs xs w' := ⟨BSl.below h.1 hb, Rs.below h.2 hb⟩
section
variable {ρ : Operand → Value} {o : Oper} {x y : Operand} {t : Bool} {w : World}
end
set_option maxRecDepth 100000
theorem Ow.nil (P : Nat → Nat) (w : World) : Ow w [] (.slice none 0 0) 0 P w := ⟨Below.refl _ _, World.ownsRow_nil _ _ _ _, fun g hg => by cases hg⟩
theorem Ow.rs {w w1 : World} {L : List Nat} {n g c : Nat} {P : Nat → Nat} (h : Ow w L (.slice (some ⟨g, 0, none⟩) n c) n P w1) : Rs g 0 n P w1 := by
 refine ⟨fun _ => (World.ownsRow.lt h.own g rfl).2, fun i hi => ?_⟩
 have := World.ownsRow.cells h.own (g := g) rfl i _ (ints_get .u8 P hi)
 rw [show (⟨g, 0, none⟩ : Addr).add i = ⟨g, 0 + i, none⟩ by unfold Addr.add; split <;> simp_all] at this
 exact this
/-- The outer slice, and a part that can be read. -/
structure Oq (q : Pt8) (w : World) (vv : Value) (n : Nat) (P : Nat → Nat) (w' : World) : Prop where
 o : Ow w [] vv n P w'
 r : q.rs w'
theorem Oq.step {q : Pt8} {w w1 w2 : World} {vv : Value} {n : Nat} {P : Nat → Nat} (h : Oq q w vv n P w1) (hb : Below w1.heap.size w1 w2) : Oq q w vv n P w2 := ⟨h.o.step hb, h.r.below hb⟩
theorem Oq.size {q : Pt8} {w w1 : World} {vv : Value} {n : Nat} {P : Nat → Nat} (h : Oq q w vv n P w1) : w.heap.size ≤ w1.heap.size := h.o.b.size
section
variable {ρ : Operand → Value} {o : Oper} {x y : Operand} {a : Nat} {w : World}
end
set_option maxRecDepth 100000
def setO (j : Nat) (v : Value) : Obj → Obj
 | .cells c elem frozen => .cells (c.setIfInBounds j v) elem frozen
 | o => o
theorem heap_set {w : World} {g j : Nat} {v : Value} {o : Obj} (h : w.heap[g]? = some o) : (w.setCells g j [v]).heap[g]? = some (setO j v o) := by
 show (World.setCell w ⟨g, j, none⟩ v).heap[g]? = _
 unfold World.setCell
 show (Array.modify _ _ _)[g]? = _
 rw [Array.getElem?_modify, if_pos rfl, h]
 cases o <;> rfl
/-- Two blocks alike but in their first c cells. -/
def Sm (c : Nat) (o o' : Obj) : Prop := o' = o ∨ ∃ cur cur' t fz, o = .cells cur t fz ∧ o' = .cells cur' t fz ∧ cur'.size = cur.size ∧ ∀ j, c ≤ j → cur'[j]? = cur[j]?
theorem Sm.trans {c : Nat} {a b d : Obj} (h : Sm c a b) (k : Sm c b d) : Sm c a d := by
 rcases h with rfl | ⟨x, y, t, fz, rfl, rfl, h1, h2⟩
 ·exact k
 ·rcases k with rfl | ⟨x2, y2, t2, fz2, e, rfl, h3, h4⟩
  ·exact .inr ⟨x, y, t, fz, rfl, rfl, h1, h2⟩
  ·injection e with e1 e2 e3
   subst e1 e2 e3
   exact .inr ⟨x, y2, _, _, rfl, rfl, h3.trans h1, fun j hj => (h4 j hj).trans (h2 j hj)⟩
/-- Block g may have changed, in its first c cells alone. -/
structure Ov (c g : Nat) (w w' : World) : Prop where
 k : Kp g w w'
 lt : g < w.heap.size
 ob : ∀ o, w.heap[g]? = some o → ∃ o', w'.heap[g]? = some o' ∧ Sm c o o'
theorem Ov.refl {c g : Nat} {w : World} (h : g < w.heap.size) : Ov c g w w := ⟨Kp.refl g w, h, fun o e => ⟨o, e, .inl rfl⟩⟩
theorem Ov.size {c g : Nat} {w w' : World} (h : Ov c g w w') : w.heap.size ≤ w'.heap.size := h.k.size
theorem Ov.grow {c g : Nat} {w w1 w2 : World} (h : Ov c g w w1) (hb : Below w1.heap.size w1 w2) : Ov c g w w2 :=
 ⟨h.k.trans hb, h.lt, fun o e => by
  obtain ⟨o', e', h1⟩ := h.ob o e
  exact ⟨o', by rw [hb.block g (Nat.lt_of_lt_of_le h.lt h.k.size)]; exact e', h1⟩⟩
theorem Ov.join {c g : Nat} {w w1 w2 : World} (h : Ov c g w w1) (k : Ov c g w1 w2) : Ov c g w w2 :=
 ⟨h.k.join k.k, h.lt, fun o e => by
  obtain ⟨o', e', h1⟩ := h.ob o e
  obtain ⟨o2, e2, h2⟩ := k.ob o' e'
  exact ⟨o2, e2, h1.trans h2⟩⟩
theorem Ov.put {c g j : Nat} {v : Value} {w w1 : World} (h : Ov c g w w1) (hj : j < c) : Ov c g w (w1.setCells g j [v]) :=
 ⟨h.k.put (Or.inl rfl), h.lt, fun o e => by
  obtain ⟨o', e', h1⟩ := h.ob o e
  refine ⟨_, heap_set e', h1.trans ?_⟩
  cases o' with
  | cells cur t fz => exact .inr ⟨cur, _, t, fz, rfl, rfl, by simp, fun i hi => by rw [Array.getElem?_setIfInBounds, if_neg (by omega)]⟩
  | _ => exact .inl rfl⟩
section
variable {ρ : Operand → Value} {o : Oper} {x y : Operand} {n c : Nat} {w : World} {p : Option Addr}
end
set_option maxRecDepth 100000
/-- A slice that may lie apart: where, how long, its room, the bytes of all its room. -/
structure Ap where
 p : Option Addr
 g : Nat
 n : Nat
 c : Nat
 f : Nat → Nat
def Ap.pt (q : Ap) : Pt8 := ⟨q.g, 0, q.c, q.c, q.p, q.f⟩
structure Ap.Ok (q : Ap) : Prop where
 at_ : q.p = some ⟨q.g, 0, none⟩ ∨ (q.p = none ∧ q.n = 0 ∧ q.c = 0)
 le : q.n ≤ q.c
 mx : q.c ≤ 1048576
 by_ : ∀ j, q.f j < 256
def Ap.row (q : Ap) (f : Nat → Nat) (w : World) : Prop := q.p = none ∨ Mm w [(q.g, zH .u8 f q.c)]
theorem Ap.Ok.nil {q : Ap} (h : q.Ok) : q.pt.p = none → q.pt.cp = 0 := fun e => by
 rcases h.at_ with e2 | ⟨_, _, e2⟩
 ·exact absurd (e2.symm.trans e) (by simp)
 ·exact e2
theorem Ap.row.rs {q : Ap} (h : q.Ok) {w : World} (hr : q.row q.f w) : q.pt.rs w := by
 rcases hr with e | hm
 ·rcases h.at_ with e2 | ⟨_, _, e2⟩
  ·exact absurd (e2.symm.trans e) (by simp)
  ·show Rs q.g 0 q.c q.f w
   rw [e2]
   exact Rs.void _ _ _ _
 ·exact hm.rs 0 rfl (Nat.le_refl _)
theorem Ap.row.below {q : Ap} {f : Nat → Nat} {w w' : World} (h : q.row f w) (hb : Below w.heap.size w w') : q.row f w' := by
 rcases h with h | h
 ·exact .inl h
 ·exact .inr (h.below hb)
theorem Ap.row.bsl {q : Ap} (h : q.Ok) {w : World} (hr : q.row q.f w) : BSl w ((List.range q.c).map fun i => ((q.f i : Nat) : Int)) q.c (.slice q.p q.c q.c) := by
 rcases hr with e | hm
 ·rcases h.at_ with e2 | ⟨_, _, e2⟩
  ·exact absurd (e2.symm.trans e) (by simp)
  ·rw [e2]
   exact .void _ rfl
 ·rcases h.at_ with e2 | ⟨_, _, e2⟩
  ·rw [e2]
   exact hm.bsl 0 rfl (Nat.le_refl _) (Nat.le_refl _)
  ·rw [e2]
   exact .void _ rfl
/-- Slices in a list. -/
def apl (A : Nat → Ap) (m : Nat) : List Value := (List.range m).map fun i => .slice (A i).p (A i).n (A i).c
structure Al (gl : Nat) (A : Nat → Ap) (m : Nat) (w : World) : Prop where
 ls : Mm w [(gl, apl A m)]
 row : ∀ i, i < m → (A i).row (A i).f w
theorem Al.below {gl : Nat} {A : Nat → Ap} {m : Nat} {w w' : World} (h : Al gl A m w) (hb : Below w.heap.size w w') : Al gl A m w' := ⟨h.ls.below hb, fun i hi => (h.row i hi).below hb⟩
structure Aw (gl : Nat) (A : Nat → Ap) (m : Nat) : Prop where
 ok : ∀ i, i < m → (A i).Ok
 ne : ∀ i j, i < m → j < m → i ≠ j → (A i).p ≠ none → (A j).p ≠ none → (A i).g ≠ (A j).g
 nl : ∀ i, i < m → (A i).p ≠ none → (A i).g ≠ gl
 ml : m ≤ 1048576
theorem rmap_get {F : Nat → Value} {m k : Nat} (h : k < m) : ((List.range m).map F)[0 + k]? = some (F k) := by
 rw [Nat.zero_add, List.getElem?_map, List.getElem?_range h]
 rfl
/-- The copies, k of them. -/
def wl (A : Nat → Ap) (G : Nat → Nat × Nat) (k m : Nat) : List Value := (List.range m).map fun j => if j < k then .slice (some ⟨(G j).1, 0, none⟩) (A j).c ((A j).c + (G j).2) else .slice none 0 0
theorem wl_len (A : Nat → Ap) (G : Nat → Nat × Nat) (k m : Nat) : (wl A G k m).length = m := by simp [wl]
theorem wl_zero (A : Nat → Ap) (G : Nat → Nat × Nat) (m : Nat) : wl A G 0 m = List.replicate m (.slice none 0 0) := by
 apply List.ext_getElem?
 intro j
 unfold wl
 by_cases h : j < m
 ·have e := rmap_get (F := fun j => if j < 0 then .slice (some ⟨(G j).1, 0, none⟩) (A j).c ((A j).c + (G j).2) else .slice none 0 0) h
  rw [Nat.zero_add] at e
  rw [e, List.getElem?_replicate, if_pos h, if_neg (Nat.not_lt_zero _)]
 ·rw [List.getElem?_eq_none (by simp; omega), List.getElem?_replicate, if_neg h]
def uG (G : Nat → Nat × Nat) (k : Nat) (v : Nat × Nat) : Nat → Nat × Nat := fun j => if j = k then v else G j
theorem wl_put (A : Nat → Ap) (G : Nat → Nat × Nat) (k m g x : Nat) (h : k < m) : patch (wl A G k m) (0 + k) [.slice (some ⟨g, 0, none⟩) (A k).c ((A k).c + x)] = wl A (uG G k (g, x)) (k + 1) m := by
 apply List.ext_getElem?
 intro j
 rw [patch_get _ _ _ (by rw [wl_len]; simp; omega)]
 by_cases hj : j < m
 ·have e1 : (wl A G k m)[j]? = some (if j < k then .slice (some ⟨(G j).1, 0, none⟩) (A j).c ((A j).c + (G j).2) else .slice none 0 0) := by
   have := rmap_get (F := fun j => if j < k then .slice (some ⟨(G j).1, 0, none⟩) (A j).c ((A j).c + (G j).2) else .slice none 0 0) hj
   rw [Nat.zero_add] at this
   exact this
  have e2 : (wl A (uG G k (g, x)) (k + 1) m)[j]? = some (if j < k + 1 then .slice (some ⟨(uG G k (g, x) j).1, 0, none⟩) (A j).c ((A j).c + (uG G k (g, x) j).2) else .slice none 0 0) := by
   have := rmap_get (F := fun j => if j < k + 1 then .slice (some ⟨(uG G k (g, x) j).1, 0, none⟩) (A j).c ((A j).c + (uG G k (g, x) j).2) else .slice none 0 0) hj
   rw [Nat.zero_add] at this
   exact this
  rw [e1, e2]
  unfold uG
  by_cases h1 : j = k
  ·subst h1
   rw [if_pos (by simp), if_pos (by omega), if_pos rfl, show j - (0 + j) = 0 by omega]
   rfl
  ·rw [if_neg (by simp; omega), if_neg h1]
   by_cases h2 : j < k
   ·rw [if_pos h2, if_pos (by omega)]
   ·rw [if_neg h2, if_neg (by omega)]
 ·rw [if_neg (by simp; omega), List.getElem?_eq_none (by rw [wl_len]; omega), List.getElem?_eq_none (by rw [wl_len]; omega)]
structure Wq (w : World) (gw : Nat) (A : Nat → Ap) (m k : Nat) (G : Nat → Nat × Nat) (w' : World) : Prop where
 b : Below w.heap.size w w'
 lo : w.heap.size ≤ gw
 m_ : Mm w' [(gw, wl A G k m)]
 cp : ∀ j, j < k → gw < (G j).1 ∧ Mm w' [((G j).1, zH .u8 (A j).f (A j).c)]
def Wk (w : World) (gw : Nat) (A : Nat → Ap) (m k : Nat) (w' : World) : Prop := ∃ G, Wq w gw A m k G w'
section
variable {w w1 w2 : World} {gw gl m k i : Nat} {A : Nat → Ap} {G : Nat → Nat × Nat}
theorem Wq.step (h : Wq w gw A m k G w1) (hb : Below w1.heap.size w1 w2) : Wq w gw A m k G w2 := ⟨h.b.trans (hb.mono h.b.size), h.lo, h.m_.below hb, fun j hj => ⟨(h.cp j hj).1, (h.cp j hj).2.below hb⟩⟩
theorem Wq.size (h : Wq w gw A m k G w1) : w.heap.size ≤ w1.heap.size := h.b.size
theorem Wk.step (h : Wk w gw A m k w1) (hb : Below w1.heap.size w1 w2) : Wk w gw A m k w2 := let ⟨G, h⟩ := h; ⟨G, h.step hb⟩
theorem Wk.b (h : Wk w gw A m k w1) : Below w.heap.size w w1 := let ⟨_, h⟩ := h; h.b
theorem Wk.size (h : Wk w gw A m k w1) : w.heap.size ≤ w1.heap.size := h.b.size
theorem Wk.lt (h : Wk w gw A m k w1) : gw < w1.heap.size := let ⟨_, h⟩ := h; (h.m_.blk _ (List.mem_singleton.2 rfl)).1
theorem Wk.start (hb : Below w.heap.size w w1) (A : Nat → Ap) (m : Nat) (t : TypeId) : Wk w w1.heap.size A m 0 (w1.alloc (.cells (List.replicate m (.slice none 0 0) : List Value).toArray t)) :=
 ⟨fun _ => (0, 0), hb.alloc hb.size _, hb.size, by rw [wl_zero]; exact (Mm.nil w1).alloc _ t rfl, fun j hj => absurd hj (Nat.not_lt_zero _)⟩
theorem _root_.Go.Proofs.YtahghpkjkfaieaaGreatDoor.Rg.Mm.kp {w w' : World} {g k : Nat} {cs : List Value} (h : Mm w [(g, cs)]) (hk : Kp k w w') (hne : g ≠ k) : Mm w' [(g, cs)] := by
 refine ⟨fun p hp => ?_, List.pairwise_singleton _ _⟩
 rw [List.mem_singleton.1 hp]
 have hb := h.blk _ (List.mem_singleton.2 rfl)
 have hblk := hk.block g hb.1 hne
 refine ⟨Nat.lt_of_lt_of_le hb.1 hk.size, fun j v hj => ?_⟩
 rw [World.cell?_of_block (a := ⟨g, j, none⟩) hblk, World.frozen?_of_block (a := ⟨g, j, none⟩) hblk]
 exact hb.2 j v hj
theorem _root_.Go.Proofs.YtahghpkjkfaieaaGreatDoor.Rg.Mm.other {w : World} {g g' off : Nat} {cs vs : List Value} (h : Mm w [(g, cs)]) (hg : g ≠ g') : Mm (w.setCells g' off vs) [(g, cs)] := h.kp ((Kp.refl g' w).put (Or.inl rfl)) hg
theorem Wq.store (h : Wq w gw A m k G w1) (hk : k < m) {g x : Nat} (hg : gw < g) (hm : Mm w1 [(g, zH .u8 (A k).f (A k).c)]) : Wk w gw A m (k + 1) (w1.setCells gw (0 + k) [.slice (some ⟨g, 0, none⟩) (A k).c ((A k).c + x)]) := by
 refine ⟨uG G k (g, x), below_setCells _ h.lo _ _ _ h.b, h.lo, ?_, fun j hj => ?_⟩
 ·have := h.m_.put 0 (off := 0 + k) (vs := [.slice (some ⟨g, 0, none⟩) (A k).c ((A k).c + x)]) rfl (by rw [wl_len]; simp; omega)
  rw [wl_put A G k m g x hk] at this
  exact this
 ·unfold uG
  by_cases e : j = k
  ·subst e
   rw [if_pos rfl]
   exact ⟨hg, hm.other (by omega)⟩
  ·rw [if_neg e]
   have hc := h.cp j (by omega)
   exact ⟨hc.1, hc.2.other (by omega)⟩
/-- One of the slices is written over. -/
structure Wo (w : World) (gw : Nat) (A : Nat → Ap) (m i : Nat) (G : Nat → Nat × Nat) (w' : World) : Prop where
 lo : w.heap.size ≤ gw
 sz : w.heap.size ≤ w'.heap.size
 m_ : Mm w' [(gw, wl A G m m)]
 cp : ∀ j, j < m → gw < (G j).1 ∧ Mm w' [((G j).1, zH .u8 (A j).f (A j).c)]
 ov : ((A i).p = none ∧ Below w.heap.size w w') ∨ ((A i).p ≠ none ∧ Ov (A i).c (A i).g w w' ∧ Mm w' [((A i).g, zH .u8 (mk8 (A i).f 90) (A i).c)])
theorem Wo.step (h : Wo w gw A m i G w1) (hb : Below w1.heap.size w1 w2) : Wo w gw A m i G w2 :=
 ⟨h.lo, Nat.le_trans h.sz hb.size, h.m_.below hb, fun j hj => ⟨(h.cp j hj).1, (h.cp j hj).2.below hb⟩, by
  rcases h.ov with ⟨e, h1⟩ | ⟨e, h1, h2⟩
  ·exact .inl ⟨e, h1.trans (hb.mono h.sz)⟩
  ·exact .inr ⟨e, h1.grow hb, h2.below hb⟩⟩
theorem Wo.size (h : Wo w gw A m i G w1) : w.heap.size ≤ w1.heap.size := h.sz
theorem Wq.nil (h : Wq w gw A m m G w1) (hp : (A i).p = none) (hb : Below w1.heap.size w1 w2) : Wo w gw A m i G w2 :=
 let h' := h.step hb
 ⟨h'.lo, h'.b.size, h'.m_, h'.cp, .inl ⟨hp, h'.b⟩⟩
theorem Wq.over (h : Wq w gw A m m G w1) (hp : (A i).p ≠ none) (hlt : (A i).g < w.heap.size) (hm : Mm w2 [((A i).g, zH .u8 (mk8 (A i).f 90) (A i).c)]) (ho : Ov (A i).c (A i).g w1 w2) : Wo w gw A m i G w2 := by
 have hlo := h.lo
 refine ⟨h.lo, Nat.le_trans h.b.size ho.size, h.m_.kp ho.k (by omega), fun j hj => ⟨(h.cp j hj).1, (h.cp j hj).2.kp ho.k (by have := (h.cp j hj).1; omega)⟩, .inr ⟨hp, ((Ov.refl hlt).grow h.b).join ho, hm⟩⟩
/-- The list, and the other slices, meanwhile. -/
theorem Wo.ls (h : Wo w gw A m i G w1) (hA : Al gl A m w) (hW : Aw gl A m) (hi : i < m) : Mm w1 [(gl, apl A m)] := by
 rcases h.ov with ⟨_, h1⟩ | ⟨e, h1, _⟩
 ·exact hA.ls.below h1
 ·exact hA.ls.kp h1.k (Ne.symm (hW.nl i hi e))
theorem Wo.row (h : Wo w gw A m i G w1) (hA : Al gl A m w) (hW : Aw gl A m) (hi : i < m) (hk : k < m) (hne : k ≠ i) : (A k).row (A k).f w1 := by
 rcases h.ov with ⟨_, h1⟩ | ⟨e, h1, _⟩
 ·exact (hA.row k hk).below h1
 ·rcases hA.row k hk with e2 | hm
  ·exact .inl e2
  ·by_cases e3 : (A k).p = none
   ·exact .inl e3
   ·exact .inr (hm.kp h1.k (hW.ne k i hk hi hne e3 e))
/-- Written over twice, nothing has changed. -/
theorem Wo.nil (h : Wo w gw A m i G w1) (hp : (A i).p = none) (hb : Below w1.heap.size w1 w2) : Below w.heap.size w w2 := by
 rcases h.ov with ⟨_, h1⟩ | ⟨e, _⟩
 ·exact h1.trans (hb.mono h.sz)
 ·exact absurd hp e
end
section
variable {ρ : Operand → Value} {o : Oper} {x y : Operand} {g off n c m : Nat} {w : World} {p : Option Addr}
end
set_option maxRecDepth 100000
theorem same_bb {xs : List Int} {c c' : Nat} {v v' : Value} {w : World} (h : BSl w xs c v) (h' : BSl w xs c' v') : Calls Tryz.prog 24 #[v, v'] w (Rt w (.bool true)) := Calls.mono (same_any w h h') (fun e w' hh => ⟨hh.1, by rw [hh.2]; exact Below.refl _ _⟩)
set_option maxRecDepth 100000
/-- What holds of a world, and stays, while nothing old is changed. -/
structure Bk (w : World) (F : World → Prop) (w' : World) : Prop where
 b : Below w.heap.size w w'
 st : ∀ {x y : World}, Below x.heap.size x y → F x → F y
 r : F w'
theorem Bk.step {w w1 w2 : World} {F : World → Prop} (h : Bk w F w1) (hb : Below w1.heap.size w1 w2) : Bk w F w2 := ⟨h.b.trans (hb.mono h.b.size), h.st, h.st hb h.r⟩
theorem Bk.size {w w1 : World} {F : World → Prop} (h : Bk w F w1) : w.heap.size ≤ w1.heap.size := h.b.size
theorem Bk.of {w w1 w2 : World} {xs : List Int} {c : Nat} {v : Value} (h : Below w.heap.size w w1) (hb : Below w1.heap.size w1 w2) (h2 : BSl w2 xs c v) : Bk w (fun u => BSl u xs c v) w2 := ⟨h.trans (hb.mono h.size), fun hb h => BSl.below h hb, h2⟩
theorem Bk.and {w w1 w2 : World} {F : World → Prop} {xs : List Int} {c : Nat} {v : Value} (h : Bk w F w1) (hb : Below w1.heap.size w1 w2) (h2 : BSl w2 xs c v) : Bk w (fun u => F u ∧ BSl u xs c v) w2 := ⟨h.b.trans (hb.mono h.b.size), fun hb h' => ⟨h.st hb h'.1, BSl.below h'.2 hb⟩, h.st hb h.r, h2⟩
theorem _root_.Go.Proofs.YtahghpkjkfaieaaGreatDoor.Rg.Mm.sel {w : World} {l l' : List (Nat × List Value)} (h : Mm w l) (is : List Nat) (hn : is.Nodup) (hl : is.map (fun i => l[i]?) = l'.map some) : Mm w l' := by
 have hlen : is.length = l'.length := by
  have := congrArg List.length hl
  simpa using this
 have hget : ∀ (j : Nat) (hj : j < l'.length), l[is[j]'(by omega)]? = some l'[j] := fun j hj => by
  have := congrArg (fun x => x[j]?) hl
  simp [hj, hlen] at this
  exact this
 refine ⟨fun p hp => ?_, List.pairwise_iff_getElem.2 fun i j hi hj hij => ?_⟩
 ·obtain ⟨j, hj, rfl⟩ := List.getElem_of_mem hp
  exact h.blk _ (List.mem_of_getElem? (hget j hj))
 ·have e1 := hget i hi
  have e2 := hget j hj
  have hne : is[i]'(by omega) ≠ is[j]'(by omega) := fun e => by
   have := (List.getElem_inj hn).1 e
   omega
  obtain ⟨q1, f1⟩ := List.getElem?_eq_some_iff.1 e1
  obtain ⟨q2, f2⟩ := List.getElem?_eq_some_iff.1 e2
  rw [← f1, ← f2]
  rcases Nat.lt_or_gt_of_ne hne with hlt | hlt
  ·exact List.pairwise_iff_getElem.1 h.nd _ _ q1 q2 hlt
  ·exact Ne.symm (List.pairwise_iff_getElem.1 h.nd _ _ q2 q1 hlt)
def ap (g n c : Nat) (f : Nat → Nat) : Ap := ⟨some ⟨g, 0, none⟩, g, n, c, f⟩
section
variable {ρ : Operand → Value} {o : Oper} {x0 x1 x2 x3 x4 : Operand} {w : World}
end
set_option maxRecDepth 100000
/-- A call of a hash: its kind, its bytes. -/
structure Ac where
 kd : Nat
 q : Pt8
 xs : List Int
/-- Acts in a list. -/
def Lc (pl : Option Addr) (X : Nat → Ac) (m : Nat) (w : World) : Prop := ∀ g o, pl = some ⟨g, o, none⟩ → ∀ i, i < m → g < w.heap.size ∧ w.cell? ⟨g, o + 2 * i, none⟩ = some (Z8 (X i).kd) ∧ w.cell? ⟨g, o + 2 * i + 1, none⟩ = some (.slice (X i).q.p (X i).q.n (X i).q.cp) ∧ (X i).q.bs (X i).xs w
theorem Lc.below {pl : Option Addr} {X : Nat → Ac} {m : Nat} {w w' : World} (h : Lc pl X m w) (hb : Below w.heap.size w w') : Lc pl X m w' := fun g o e i hi => by
 obtain ⟨h1, h2, h3, h4⟩ := h g o e i hi
 exact ⟨Nat.lt_of_lt_of_le h1 hb.size, by rw [hb.cell h1]; exact h2, by rw [hb.cell h1]; exact h3, h4.below hb⟩
section
variable {ρ : Operand → Value} {o : Oper} {x y : Operand} {g off m c j a b : Nat} {w : World} {p : Option Addr}
end
/-- What the object of a slice's own block is. -/
def Eo (n : Nat) (f : Nat → Nat) (o : Obj) (x : Nat) : Prop := ∃ cur, o = .cells cur 5 (0, 0) ∧ n + x ≤ maxLen ∧ cur.size = (n + x) * 1 ∧ cur.toList.take (n * 1) = zH .u8 f n
theorem Eo.own {n g x B : Nat} {f : Nat → Nat} {w : World} (h : ∃ o, w.heap[g]? = some o ∧ Eo n f o x) (hB : B ≤ g) : w.ownsRow B 5 1 (.slice (some ⟨g, 0, none⟩) n (n + x)) n (zH .u8 f n) := by
 obtain ⟨o, h1, cur, rfl, h2, h3, h4⟩ := h
 exact ⟨by rw [ints_len, Nat.mul_one], .inr ⟨g, n + x, cur, rfl, hB, h1, Nat.le_add_right _ _, h2, h3, h4⟩⟩
theorem own_appQ {w1 : World} {B n : Nat} {vv : Value} {P : Nat → Nat} (h : w1.ownsRow B 5 1 vv n (zH .u8 P n)) (hB : B ≤ w1.heap.size) {q : Pt8} (hq : Pok q) (hN : q.p = none → q.cp = 0) (hR : q.rs w1) (hb : n + q.n ≤ 2097152) (ty : TypeId) :
  ∃ v' w2, (Builtin.append_ #[51, 51] ty #[vv, .slice q.p q.n q.cp]).run Tryz.prog w1 = .ok v' w2 ∧ w2.ownsRow B 5 1 v' (n + q.n) (zH .u8 (ct P n q.f) (n + q.n)) ∧ w1.grownBy w2 vv.ownBlock ∧ (v'.ownBlock = vv.ownBlock ∨ v'.ownBlock = some w1.heap.size) := by
 obtain ⟨gb, o, m, cp, p, f⟩ := q
 obtain ⟨hB', hle⟩ := hq
 simp only [Pt8.rs] at hB' hN hR hb hle ⊢
 cases p with
 | none =>
  have hn : m = 0 := by
   rcases Nat.eq_zero_or_pos m with e | e
   ·exact e
   ·have := hB'.1 e
    simp at this
  have hc := hN rfl
  subst hn hc
  obtain ⟨i0, hi, _, _, _⟩ := info_byte
  exact ⟨vv, w1, run_append_owned_none (P := Tryz.prog) (w := w1) B 51 ty 5 i0 1 Tryz.underlying51 hi vv n _ h, own_cg h (fun j hj => by unfold ct; rw [if_pos (show j < n from hj)]), ⟨rfl, rfl, rfl, Nat.le_refl _, fun _ _ _ => rfl⟩, .inl rfl⟩
 | some a =>
  refine own_app h hB (a := a) m cp f (fun j hj => ?_) hb ty
  have e := hB'.1 (by omega)
  injection e with e1
  injection e1 with e1
  rw [e1]
  exact hR.add j hj
/-- Two parts that can be read, apart from blocks L that may change. -/
structure Sr (w : World) (L : List Nat) (q0 q1 : Pt8) (w' : World) : Prop where
 b : Below w.heap.size w w'
 r0 : q0.rs w'
 r1 : q1.rs w'
 a0 : 0 < q0.n → q0.gb ∉ L
 a1 : 0 < q1.n → q1.gb ∉ L
section
variable {w w1 w2 : World} {L : List Nat} {q0 q1 q : Pt8} {g : Nat}
theorem Rs.kpx {g gb o n : Nat} {f : Nat → Nat} {w w' : World} (h : Rs gb o n f w) (k : Kp g w w') (ne : 0 < n → gb ≠ g) : Rs gb o n f w' := by
 refine ⟨fun hn => Nat.lt_of_lt_of_le (h.lt hn) k.size, fun i hi => ?_⟩
 have e := k.block gb (h.lt (by omega)) (ne (by omega))
 rw [World.cell?_of_block (w := w) (a := ⟨gb, o + i, none⟩) e]
 exact h.at_ i hi
theorem Sr.size (h : Sr w L q0 q1 w1) : w.heap.size ≤ w1.heap.size := h.b.size
theorem Sr.step (h : Sr w L q0 q1 w1) (hb : Below w1.heap.size w1 w2) : Sr w L q0 q1 w2 := ⟨h.b.trans (hb.mono h.b.size), h.r0.below hb, h.r1.below hb, h.a0, h.a1⟩
theorem Sr.kp (h : Sr w L q0 q1 w1) (hk : Kp g w1 w2) (hg : g ∈ L) (ho : w.heap.size ≤ g) : Sr w L q0 q1 w2 :=
 ⟨Below.kp h.b hk ho h.b.size, h.r0.kpx hk (fun hn e => h.a0 hn (e ▸ hg)), h.r1.kpx hk (fun hn e => h.a1 hn (e ▸ hg)), h.a0, h.a1⟩
theorem Sr.put {off : Nat} {vs : List Value} (h : Sr w L q0 q1 w1) (hg : g ∈ L) (ho : w.heap.size ≤ g) : Sr w L q0 q1 (w1.setCells g off vs) := h.kp ((Kp.refl g w1).put (Or.inl rfl)) hg ho
theorem Sr.more (h : Sr w L q0 q1 w1) (h0 : 0 < q0.n → q0.gb < g) (h1 : 0 < q1.n → q1.gb < g) : Sr w (g :: L) q0 q1 w1 :=
 ⟨h.b, h.r0, h.r1, fun hn hm => by
  rcases List.mem_cons.1 hm with e | e
  ·have := h0 hn; omega
  ·exact h.a0 hn e, fun hn hm => by
  rcases List.mem_cons.1 hm with e | e
  ·have := h1 hn; omega
  ·exact h.a1 hn e⟩
end
end Wi
end Rg
end Go.Proofs.YtahghpkjkfaieaaGreatDoor
end
section
namespace Go.Proofs.YtahghpkjkfaieaaGreatDoor
open Go.RowKit
namespace Rg
namespace Wi
set_option maxRecDepth 100000
section
variable {P : Program} {full : Array Oper} {Q : Exit → Act → World → Prop} {a : Act} {w : World}
theorem zD {id : Nat} {l : List Nat} (h : List.range full.size = l) (hw : wpOps P full Q l a w) : (Code.region id full false).wp P Q a w := wp_region (by rw [h]; exact hw)
theorem zN {id : Nat} {l : List Nat} (h : List.range full.size = l) (hw : ∀ u, u = w → wpOps P full Q l a u) : (Code.region id full false).wp P Q a w := zD h (hw w rfl)
theorem rest_gone1 {i d : Nat} {r : List Nat} {o : Oper} (ho : full[i]? = some o) (hd : o.dst = some d) (hw : Region.wanted o (yielded full a.tmps) = false) (h : wpOps P full Q r (a.put (some d) undef) w) : wpOps P full Q (i :: r) a w := rest_gone ho hw (by rw [hd]; exact h)
end
/-- A value that lies in one cell. -/
def st1 : Value → Bool
 | .int _ _ => true
 | .bool _ => true
 | .slice _ _ _ => true
 | .string _ => true
 | .pointer _ => true
 | _ => false
/-- A slice without its first k, and its first k. -/
def sdrop : Value → Nat → Value
 | .slice p m c, k => .slice (if c = k then p else p.map (·.add k)) (m - k) (c - k)
 | v, _ => v
def stake : Value → Nat → Value
 | .slice p _ c, k => .slice p k c
 | v, _ => v
section
variable {ρ : Operand → Value} {o : Oper} {x y z : Operand} {t : TypeId} {g off : Nat} {v : Value} {w : World}
theorem ex_st1 {cs : List Value} {l : List (Nat × List Value)} (h : Mm w l) (k : Nat) (hk : l[k]? = some (g, cs)) (ho : o.op = .store t x y) (hs : ∀ w, (sizeOf t).run Tryz.prog w = .ok 1 w) (hx : ρ x = PT g off) (hy : ρ y = v) (h1 : st1 v = true) (hc : off < cs.length) :
  (execOp ρ o).run Tryz.prog w = .ok .skip (w.setCells g off [v]) := by
 have hm := List.mem_of_getElem? hk
 have e : cs[off]? = some (cs[off]'hc) := List.getElem?_eq_getElem _
 have c0 := h.cell hm e
 have f0 := h.free hm e
 clear h hm hk
 simp only [execOp, ho, hx, hy]
 cases v with
 | int k n => clear h1 hy; go_simp; simp [World.setCells]
 | bool _ => clear h1 hy; go_simp; simp [World.setCells]
 | slice _ _ _ => clear h1 hy; go_simp; simp [World.setCells]
 | string _ => clear h1 hy; go_simp; simp [World.setCells]
 | pointer _ => clear h1 hy; go_simp; simp [World.setCells]
 | _ => cases h1
theorem ex_take {p : Option Addr} {m c k : Nat} (hk : k ≤ c) (ho : o.op = .slice 51 x none (some y) none) (hx : ρ x = .slice p m c) (hy : ρ y = .int .i64 (k : Int)) :
  (execOp ρ o).run Tryz.prog w = .ok (.value (stake (.slice p m c) k)) w := by
 have h1 : (k : Int) ≤ c := by omega
 unfold stake
 simp only [execOp, ho, hx, hy, Option.map_some, Option.map_none]
 clear ho hx hy
 cases p <;> go_simp
theorem ex_drop {p : Option Addr} {m c k : Nat} (hk : k ≤ m) (ho : o.op = .slice 51 x (some y) none none) (hx : ρ x = .slice p m c) (hy : ρ y = .int .i64 (k : Int)) :
  (execOp ρ o).run Tryz.prog w = .ok (.value (sdrop (.slice p m c) k)) w := by
 have h1 : (k : Int) ≤ m := by omega
 unfold sdrop
 simp only [execOp, ho, hx, hy, Option.map_some, Option.map_none]
 clear ho hx hy
 cases p <;> go_simp
end
/-! A slice of which the first i are gone. -/
theorem sdrop_slice (p : Option Addr) (m c k : Nat) : sdrop (.slice p m c) k = .slice (if c = k then p else p.map (·.add k)) (m - k) (c - k) := rfl
theorem Bv.slice {gb o n cp i : Nat} {v : Value} (h : Bv gb o n cp i v) (hi : i ≤ n) : ∃ p c, v = .slice p (n - i) c ∧ n - i ≤ c + (n - cp) := by
 rcases Nat.lt_or_eq_of_le hi with e | e
 ·exact ⟨_, _, h.1 e, by omega⟩
 ·obtain ⟨p, c, h2⟩ := h.2 e
  exact ⟨p, c, by rw [h2, e, Nat.sub_self], by omega⟩
theorem Bv.drop {gb o n cp i k : Nat} {v : Value} (h : Bv gb o n cp i v) (hle : n ≤ cp) (_hk : i + k ≤ n) : Bv gb o n cp (i + k) (sdrop v k) := by
 refine ⟨fun hlt => ?_, fun he => ?_⟩
 ·rw [h.1 (by omega)]
  rw [sdrop_slice]
  rw [if_neg (by omega), Option.map_some, show (⟨gb, o + i, none⟩ : Addr).add k = ⟨gb, o + (i + k), none⟩ by unfold Addr.add; split <;> simp_all [Nat.add_assoc], Nat.sub_sub, Nat.sub_sub]
 ·rcases Nat.lt_or_eq_of_le (show i ≤ n by omega) with e | e
  ·rw [h.1 e]
   rw [sdrop_slice]
   exact ⟨_, _, by rw [show n - i - k = 0 by omega]⟩
  ·obtain ⟨p, c, h2⟩ := h.2 e
   rw [h2]
   rw [sdrop_slice]
   exact ⟨_, _, by rw [Nat.zero_sub]⟩
/-- The number of k bytes, the highest first. -/
def nv (f : Nat → Nat) : Nat → Nat
 | 0 => 0
 | k + 1 => nv f k * 256 + f k
theorem nv_lt (f : Nat → Nat) (hf : ∀ j, f j < 256) : ∀ k, nv f k < 256 ^ k
 | 0 => by show (0 : Nat) < 256 ^ 0; decide
 | k + 1 => by
  have h1 := nv_lt f hf k
  have h2 := hf k
  show nv f k * 256 + f k < 256 ^ (k + 1)
  rw [Nat.pow_succ]
  omega
end Wi
end Rg
end Go.Proofs.YtahghpkjkfaieaaGreatDoor
end
section
namespace Go.Proofs.YtahghpkjkfaieaaGreatDoor
open Go.RowKit
namespace Rg
namespace Wi
set_option maxRecDepth 100000
section
variable {ρ : Operand → Value} {o : Oper} {x y : Operand} {a b : Nat} {w : World}
theorem ex_cv64 (h : a < 256) (ho : o.op = .convert 5 22 x) (hx : ρ x = Z8 a) : (execOp ρ o).run Tryz.prog w = .ok (.value (U a)) w := by
 simp only [execOp, ho, hx]
 clear ho hx
 go_simp
 first | (rw [IntKind.wrap_u64]; omega) | omega
theorem ex_shl8 (h : a * 256 < 18446744073709551616) (ho : o.op = .binOp .shl 22 x y 178) (hx : ρ x = U a) (hy : ρ y = U 8) : (execOp ρ o).run Tryz.prog w = .ok (.value (U (a * 256))) w := by
 simp only [execOp, ho, hx, hy]
 clear ho hx hy
 go_simp
 rw [IntKind.wrap_u64]
 omega
theorem ex_or8 (h : a * 256 < 18446744073709551616) (hb : b < 256) (ho : o.op = .binOp .or 22 x y 22) (hx : ρ x = U (a * 256)) (hy : ρ y = U b) : (execOp ρ o).run Tryz.prog w = .ok (.value (U (a * 256 + b))) w := by
 simp only [execOp, ho, hx, hy]
 clear ho hx hy
 have e := bits_or_u64_nat (a * 256) b h (by omega)
 have e2 : a * 256 ||| b = a * 256 + b := by
  have := Nat.two_pow_add_eq_or_of_lt (i := 8) (b := b) (by omega) a
  rw [Nat.mul_comm a 256]
  exact this.symm
 rw [e2] at e
 go_simp
 exact e
end
set_option maxHeartbeats 2000000 in
theorem take_ok (gr : Nat) (p : Option Addr) (m c k : Nat) (hk : k ≤ m) (hc : m ≤ c) (w : World) (hm : Mm w [(gr, [Value.slice p m c, Value.bool false])]) :
  Calls Tryz.prog 67 #[PT gr 0, .int .i64 ((k : Nat) : Int)] w fun e w' => e = .returned (stake (.slice p m c) k) ∧ Mm w' [(gr, [sdrop (.slice p m c) k, Value.bool false])] ∧ Kp gr w w' := by
 have H0 : Hid (_ ∧ _) := ⟨hm, Kp.refl gr w⟩
 clear hm
 go_enter Tryz.func67, Tryz.ntmps67
 refine wp_seq ?_
 refine zN (l := [0]) rfl (fun u0 hu0 => ?_)
 have H1 : Hid (Mm u0 [(gr, [Value.slice p m c, Value.bool false])] ∧ Kp gr w u0) := by rw [hu0]; exact H0
 clear hu0 H0
 refine zA (d := 4) (v := .slice none 0 0) (w' := u0) rfl rfl rfl (rfl) ?_
 simp only [Act.put, sa, sz, ss]
 refine zC (zB ?_)
 refine wp_seq (wp_seq ?_)
 refine zD (l := [0, 1, 2, 3, 4, 5, 6, 7, 8, 9, 10, 11, 12]) rfl ?_
 refine zA (d := 6) (v := PT gr 0) (w' := u0) rfl rfl rfl (rfl) ?_
 simp only [Act.put, sa, sz, ss]
 refine zA (d := 7) (v := PT gr 0) (w' := u0) rfl rfl rfl (by go_simp) ?_
 simp only [Act.put, sa, sz, ss]
 refine zA (d := 8) (v := PT gr 1) (w' := u0) rfl rfl rfl (by go_simp) ?_
 simp only [Act.put, sa, sz, ss]
 refine zA (d := 9) (v := .bool false) (w' := u0) rfl rfl rfl (zJ H1.out.1 0 rfl rfl rfl Ai4 rfl) ?_
 simp only [Act.put, sa, sz, ss]
 refine zA (d := 10) (v := .bool false) (w' := u0) rfl rfl rfl (rfl) ?_
 simp only [Act.put, sa, sz, ss]
 refine zA (d := 11) (v := .int .i64 ((k : Nat) : Int)) (w' := u0) rfl rfl rfl (rfl) ?_
 simp only [Act.put, sa, sz, ss]
 refine zA (d := 12) (v := PT gr 0) (w' := u0) rfl rfl rfl (rfl) ?_
 simp only [Act.put, sa, sz, ss]
 refine zA (d := 13) (v := PT gr 0) (w' := u0) rfl rfl rfl (by go_simp) ?_
 simp only [Act.put, sa, sz, ss]
 refine zA (d := 14) (v := PT gr 0) (w' := u0) rfl rfl rfl (by go_simp) ?_
 simp only [Act.put, sa, sz, ss]
 refine zA (d := 15) (v := .slice p m c) (w' := u0) rfl rfl rfl (zJ H1.out.1 0 rfl rfl rfl Ai51 rfl) ?_
 simp only [Act.put, sa, sz, ss]
 refine zA (d := 16) (v := .int .i64 ((m : Nat) : Int)) (w' := u0) rfl rfl rfl (by go_simp) ?_
 simp only [Act.put, sa, sz, ss]
 refine zA (d := 17) (v := .bool false) (w' := u0) rfl rfl rfl (by go_simp <;> omega) ?_
 simp only [Act.put, sa, sz, ss]
 refine zA (d := 18) (v := .bool false) (w' := u0) rfl rfl rfl (by go_simp) ?_
 simp only [Act.put, sa, sz, ss]
 refine zC (zB ?_)
 refine wp_cond_false rfl (wp_skip ?_)
 refine zB (wp_seq ?_)
 refine zD (l := [0, 1, 2, 3, 4, 5, 6]) rfl ?_
 refine zA (d := 22) (v := PT gr 0) (w' := u0) rfl rfl rfl (rfl) ?_
 simp only [Act.put, sa, sz, ss]
 refine zA (d := 23) (v := PT gr 0) (w' := u0) rfl rfl rfl (by go_simp) ?_
 simp only [Act.put, sa, sz, ss]
 refine zA (d := 24) (v := PT gr 0) (w' := u0) rfl rfl rfl (by go_simp) ?_
 simp only [Act.put, sa, sz, ss]
 refine zA (d := 25) (v := .slice p m c) (w' := u0) rfl rfl rfl (zJ H1.out.1 0 rfl rfl rfl Ai51 rfl) ?_
 simp only [Act.put, sa, sz, ss]
 refine zA (d := 26) (v := .int .i64 ((k : Nat) : Int)) (w' := u0) rfl rfl rfl (rfl) ?_
 simp only [Act.put, sa, sz, ss]
 refine zA (d := 27) (v := stake (.slice p m c) k) (w' := u0) rfl rfl rfl (ex_take (by omega) rfl rfl rfl) ?_
 simp only [Act.put, sa, sz, ss]
 refine zA (d := 5) (v := stake (.slice p m c) k) (w' := u0) rfl rfl rfl (rfl) ?_
 simp only [Act.put, sa, sz, ss]
 refine zC (zB (wp_seq ?_))
 refine zD (l := [0, 1, 2, 3, 4, 5, 6, 7, 8, 9]) rfl ?_
 refine zA (d := 28) (v := PT gr 0) (w' := u0) rfl rfl rfl (rfl) ?_
 simp only [Act.put, sa, sz, ss]
 refine zA (d := 29) (v := PT gr 0) (w' := u0) rfl rfl rfl (rfl) ?_
 simp only [Act.put, sa, sz, ss]
 refine zA (d := 30) (v := PT gr 0) (w' := u0) rfl rfl rfl (by go_simp) ?_
 simp only [Act.put, sa, sz, ss]
 refine zA (d := 31) (v := PT gr 0) (w' := u0) rfl rfl rfl (by go_simp) ?_
 simp only [Act.put, sa, sz, ss]
 refine zA (d := 32) (v := .slice p m c) (w' := u0) rfl rfl rfl (zJ H1.out.1 0 rfl rfl rfl Ai51 rfl) ?_
 simp only [Act.put, sa, sz, ss]
 refine zA (d := 33) (v := .int .i64 ((k : Nat) : Int)) (w' := u0) rfl rfl rfl (rfl) ?_
 simp only [Act.put, sa, sz, ss]
 refine zA (d := 34) (v := sdrop (.slice p m c) k) (w' := u0) rfl rfl rfl (ex_drop (by omega) rfl rfl rfl) ?_
 simp only [Act.put, sa, sz, ss]
 refine zA (d := 35) (v := PT gr 0) (w' := u0) rfl rfl rfl (by go_simp) ?_
 simp only [Act.put, sa, sz, ss]
 refine zA (d := 36) (v := PT gr 0) (w' := u0) rfl rfl rfl (by go_simp) ?_
 simp only [Act.put, sa, sz, ss]
 refine rest_store rfl rfl rfl (ex_st1 (v := sdrop (.slice p m c) k) H1.out.1 0 rfl rfl As51 rfl rfl (rfl) (Nat.le_of_ble_eq_true rfl)) ?_
 have H2 : Hid (Mm (u0.setCells gr 0 [sdrop (.slice p m c) k]) [(gr, [sdrop (.slice p m c) k, Value.bool false])] ∧ Kp gr w (u0.setCells gr 0 [sdrop (.slice p m c) k])) := ⟨H1.out.1.put 0 (off := 0) (vs := [sdrop (.slice p m c) k]) rfl (Nat.le_of_ble_eq_true rfl), H1.out.2.put (Or.inl rfl)⟩
 clear H1
 generalize hgw : World.setCells _ _ _ _ = w2 at H2 ⊢
 clear hgw
 refine zC (zB (wp_seq ?_))
 refine zD (l := [0, 1]) rfl ?_
 refine zA (d := 37) (v := stake (.slice p m c) k) (w' := w2) rfl rfl rfl (rfl) ?_
 simp only [Act.put, sa, sz, ss]
 refine zA (d := 4) (v := stake (.slice p m c) k) (w' := w2) rfl rfl rfl (rfl) ?_
 simp only [Act.put, sa, sz, ss]
 refine zC (zB (wp_ret ?_))
 repeat (first | refine zL ?_ | refine zK ?_)
 refine bodyPost_ret (v := stake (.slice p m c) k) (by simp [results, Tryz.results67, go_sem, *]) rfl ?_
 exact ⟨rfl, H2.out.1, H2.out.2⟩
set_option maxHeartbeats 2000000 in
theorem take_bad (gr : Nat) (p : Option Addr) (m c k : Nat)  (w : World) (hm : Mm w [(gr, [Value.slice p m c, Value.bool true])]) :
  Calls Tryz.prog 67 #[PT gr 0, .int .i64 ((k : Nat) : Int)] w fun e w' => e = .returned (.slice none 0 0) ∧ Mm w' [(gr, [Value.slice p m c, Value.bool true])] ∧ Kp gr w w' := by
 have H0 : Hid (_ ∧ _) := ⟨hm, Kp.refl gr w⟩
 clear hm
 go_enter Tryz.func67, Tryz.ntmps67
 refine wp_seq ?_
 refine zN (l := [0]) rfl (fun u0 hu0 => ?_)
 have H1 : Hid (Mm u0 [(gr, [Value.slice p m c, Value.bool true])] ∧ Kp gr w u0) := by rw [hu0]; exact H0
 clear hu0 H0
 refine zA (d := 4) (v := .slice none 0 0) (w' := u0) rfl rfl rfl (rfl) ?_
 simp only [Act.put, sa, sz, ss]
 refine zC (zB ?_)
 refine wp_seq (wp_seq ?_)
 refine zD (l := [0, 1, 2, 3, 4, 5, 6, 7, 8, 9, 10, 11, 12]) rfl ?_
 refine zA (d := 6) (v := PT gr 0) (w' := u0) rfl rfl rfl (rfl) ?_
 simp only [Act.put, sa, sz, ss]
 refine zA (d := 7) (v := PT gr 0) (w' := u0) rfl rfl rfl (by go_simp) ?_
 simp only [Act.put, sa, sz, ss]
 refine zA (d := 8) (v := PT gr 1) (w' := u0) rfl rfl rfl (by go_simp) ?_
 simp only [Act.put, sa, sz, ss]
 refine zA (d := 9) (v := .bool true) (w' := u0) rfl rfl rfl (zJ H1.out.1 0 rfl rfl rfl Ai4 rfl) ?_
 simp only [Act.put, sa, sz, ss]
 refine zA (d := 10) (v := .bool true) (w' := u0) rfl rfl rfl (rfl) ?_
 simp only [Act.put, sa, sz, ss]
 refine rest_gone1 (d := 11) rfl rfl rfl ?_
 simp only [Act.put, sa, sz, ss]
 refine rest_gone1 (d := 12) rfl rfl rfl ?_
 simp only [Act.put, sa, sz, ss]
 refine rest_gone1 (d := 13) rfl rfl rfl ?_
 simp only [Act.put, sa, sz, ss]
 refine rest_gone1 (d := 14) rfl rfl rfl ?_
 simp only [Act.put, sa, sz, ss]
 refine rest_gone1 (d := 15) rfl rfl rfl ?_
 simp only [Act.put, sa, sz, ss]
 refine rest_gone1 (d := 16) rfl rfl rfl ?_
 simp only [Act.put, sa, sz, ss]
 refine rest_gone1 (d := 17) rfl rfl rfl ?_
 simp only [Act.put, sa, sz, ss]
 refine zA (d := 18) (v := .bool true) (w' := u0) rfl rfl rfl (by go_simp) ?_
 simp only [Act.put, sa, sz, ss]
 refine zC (zB ?_)
 refine wp_cond_true rfl (wp_seq ?_)
 refine zD (l := [0, 1, 2, 3]) rfl ?_
 refine zA (d := 19) (v := PT gr 0) (w' := u0) rfl rfl rfl (rfl) ?_
 simp only [Act.put, sa, sz, ss]
 refine zA (d := 20) (v := PT gr 0) (w' := u0) rfl rfl rfl (by go_simp) ?_
 simp only [Act.put, sa, sz, ss]
 refine zA (d := 21) (v := PT gr 1) (w' := u0) rfl rfl rfl (by go_simp) ?_
 simp only [Act.put, sa, sz, ss]
 refine rest_store rfl rfl rfl (ex_st1 (v := .bool true) H1.out.1 0 rfl rfl As4 rfl rfl (rfl) (Nat.le_of_ble_eq_true rfl)) ?_
 have H2 : Hid (Mm (u0.setCells gr 1 [Value.bool true]) [(gr, [Value.slice p m c, Value.bool true])] ∧ Kp gr w (u0.setCells gr 1 [Value.bool true])) := ⟨H1.out.1.put 0 (off := 1) (vs := [Value.bool true]) rfl (Nat.le_of_ble_eq_true rfl), H1.out.2.put (Or.inl rfl)⟩
 clear H1
 generalize hgw : World.setCells _ _ _ _ = w2 at H2 ⊢
 clear hgw
 refine zC (zB (wp_seq ?_))
 refine zD (l := [0]) rfl ?_
 refine zA (d := 4) (v := .slice none 0 0) (w' := w2) rfl rfl rfl (rfl) ?_
 simp only [Act.put, sa, sz, ss]
 refine zC (zB (wp_ret ?_))
 repeat (first | refine zL ?_ | refine zK ?_)
 refine bodyPost_ret (v := .slice none 0 0) (by simp [results, Tryz.results67, go_sem, *]) rfl ?_
 exact ⟨rfl, H2.out.1, H2.out.2⟩
set_option maxHeartbeats 2000000 in
theorem take_long (gr : Nat) (p : Option Addr) (m c k : Nat) (hk : m < k) (w : World) (hm : Mm w [(gr, [Value.slice p m c, Value.bool false])]) :
  Calls Tryz.prog 67 #[PT gr 0, .int .i64 ((k : Nat) : Int)] w fun e w' => e = .returned (.slice none 0 0) ∧ Mm w' [(gr, [Value.slice p m c, Value.bool true])] ∧ Kp gr w w' := by
 have H0 : Hid (_ ∧ _) := ⟨hm, Kp.refl gr w⟩
 clear hm
 go_enter Tryz.func67, Tryz.ntmps67
 refine wp_seq ?_
 refine zN (l := [0]) rfl (fun u0 hu0 => ?_)
 have H1 : Hid (Mm u0 [(gr, [Value.slice p m c, Value.bool false])] ∧ Kp gr w u0) := by rw [hu0]; exact H0
 clear hu0 H0
 refine zA (d := 4) (v := .slice none 0 0) (w' := u0) rfl rfl rfl (rfl) ?_
 simp only [Act.put, sa, sz, ss]
 refine zC (zB ?_)
 refine wp_seq (wp_seq ?_)
 refine zD (l := [0, 1, 2, 3, 4, 5, 6, 7, 8, 9, 10, 11, 12]) rfl ?_
 refine zA (d := 6) (v := PT gr 0) (w' := u0) rfl rfl rfl (rfl) ?_
 simp only [Act.put, sa, sz, ss]
 refine zA (d := 7) (v := PT gr 0) (w' := u0) rfl rfl rfl (by go_simp) ?_
 simp only [Act.put, sa, sz, ss]
 refine zA (d := 8) (v := PT gr 1) (w' := u0) rfl rfl rfl (by go_simp) ?_
 simp only [Act.put, sa, sz, ss]
 refine zA (d := 9) (v := .bool false) (w' := u0) rfl rfl rfl (zJ H1.out.1 0 rfl rfl rfl Ai4 rfl) ?_
 simp only [Act.put, sa, sz, ss]
 refine zA (d := 10) (v := .bool false) (w' := u0) rfl rfl rfl (rfl) ?_
 simp only [Act.put, sa, sz, ss]
 refine zA (d := 11) (v := .int .i64 ((k : Nat) : Int)) (w' := u0) rfl rfl rfl (rfl) ?_
 simp only [Act.put, sa, sz, ss]
 refine zA (d := 12) (v := PT gr 0) (w' := u0) rfl rfl rfl (rfl) ?_
 simp only [Act.put, sa, sz, ss]
 refine zA (d := 13) (v := PT gr 0) (w' := u0) rfl rfl rfl (by go_simp) ?_
 simp only [Act.put, sa, sz, ss]
 refine zA (d := 14) (v := PT gr 0) (w' := u0) rfl rfl rfl (by go_simp) ?_
 simp only [Act.put, sa, sz, ss]
 refine zA (d := 15) (v := .slice p m c) (w' := u0) rfl rfl rfl (zJ H1.out.1 0 rfl rfl rfl Ai51 rfl) ?_
 simp only [Act.put, sa, sz, ss]
 refine zA (d := 16) (v := .int .i64 ((m : Nat) : Int)) (w' := u0) rfl rfl rfl (by go_simp) ?_
 simp only [Act.put, sa, sz, ss]
 refine zA (d := 17) (v := .bool true) (w' := u0) rfl rfl rfl (by go_simp <;> omega) ?_
 simp only [Act.put, sa, sz, ss]
 refine zA (d := 18) (v := .bool true) (w' := u0) rfl rfl rfl (by go_simp) ?_
 simp only [Act.put, sa, sz, ss]
 refine zC (zB ?_)
 refine wp_cond_true rfl (wp_seq ?_)
 refine zD (l := [0, 1, 2, 3]) rfl ?_
 refine zA (d := 19) (v := PT gr 0) (w' := u0) rfl rfl rfl (rfl) ?_
 simp only [Act.put, sa, sz, ss]
 refine zA (d := 20) (v := PT gr 0) (w' := u0) rfl rfl rfl (by go_simp) ?_
 simp only [Act.put, sa, sz, ss]
 refine zA (d := 21) (v := PT gr 1) (w' := u0) rfl rfl rfl (by go_simp) ?_
 simp only [Act.put, sa, sz, ss]
 refine rest_store rfl rfl rfl (ex_st1 (v := .bool true) H1.out.1 0 rfl rfl As4 rfl rfl (rfl) (Nat.le_of_ble_eq_true rfl)) ?_
 have H2 : Hid (Mm (u0.setCells gr 1 [Value.bool true]) [(gr, [Value.slice p m c, Value.bool true])] ∧ Kp gr w (u0.setCells gr 1 [Value.bool true])) := ⟨H1.out.1.put 0 (off := 1) (vs := [Value.bool true]) rfl (Nat.le_of_ble_eq_true rfl), H1.out.2.put (Or.inl rfl)⟩
 clear H1
 generalize hgw : World.setCells _ _ _ _ = w2 at H2 ⊢
 clear hgw
 refine zC (zB (wp_seq ?_))
 refine zD (l := [0]) rfl ?_
 refine zA (d := 4) (v := .slice none 0 0) (w' := w2) rfl rfl rfl (rfl) ?_
 simp only [Act.put, sa, sz, ss]
 refine zC (zB (wp_ret ?_))
 repeat (first | refine zL ?_ | refine zK ?_)
 refine bodyPost_ret (v := .slice none 0 0) (by simp [results, Tryz.results67, go_sem, *]) rfl ?_
 exact ⟨rfl, H2.out.1, H2.out.2⟩
end Wi
end Rg
end Go.Proofs.YtahghpkjkfaieaaGreatDoor
end
section
namespace Go.Proofs.YtahghpkjkfaieaaGreatDoor
open Go.RowKit
namespace Rg
namespace Wi
theorem call44 : CO 44 := by intro args w; go_simp
theorem call67 : CO 67 := by intro args w; go_simp
set_option maxRecDepth 100000
section
variable {ρ : Operand → Value} {o : Oper} {x y : Operand} {a b : Nat} {w : World}
theorem ex_cvI (h : a < 9223372036854775808) (ho : o.op = .convert 3 22 x) (hx : ρ x = .int .i64 ((a : Nat) : Int)) : (execOp ρ o).run Tryz.prog w = .ok (.value (U a)) w := by
 simp only [execOp, ho, hx]
 clear ho hx
 go_simp
 first | (rw [IntKind.wrap_u64]; omega) | omega
theorem ex_cvU (h : a < 9223372036854775808) (ho : o.op = .convert 22 3 x) (hx : ρ x = U a) : (execOp ρ o).run Tryz.prog w = .ok (.value (.int .i64 ((a : Nat) : Int))) w := by
 simp only [execOp, ho, hx]
 clear ho hx
 go_simp
 first | (rw [IntKind.wrap_i64]; omega) | omega
theorem ex_gtN (h : a ≤ b) (ho : o.op = .binOp .gtr 22 x y 22) (hx : ρ x = U a) (hy : ρ y = U b) : (execOp ρ o).run Tryz.prog w = .ok (.value (.bool false)) w := by
 have h1 : ¬ (b : Int) < a := by omega
 simp only [execOp, ho, hx, hy]
 clear ho hx hy
 go_simp
end
set_option maxHeartbeats 2000000 in
theorem number_ok (gr gb o m c k most : Nat) (f : Nat → Nat) (cs : List Value) (hk : k ≤ m) (h8 : k ≤ 8) (hc : m ≤ c) (hmo : most < 9223372036854775808) (hf : ∀ j, f j < 256) (hn : ∀ z, z < k → nv f z * 256 < 18446744073709551616) (hcs : ∀ i, i < k → cs[o + i]? = some (Z8 (f i))) (hV : nv f k ≤ most) (w : World) (hm : Mm w [(gr, [Value.slice (some ⟨gb, o, none⟩) m c, Value.bool false]), (gb, cs)]) :
  Calls Tryz.prog 44 #[PT gr 0, .int .i64 ((k : Nat) : Int), .int .i64 ((most : Nat) : Int)] w fun e w' => e = .returned (.int .i64 ((nv f k : Nat) : Int)) ∧ Mm w' [(gr, [sdrop (.slice (some ⟨gb, o, none⟩) m c) k, Value.bool false])] ∧ Kp gr w w' := by
 have H0 : Hid (_ ∧ _) := ⟨hm, Kp.refl gr w⟩
 clear hm
 have hF : Hid _ := hf
 have hN : Hid _ := hn
 have hC : Hid _ := hcs
 clear hf hn hcs
 go_enter Tryz.func44, Tryz.ntmps44
 refine wp_seq ?_
 refine zN (l := [0]) rfl (fun u0 hu0 => ?_)
 have H1 : Hid (Mm u0 [(gr, [Value.slice (some ⟨gb, o, none⟩) m c, Value.bool false]), (gb, cs)] ∧ Kp gr w u0) := by rw [hu0]; exact H0
 clear hu0 H0
 refine zA (d := 6) (v := .int .i64 0) (w' := u0) rfl rfl rfl (rfl) ?_
 simp only [Act.put, sa, sz, ss]
 refine zC (zB (wp_seq ?_))
 refine zD (l := [0]) rfl ?_
 refine zA (d := 7) (v := U 0) (w' := u0) rfl rfl rfl (rfl) ?_
 simp only [Act.put, sa, sz, ss]
 refine zC (zB ?_)
 refine wp_seq (wp_seq ?_)
 refine zD (l := [0, 1, 2, 3, 4]) rfl ?_
 refine zA (d := 10) (v := PT gr 0) (w' := u0) rfl rfl rfl (rfl) ?_
 simp only [Act.put, sa, sz, ss]
 refine zA (d := 11) (v := .int .i64 ((k : Nat) : Int)) (w' := u0) rfl rfl rfl (rfl) ?_
 simp only [Act.put, sa, sz, ss]
 refine zF (d := 12) (R := fun vv w' => vv = .slice (some ⟨gb, o, none⟩) k c ∧ Mm w' [(gr, [sdrop (.slice (some ⟨gb, o, none⟩) m c) k, Value.bool false])] ∧ Kp gr u0 w') rfl rfl rfl (zG (args := #[PT gr 0, .int .i64 ((k : Nat) : Int)]) rfl call67 rfl (mpn rfl)) (Calls.mono (take_ok gr (some ⟨gb, o, none⟩) m c k (by omega) (by omega) u0 (H1.out.1.one 0 rfl)) (fun e w2 hh => ⟨_, hh.1, rfl, hh.2⟩)) ?_
 rintro _ w2 ⟨rfl, hn, hp⟩
 have H2 : Hid (Mm w2 [(gr, [sdrop (.slice (some ⟨gb, o, none⟩) m c) k, Value.bool false]), (gb, cs)] ∧ Kp gr w w2) := ⟨H1.out.1.change 0 rfl hp hn, H1.out.2.join hp⟩
 clear hn hp
 clear H1
 simp only [Act.put, sa, sz, ss]
 refine zA (d := 13) (v := .int .i64 ((k : Nat) : Int)) (w' := w2) rfl rfl rfl (by go_simp) ?_
 simp only [Act.put, sa, sz, ss]
 refine zA (d := 14) (v := .int .i64 0) (w' := w2) rfl rfl rfl (rfl) ?_
 simp only [Act.put, sa, sz, ss]
 refine zC (zB (wp_block ?_))
 refine loop_ghost (α := Nat) (fun z a' w' => ∃ s0 : Nat → Value, a' = ⟨#[PT gr 0, .int .i64 ((k : Nat) : Int), .int .i64 ((most : Nat) : Int), ud, ud, ud, .int .i64 0, U (nv f z), ud, s0 9, PT gr 0, .int .i64 ((k : Nat) : Int), .slice (some ⟨gb, o, none⟩) k c, .int .i64 ((k : Nat) : Int), .int .i64 ((z : Nat) : Int), s0 15, s0 16, s0 17, s0 18, s0 19, s0 20, s0 21, s0 22, s0 23, ud, ud, ud, ud, ud, ud, ud, ud, ud], []⟩ ∧ (Mm w' [(gr, [sdrop (.slice (some ⟨gb, o, none⟩) m c) k, Value.bool false]), (gb, cs)] ∧ Kp gr w w') ∧ z ≤ k) (fun z => k - z) 0 ?st0 ?rd0
 case st0 => exact ⟨(slotfn [ud, ud, ud, ud, ud, ud, ud, ud, ud, ud, ud, ud, ud, ud, ud, ud, ud, ud, ud, ud, ud, ud, ud, ud]), rfl, ⟨H2.out.1, H2.out.2⟩, by omega⟩
 intro z a' w3 hI
 obtain ⟨s0, rfl, hMB, hk0⟩ := hI
 have H3 : Hid (_ ∧ _) := hMB
 clear hMB H2
 by_cases hltz : z < k
 ·have hrd : True := trivial
  clear hrd
  refine wp_seq ?_
  refine zD (l := [0]) rfl ?_
  refine zA (d := 15) (v := .bool true) (w' := w3) rfl rfl rfl (by go_simp <;> omega) ?_
  simp only [Act.put, sa, sz, ss]
  refine zC (zB ?_)
  refine wp_seq (wp_cond_true rfl ?_)
  refine wp_skip (zB ?_)
  refine wp_seq (wp_block (wp_seq ?_))
  refine zD (l := [0, 1, 2]) rfl ?_
  refine zA (d := 16) (v := PT gb (o + z)) (w' := w3) rfl rfl rfl (ex_ixS22 (j := z) rfl rfl rfl (by omega)) ?_
  simp only [Act.put, sa, sz, ss]
  refine zA (d := 17) (v := Z8 (f z)) (w' := w3) rfl rfl rfl (zJ H3.out.1 1 rfl rfl rfl Tryz.isAgg5 (hC.out z (by omega))) ?_
  simp only [Act.put, sa, sz, ss]
  refine zA (d := 9) (v := Z8 (f z)) (w' := w3) rfl rfl rfl (rfl) ?_
  simp only [Act.put, sa, sz, ss]
  refine zC (zB ?_)
  refine zD (l := [0, 1, 2, 3, 4, 5]) rfl ?_
  refine zA (d := 18) (v := U (nv f z)) (w' := w3) rfl rfl rfl (rfl) ?_
  simp only [Act.put, sa, sz, ss]
  refine zA (d := 19) (v := U ((nv f z) * 256)) (w' := w3) rfl rfl rfl (ex_shl8 (hN.out z (by omega)) rfl rfl rfl) ?_
  simp only [Act.put, sa, sz, ss]
  refine zA (d := 20) (v := Z8 (f z)) (w' := w3) rfl rfl rfl (rfl) ?_
  simp only [Act.put, sa, sz, ss]
  refine zA (d := 21) (v := U (f z)) (w' := w3) rfl rfl rfl (ex_cv64 (hF.out z) rfl rfl) ?_
  simp only [Act.put, sa, sz, ss]
  refine zA (d := 22) (v := U ((nv f z) * 256 + (f z))) (w' := w3) rfl rfl rfl (ex_or8 (hN.out z (by omega)) (hF.out z) rfl rfl rfl) ?_
  simp only [Act.put, sa, sz, ss]
  refine zA (d := 7) (v := U ((nv f z) * 256 + (f z))) (w' := w3) rfl rfl rfl (rfl) ?_
  simp only [Act.put, sa, sz, ss]
  refine zC (zS (zB ?_))
  refine zD (l := [0, 1]) rfl ?_
  refine zA (d := 23) (v := .int .i64 ((z + 1 : Nat) : Int)) (w' := w3) rfl rfl rfl (by go_simp; rw [IntKind.wrap_i64]; omega) ?_
  simp only [Act.put, sa, sz, ss]
  refine zA (d := 14) (v := .int .i64 ((z + 1 : Nat) : Int)) (w' := w3) rfl rfl rfl (rfl) ?_
  simp only [Act.put, sa, sz, ss]
  refine zC (zB ?_)
  exact ⟨z + 1, ⟨(slotfn [ud, ud, ud, ud, ud, ud, ud, ud, ud, Z8 (f z), ud, ud, ud, ud, ud, .bool true, PT gb (o + z), Z8 (f z), U (nv f z), U ((nv f z) * 256), Z8 (f z), U (f z), U ((nv f z) * 256 + (f z)), .int .i64 ((z + 1 : Nat) : Int)]), rfl, ⟨H3.out.1, H3.out.2⟩, by omega⟩, by omega⟩
 have hzN : z = k := by omega
 subst hzN
 have hV2 : Hid _ := hV
 clear hV
 have hV := hV2.out
 refine wp_seq ?_
 refine zD (l := [0]) rfl ?_
 refine zA (d := 15) (v := .bool false) (w' := w3) rfl rfl rfl (by go_simp <;> omega) ?_
 simp only [Act.put, sa, sz, ss]
 refine zC (zB ?_)
 refine wp_seq (wp_cond_false rfl ?_)
 refine wp_exit ?_
 repeat refine zX ?_
 refine zT ?_
 refine zB (wp_seq (wp_seq ?_))
 refine zD (l := [0, 1, 2, 3]) rfl ?_
 refine zA (d := 24) (v := U (nv f z)) (w' := w3) rfl rfl rfl (rfl) ?_
 simp only [Act.put, sa, sz, ss]
 refine zA (d := 25) (v := .int .i64 ((most : Nat) : Int)) (w' := w3) rfl rfl rfl (rfl) ?_
 simp only [Act.put, sa, sz, ss]
 refine zA (d := 26) (v := U most) (w' := w3) rfl rfl rfl (ex_cvI (by omega) rfl rfl) ?_
 simp only [Act.put, sa, sz, ss]
 refine zA (d := 27) (v := .bool false) (w' := w3) rfl rfl rfl (ex_gtN (by omega) rfl rfl rfl) ?_
 simp only [Act.put, sa, sz, ss]
 refine zC (zB ?_)
 refine wp_cond_false rfl (wp_skip ?_)
 refine zB (wp_seq ?_)
 refine zD (l := [0, 1, 2]) rfl ?_
 refine zA (d := 31) (v := U (nv f z)) (w' := w3) rfl rfl rfl (rfl) ?_
 simp only [Act.put, sa, sz, ss]
 refine zA (d := 32) (v := .int .i64 ((nv f z : Nat) : Int)) (w' := w3) rfl rfl rfl (ex_cvU (by omega) rfl rfl) ?_
 simp only [Act.put, sa, sz, ss]
 refine zA (d := 6) (v := .int .i64 ((nv f z : Nat) : Int)) (w' := w3) rfl rfl rfl (rfl) ?_
 simp only [Act.put, sa, sz, ss]
 refine zC (zB (wp_ret ?_))
 repeat (first | refine zL ?_ | refine zK ?_)
 refine bodyPost_ret (v := .int .i64 ((nv f z : Nat) : Int)) (by simp [results, Tryz.results44, go_sem, *]) rfl ?_
 exact ⟨rfl, H3.out.1.one 0 rfl, H3.out.2⟩
set_option maxHeartbeats 2000000 in
theorem number_long (gr : Nat) (p : Option Addr) (m c k most : Nat) (hmo : most < 9223372036854775808) (hk : m < k) (w : World) (hm : Mm w [(gr, [Value.slice p m c, Value.bool false])]) :
  Calls Tryz.prog 44 #[PT gr 0, .int .i64 ((k : Nat) : Int), .int .i64 ((most : Nat) : Int)] w fun e w' => e = .returned (.int .i64 0) ∧ Mm w' [(gr, [Value.slice p m c, Value.bool true])] ∧ Kp gr w w' := by
 have H0 : Hid (_ ∧ _) := ⟨hm, Kp.refl gr w⟩
 clear hm
 go_enter Tryz.func44, Tryz.ntmps44
 refine wp_seq ?_
 refine zN (l := [0]) rfl (fun u0 hu0 => ?_)
 have H1 : Hid (Mm u0 [(gr, [Value.slice p m c, Value.bool false])] ∧ Kp gr w u0) := by rw [hu0]; exact H0
 clear hu0 H0
 refine zA (d := 6) (v := .int .i64 0) (w' := u0) rfl rfl rfl (rfl) ?_
 simp only [Act.put, sa, sz, ss]
 refine zC (zB (wp_seq ?_))
 refine zD (l := [0]) rfl ?_
 refine zA (d := 7) (v := U 0) (w' := u0) rfl rfl rfl (rfl) ?_
 simp only [Act.put, sa, sz, ss]
 refine zC (zB ?_)
 refine wp_seq (wp_seq ?_)
 refine zD (l := [0, 1, 2, 3, 4]) rfl ?_
 refine zA (d := 10) (v := PT gr 0) (w' := u0) rfl rfl rfl (rfl) ?_
 simp only [Act.put, sa, sz, ss]
 refine zA (d := 11) (v := .int .i64 ((k : Nat) : Int)) (w' := u0) rfl rfl rfl (rfl) ?_
 simp only [Act.put, sa, sz, ss]
 refine zF (d := 12) (R := fun vv w' => vv = .slice none 0 0 ∧ Mm w' [(gr, [Value.slice p m c, Value.bool true])] ∧ Kp gr u0 w') rfl rfl rfl (zG (args := #[PT gr 0, .int .i64 ((k : Nat) : Int)]) rfl call67 rfl (mpn rfl)) (Calls.mono (take_long gr p m c k hk u0 (H1.out.1.one 0 rfl)) (fun e w2 hh => ⟨_, hh.1, rfl, hh.2⟩)) ?_
 rintro _ w2 ⟨rfl, hn, hp⟩
 have H2 : Hid (Mm w2 [(gr, [Value.slice p m c, Value.bool true])] ∧ Kp gr w w2) := ⟨H1.out.1.change 0 rfl hp hn, H1.out.2.join hp⟩
 clear hn hp
 clear H1
 simp only [Act.put, sa, sz, ss]
 refine zA (d := 13) (v := .int .i64 0) (w' := w2) rfl rfl rfl (by go_simp) ?_
 simp only [Act.put, sa, sz, ss]
 refine zA (d := 14) (v := .int .i64 0) (w' := w2) rfl rfl rfl (rfl) ?_
 simp only [Act.put, sa, sz, ss]
 refine zC (zB (wp_block ?_))
 refine wp_loop_rounds 1 ?_
 refine zU (n := 0) ?_
 refine wp_seq ?_
 refine zD (l := [0]) rfl ?_
 refine zA (d := 15) (v := .bool false) (w' := w2) rfl rfl rfl (by kernel_rfl) ?_
 simp only [Act.put, sa, sz, ss]
 refine zC (zB ?_)
 refine wp_seq (wp_cond_false rfl ?_)
 refine wp_exit ?_
 repeat refine zX ?_
 refine zT ?_
 refine zB (wp_seq (wp_seq ?_))
 refine zD (l := [0, 1, 2, 3]) rfl ?_
 refine zA (d := 24) (v := U 0) (w' := w2) rfl rfl rfl (rfl) ?_
 simp only [Act.put, sa, sz, ss]
 refine zA (d := 25) (v := .int .i64 ((most : Nat) : Int)) (w' := w2) rfl rfl rfl (rfl) ?_
 simp only [Act.put, sa, sz, ss]
 refine zA (d := 26) (v := U most) (w' := w2) rfl rfl rfl (ex_cvI (by omega) rfl rfl) ?_
 simp only [Act.put, sa, sz, ss]
 refine zA (d := 27) (v := .bool false) (w' := w2) rfl rfl rfl (ex_gtN (a := 0) (Nat.zero_le _) rfl rfl rfl) ?_
 simp only [Act.put, sa, sz, ss]
 refine zC (zB ?_)
 refine wp_cond_false rfl (wp_skip ?_)
 refine zB (wp_seq ?_)
 refine zD (l := [0, 1, 2]) rfl ?_
 refine zA (d := 31) (v := U 0) (w' := w2) rfl rfl rfl (rfl) ?_
 simp only [Act.put, sa, sz, ss]
 refine zA (d := 32) (v := .int .i64 0) (w' := w2) rfl rfl rfl (ex_cvU (a := 0) (by decide) rfl rfl) ?_
 simp only [Act.put, sa, sz, ss]
 refine zA (d := 6) (v := .int .i64 0) (w' := w2) rfl rfl rfl (rfl) ?_
 simp only [Act.put, sa, sz, ss]
 refine zC (zB (wp_ret ?_))
 repeat (first | refine zL ?_ | refine zK ?_)
 refine bodyPost_ret (v := .int .i64 0) (by simp [results, Tryz.results44, go_sem, *]) rfl ?_
 exact ⟨rfl, H2.out.1, H2.out.2⟩
set_option maxHeartbeats 2000000 in
theorem whole_bad (gr : Nat) (p : Option Addr) (m c : Nat)  (w : World) (hm : Mm w [(gr, [Value.slice p m c, Value.bool true])]) :
  Calls Tryz.prog 45 #[PT gr 0] w (Rt w (.bool false)) := by
 have H0 : Hid (_ ∧ _) := ⟨hm, Below.refl w.heap.size w⟩
 clear hm
 go_enter Tryz.func45, Tryz.ntmps45
 refine wp_seq ?_
 refine zN (l := [0]) rfl (fun u0 hu0 => ?_)
 have H1 : Hid (Mm u0 [(gr, [Value.slice p m c, Value.bool true])] ∧ Below w.heap.size w u0) := by rw [hu0]; exact H0
 clear hu0 H0
 refine zA (d := 2) (v := .bool false) (w' := u0) rfl rfl rfl (rfl) ?_
 simp only [Act.put, sa, sz, ss]
 refine zC (zB (wp_seq ?_))
 refine zD (l := [0, 1, 2, 3, 4, 5, 6, 7, 8, 9, 10, 11, 12, 13]) rfl ?_
 refine zA (d := 3) (v := PT gr 0) (w' := u0) rfl rfl rfl (rfl) ?_
 simp only [Act.put, sa, sz, ss]
 refine zA (d := 4) (v := PT gr 0) (w' := u0) rfl rfl rfl (by go_simp) ?_
 simp only [Act.put, sa, sz, ss]
 refine zA (d := 5) (v := PT gr 1) (w' := u0) rfl rfl rfl (by go_simp) ?_
 simp only [Act.put, sa, sz, ss]
 refine zA (d := 6) (v := .bool true) (w' := u0) rfl rfl rfl (zJ H1.out.1 0 rfl rfl rfl Ai4 rfl) ?_
 simp only [Act.put, sa, sz, ss]
 refine zA (d := 7) (v := .bool false) (w' := u0) rfl rfl rfl (by go_simp) ?_
 simp only [Act.put, sa, sz, ss]
 refine zA (d := 8) (v := .bool false) (w' := u0) rfl rfl rfl (rfl) ?_
 simp only [Act.put, sa, sz, ss]
 refine rest_gone1 (d := 9) rfl rfl rfl ?_
 simp only [Act.put, sa, sz, ss]
 refine rest_gone1 (d := 10) rfl rfl rfl ?_
 simp only [Act.put, sa, sz, ss]
 refine rest_gone1 (d := 11) rfl rfl rfl ?_
 simp only [Act.put, sa, sz, ss]
 refine rest_gone1 (d := 12) rfl rfl rfl ?_
 simp only [Act.put, sa, sz, ss]
 refine rest_gone1 (d := 13) rfl rfl rfl ?_
 simp only [Act.put, sa, sz, ss]
 refine rest_gone1 (d := 14) rfl rfl rfl ?_
 simp only [Act.put, sa, sz, ss]
 refine zA (d := 15) (v := .bool false) (w' := u0) rfl rfl rfl (by go_simp) ?_
 simp only [Act.put, sa, sz, ss]
 refine zA (d := 2) (v := .bool false) (w' := u0) rfl rfl rfl (rfl) ?_
 simp only [Act.put, sa, sz, ss]
 refine zC (zB (wp_ret ?_))
 repeat (first | refine zL ?_ | refine zK ?_)
 refine bodyPost_ret (v := .bool false) (by simp [results, Tryz.results45, go_sem, *]) rfl ?_
 exact ⟨rfl, H1.out.2⟩
set_option maxHeartbeats 2000000 in
theorem whole_no (gr : Nat) (p : Option Addr) (m c : Nat) (h0 : 0 < m) (w : World) (hm : Mm w [(gr, [Value.slice p m c, Value.bool false])]) :
  Calls Tryz.prog 45 #[PT gr 0] w (Rt w (.bool false)) := by
 have H0 : Hid (_ ∧ _) := ⟨hm, Below.refl w.heap.size w⟩
 clear hm
 go_enter Tryz.func45, Tryz.ntmps45
 refine wp_seq ?_
 refine zN (l := [0]) rfl (fun u0 hu0 => ?_)
 have H1 : Hid (Mm u0 [(gr, [Value.slice p m c, Value.bool false])] ∧ Below w.heap.size w u0) := by rw [hu0]; exact H0
 clear hu0 H0
 refine zA (d := 2) (v := .bool false) (w' := u0) rfl rfl rfl (rfl) ?_
 simp only [Act.put, sa, sz, ss]
 refine zC (zB (wp_seq ?_))
 refine zD (l := [0, 1, 2, 3, 4, 5, 6, 7, 8, 9, 10, 11, 12, 13]) rfl ?_
 refine zA (d := 3) (v := PT gr 0) (w' := u0) rfl rfl rfl (rfl) ?_
 simp only [Act.put, sa, sz, ss]
 refine zA (d := 4) (v := PT gr 0) (w' := u0) rfl rfl rfl (by go_simp) ?_
 simp only [Act.put, sa, sz, ss]
 refine zA (d := 5) (v := PT gr 1) (w' := u0) rfl rfl rfl (by go_simp) ?_
 simp only [Act.put, sa, sz, ss]
 refine zA (d := 6) (v := .bool false) (w' := u0) rfl rfl rfl (zJ H1.out.1 0 rfl rfl rfl Ai4 rfl) ?_
 simp only [Act.put, sa, sz, ss]
 refine zA (d := 7) (v := .bool true) (w' := u0) rfl rfl rfl (by go_simp) ?_
 simp only [Act.put, sa, sz, ss]
 refine zA (d := 8) (v := .bool true) (w' := u0) rfl rfl rfl (rfl) ?_
 simp only [Act.put, sa, sz, ss]
 refine zA (d := 9) (v := PT gr 0) (w' := u0) rfl rfl rfl (rfl) ?_
 simp only [Act.put, sa, sz, ss]
 refine zA (d := 10) (v := PT gr 0) (w' := u0) rfl rfl rfl (by go_simp) ?_
 simp only [Act.put, sa, sz, ss]
 refine zA (d := 11) (v := PT gr 0) (w' := u0) rfl rfl rfl (by go_simp) ?_
 simp only [Act.put, sa, sz, ss]
 refine zA (d := 12) (v := .slice p m c) (w' := u0) rfl rfl rfl (zJ H1.out.1 0 rfl rfl rfl Ai51 rfl) ?_
 simp only [Act.put, sa, sz, ss]
 refine zA (d := 13) (v := .int .i64 ((m : Nat) : Int)) (w' := u0) rfl rfl rfl (by go_simp) ?_
 simp only [Act.put, sa, sz, ss]
 refine zA (d := 14) (v := .bool false) (w' := u0) rfl rfl rfl (by go_simp <;> omega) ?_
 simp only [Act.put, sa, sz, ss]
 refine zA (d := 15) (v := .bool false) (w' := u0) rfl rfl rfl (by go_simp) ?_
 simp only [Act.put, sa, sz, ss]
 refine zA (d := 2) (v := .bool false) (w' := u0) rfl rfl rfl (rfl) ?_
 simp only [Act.put, sa, sz, ss]
 refine zC (zB (wp_ret ?_))
 repeat (first | refine zL ?_ | refine zK ?_)
 refine bodyPost_ret (v := .bool false) (by simp [results, Tryz.results45, go_sem, *]) rfl ?_
 exact ⟨rfl, H1.out.2⟩
set_option maxHeartbeats 2000000 in
theorem whole_yes (gr : Nat) (p : Option Addr) (c : Nat)  (w : World) (hm : Mm w [(gr, [Value.slice p 0 c, Value.bool false])]) :
  Calls Tryz.prog 45 #[PT gr 0] w (Rt w (.bool true)) := by
 have H0 : Hid (_ ∧ _) := ⟨hm, Below.refl w.heap.size w⟩
 clear hm
 go_enter Tryz.func45, Tryz.ntmps45
 refine wp_seq ?_
 refine zN (l := [0]) rfl (fun u0 hu0 => ?_)
 have H1 : Hid (Mm u0 [(gr, [Value.slice p 0 c, Value.bool false])] ∧ Below w.heap.size w u0) := by rw [hu0]; exact H0
 clear hu0 H0
 refine zA (d := 2) (v := .bool false) (w' := u0) rfl rfl rfl (rfl) ?_
 simp only [Act.put, sa, sz, ss]
 refine zC (zB (wp_seq ?_))
 refine zD (l := [0, 1, 2, 3, 4, 5, 6, 7, 8, 9, 10, 11, 12, 13]) rfl ?_
 refine zA (d := 3) (v := PT gr 0) (w' := u0) rfl rfl rfl (rfl) ?_
 simp only [Act.put, sa, sz, ss]
 refine zA (d := 4) (v := PT gr 0) (w' := u0) rfl rfl rfl (by go_simp) ?_
 simp only [Act.put, sa, sz, ss]
 refine zA (d := 5) (v := PT gr 1) (w' := u0) rfl rfl rfl (by go_simp) ?_
 simp only [Act.put, sa, sz, ss]
 refine zA (d := 6) (v := .bool false) (w' := u0) rfl rfl rfl (zJ H1.out.1 0 rfl rfl rfl Ai4 rfl) ?_
 simp only [Act.put, sa, sz, ss]
 refine zA (d := 7) (v := .bool true) (w' := u0) rfl rfl rfl (by go_simp) ?_
 simp only [Act.put, sa, sz, ss]
 refine zA (d := 8) (v := .bool true) (w' := u0) rfl rfl rfl (rfl) ?_
 simp only [Act.put, sa, sz, ss]
 refine zA (d := 9) (v := PT gr 0) (w' := u0) rfl rfl rfl (rfl) ?_
 simp only [Act.put, sa, sz, ss]
 refine zA (d := 10) (v := PT gr 0) (w' := u0) rfl rfl rfl (by go_simp) ?_
 simp only [Act.put, sa, sz, ss]
 refine zA (d := 11) (v := PT gr 0) (w' := u0) rfl rfl rfl (by go_simp) ?_
 simp only [Act.put, sa, sz, ss]
 refine zA (d := 12) (v := .slice p 0 c) (w' := u0) rfl rfl rfl (zJ H1.out.1 0 rfl rfl rfl Ai51 rfl) ?_
 simp only [Act.put, sa, sz, ss]
 refine zA (d := 13) (v := .int .i64 0) (w' := u0) rfl rfl rfl (by go_simp) ?_
 simp only [Act.put, sa, sz, ss]
 refine zA (d := 14) (v := .bool true) (w' := u0) rfl rfl rfl (by kernel_rfl) ?_
 simp only [Act.put, sa, sz, ss]
 refine zA (d := 15) (v := .bool true) (w' := u0) rfl rfl rfl (by go_simp) ?_
 simp only [Act.put, sa, sz, ss]
 refine zA (d := 2) (v := .bool true) (w' := u0) rfl rfl rfl (rfl) ?_
 simp only [Act.put, sa, sz, ss]
 refine zC (zB (wp_ret ?_))
 repeat (first | refine zL ?_ | refine zK ?_)
 refine bodyPost_ret (v := .bool true) (by simp [results, Tryz.results45, go_sem, *]) rfl ?_
 exact ⟨rfl, H1.out.2⟩
set_option maxHeartbeats 2000000 in
theorem text_ok (gr gb o m c k most : Nat) (f : Nat → Nat) (cs : List Value) (h8 : k ≤ 8) (hc : m ≤ c) (hmo : most < 9223372036854775808) (hf : ∀ j, f j < 256) (hn : ∀ z, z < k → nv f z * 256 < 18446744073709551616) (hcs : ∀ i, i < k → cs[o + i]? = some (Z8 (f i))) (hV : nv f k ≤ most) (hL : k + nv f k ≤ m) (w : World) (hm : Mm w [(gr, [Value.slice (some ⟨gb, o, none⟩) m c, Value.bool false]), (gb, cs)]) :
  Calls Tryz.prog 58 #[PT gr 0, .int .i64 ((k : Nat) : Int), .int .i64 ((most : Nat) : Int)] w fun e w' => e = .returned (stake (sdrop (.slice (some ⟨gb, o, none⟩) m c) k) (nv f k)) ∧ Mm w' [(gr, [sdrop (sdrop (.slice (some ⟨gb, o, none⟩) m c) k) (nv f k), Value.bool false])] ∧ Kp gr w w' := by
 have H0 : Hid (_ ∧ _) := ⟨hm, Kp.refl gr w⟩
 clear hm
 have hF : Hid _ := hf
 have hN : Hid _ := hn
 have hC : Hid _ := hcs
 clear hf hn hcs
 go_enter Tryz.func58, Tryz.ntmps58
 refine wp_seq ?_
 refine zN (l := [0]) rfl (fun u0 hu0 => ?_)
 have H1 : Hid (Mm u0 [(gr, [Value.slice (some ⟨gb, o, none⟩) m c, Value.bool false]), (gb, cs)] ∧ Kp gr w u0) := by rw [hu0]; exact H0
 clear hu0 H0
 refine zA (d := 6) (v := .slice none 0 0) (w' := u0) rfl rfl rfl (rfl) ?_
 simp only [Act.put, sa, sz, ss]
 refine zC (zB (wp_seq ?_))
 refine zD (l := [0, 1, 2, 3, 4, 5, 6]) rfl ?_
 refine zA (d := 7) (v := PT gr 0) (w' := u0) rfl rfl rfl (rfl) ?_
 simp only [Act.put, sa, sz, ss]
 refine zA (d := 8) (v := PT gr 0) (w' := u0) rfl rfl rfl (rfl) ?_
 simp only [Act.put, sa, sz, ss]
 refine zA (d := 9) (v := .int .i64 ((k : Nat) : Int)) (w' := u0) rfl rfl rfl (rfl) ?_
 simp only [Act.put, sa, sz, ss]
 refine zA (d := 10) (v := .int .i64 ((most : Nat) : Int)) (w' := u0) rfl rfl rfl (rfl) ?_
 simp only [Act.put, sa, sz, ss]
 refine zF (d := 11) (R := fun vv w' => vv = .int .i64 ((nv f k : Nat) : Int) ∧ Mm w' [(gr, [sdrop (.slice (some ⟨gb, o, none⟩) m c) k, Value.bool false])] ∧ Kp gr u0 w') rfl rfl rfl (zG (args := #[PT gr 0, .int .i64 ((k : Nat) : Int), .int .i64 ((most : Nat) : Int)]) rfl call44 rfl (mpn rfl)) (Calls.mono (number_ok gr gb o m c k most f cs (by omega) (by omega) (by omega) (by omega) hF.out hN.out hC.out hV u0 H1.out.1) (fun e w2 hh => ⟨_, hh.1, rfl, hh.2⟩)) ?_
 rintro _ w2 ⟨rfl, hn, hp⟩
 have H2 : Hid (Mm w2 [(gr, [sdrop (.slice (some ⟨gb, o, none⟩) m c) k, Value.bool false]), (gb, cs)] ∧ Kp gr w w2) := ⟨H1.out.1.change 0 rfl hp hn, H1.out.2.join hp⟩
 clear hn hp
 clear H1
 simp only [Act.put, sa, sz, ss]
 refine zF (d := 12) (R := fun vv w' => vv = stake (sdrop (.slice (some ⟨gb, o, none⟩) m c) k) (nv f k) ∧ Mm w' [(gr, [sdrop (sdrop (.slice (some ⟨gb, o, none⟩) m c) k) (nv f k), Value.bool false])] ∧ Kp gr w2 w') rfl rfl rfl (zG (args := #[PT gr 0, .int .i64 ((nv f k : Nat) : Int)]) rfl call67 rfl (mpn rfl)) (Calls.mono (take_ok gr _ (m - k) (c - k) (nv f k) (by omega) (by omega) w2 (H2.out.1.one 0 rfl)) (fun e w2 hh => ⟨_, hh.1, rfl, hh.2⟩)) ?_
 rintro _ w3 ⟨rfl, hn, hp⟩
 have H3 : Hid (Mm w3 [(gr, [sdrop (sdrop (.slice (some ⟨gb, o, none⟩) m c) k) (nv f k), Value.bool false]), (gb, cs)] ∧ Kp gr w w3) := ⟨H2.out.1.change 0 rfl hp hn, H2.out.2.join hp⟩
 clear hn hp
 clear H2
 simp only [Act.put, sa, sz, ss]
 refine zA (d := 6) (v := stake (sdrop (.slice (some ⟨gb, o, none⟩) m c) k) (nv f k)) (w' := w3) rfl rfl rfl (rfl) ?_
 simp only [Act.put, sa, sz, ss]
 refine zC (zB (wp_ret ?_))
 repeat (first | refine zL ?_ | refine zK ?_)
 refine bodyPost_ret (v := stake (sdrop (.slice (some ⟨gb, o, none⟩) m c) k) (nv f k)) (by simp [results, Tryz.results58, go_sem, *]) rfl ?_
 exact ⟨rfl, H3.out.1.one 0 rfl, H3.out.2⟩
set_option maxHeartbeats 2000000 in
theorem text_long (gr : Nat) (p : Option Addr) (m c k most : Nat) (hmo : most < 9223372036854775808) (hk : m < k) (w : World) (hm : Mm w [(gr, [Value.slice p m c, Value.bool false])]) :
  Calls Tryz.prog 58 #[PT gr 0, .int .i64 ((k : Nat) : Int), .int .i64 ((most : Nat) : Int)] w fun e w' => e = .returned (.slice none 0 0) ∧ Mm w' [(gr, [Value.slice p m c, Value.bool true])] ∧ Kp gr w w' := by
 have H0 : Hid (_ ∧ _) := ⟨hm, Kp.refl gr w⟩
 clear hm
 go_enter Tryz.func58, Tryz.ntmps58
 refine wp_seq ?_
 refine zN (l := [0]) rfl (fun u0 hu0 => ?_)
 have H1 : Hid (Mm u0 [(gr, [Value.slice p m c, Value.bool false])] ∧ Kp gr w u0) := by rw [hu0]; exact H0
 clear hu0 H0
 refine zA (d := 6) (v := .slice none 0 0) (w' := u0) rfl rfl rfl (rfl) ?_
 simp only [Act.put, sa, sz, ss]
 refine zC (zB (wp_seq ?_))
 refine zD (l := [0, 1, 2, 3, 4, 5, 6]) rfl ?_
 refine zA (d := 7) (v := PT gr 0) (w' := u0) rfl rfl rfl (rfl) ?_
 simp only [Act.put, sa, sz, ss]
 refine zA (d := 8) (v := PT gr 0) (w' := u0) rfl rfl rfl (rfl) ?_
 simp only [Act.put, sa, sz, ss]
 refine zA (d := 9) (v := .int .i64 ((k : Nat) : Int)) (w' := u0) rfl rfl rfl (rfl) ?_
 simp only [Act.put, sa, sz, ss]
 refine zA (d := 10) (v := .int .i64 ((most : Nat) : Int)) (w' := u0) rfl rfl rfl (rfl) ?_
 simp only [Act.put, sa, sz, ss]
 refine zF (d := 11) (R := fun vv w' => vv = .int .i64 0 ∧ Mm w' [(gr, [Value.slice p m c, Value.bool true])] ∧ Kp gr u0 w') rfl rfl rfl (zG (args := #[PT gr 0, .int .i64 ((k : Nat) : Int), .int .i64 ((most : Nat) : Int)]) rfl call44 rfl (mpn rfl)) (Calls.mono (number_long gr p m c k most hmo hk u0 (H1.out.1.one 0 rfl)) (fun e w2 hh => ⟨_, hh.1, rfl, hh.2⟩)) ?_
 rintro _ w2 ⟨rfl, hn, hp⟩
 have H2 : Hid (Mm w2 [(gr, [Value.slice p m c, Value.bool true])] ∧ Kp gr w w2) := ⟨H1.out.1.change 0 rfl hp hn, H1.out.2.join hp⟩
 clear hn hp
 clear H1
 simp only [Act.put, sa, sz, ss]
 refine zF (d := 12) (R := fun vv w' => vv = .slice none 0 0 ∧ Mm w' [(gr, [Value.slice p m c, Value.bool true])] ∧ Kp gr w2 w') rfl rfl rfl (zG (args := #[PT gr 0, .int .i64 0]) rfl call67 rfl (mpn rfl)) (Calls.mono (take_bad gr p m c 0 w2 (H2.out.1.one 0 rfl)) (fun e w2 hh => ⟨_, hh.1, rfl, hh.2⟩)) ?_
 rintro _ w3 ⟨rfl, hn, hp⟩
 have H3 : Hid (Mm w3 [(gr, [Value.slice p m c, Value.bool true])] ∧ Kp gr w w3) := ⟨H2.out.1.change 0 rfl hp hn, H2.out.2.join hp⟩
 clear hn hp
 clear H2
 simp only [Act.put, sa, sz, ss]
 refine zA (d := 6) (v := .slice none 0 0) (w' := w3) rfl rfl rfl (rfl) ?_
 simp only [Act.put, sa, sz, ss]
 refine zC (zB (wp_ret ?_))
 repeat (first | refine zL ?_ | refine zK ?_)
 refine bodyPost_ret (v := .slice none 0 0) (by simp [results, Tryz.results58, go_sem, *]) rfl ?_
 exact ⟨rfl, H3.out.1, H3.out.2⟩
end Wi
end Rg
end Go.Proofs.YtahghpkjkfaieaaGreatDoor
end
section
namespace Go.Proofs.YtahghpkjkfaieaaGreatDoor
open Go.RowKit
namespace Rg
namespace Wi
set_option maxRecDepth 100000
/-- How far a number is turned for its byte j, of k. -/
def sh (k j : Nat) : Int := 8 * (k : Int) - 8 - 8 * (j : Int)
/-- The row P of n, and behind it the numbers A, each in k bytes. -/
def pbf (P : Nat → Nat) (n : Nat) (A : Nat → Nat) (k : Nat) (t : Nat) : Nat := if t < n then P t else A ((t - n) / k) / 2 ^ (8 * (k - 1 - (t - n) % k)) % 256
theorem pbf_at (P : Nat → Nat) (n : Nat) (A : Nat → Nat) {k i j : Nat} (h : j < k) : pbf P n A k (n + k * i + j) = A i / 2 ^ (8 * (k - 1 - j)) % 256 := by
 unfold pbf
 rw [if_neg (by omega), show n + k * i + j - n = k * i + j by omega, Nat.mul_add_div (by omega), Nat.div_eq_of_lt h, Nat.add_zero, Nat.mul_add_mod, Nat.mod_eq_of_lt h]
theorem pbf_low (P : Nat → Nat) (n : Nat) (A : Nat → Nat) (k : Nat) (j : Nat) (h : j < n) : P j = pbf P n A k j := by
 unfold pbf
 rw [if_pos h]
theorem own_st1 {w : World} {B n : Nat} {v : Value} {xs : List Value} (h : w.ownsRow B 5 1 v n xs) : st1 v = true := by
 rcases h.2 with ⟨h1, _⟩ | ⟨g, cap, cur, h1, _⟩ <;> rw [h1] <;> rfl
section
variable {ρ : Operand → Value} {o : Oper} {x y : Operand} {a k j : Nat} {w : World}
theorem ex_shrS (hj : j < k) (hk : k ≤ 8) (ho : o.op = .binOp .shr 3 x y 3) (hx : ρ x = .int .i64 ((a : Nat) : Int)) (hy : ρ y = .int .i64 (sh k j)) : (execOp ρ o).run Tryz.prog w = .ok (.value (.int .i64 ((a / 2 ^ (8 * (k - 1 - j)) : Nat) : Int))) w := by
 have es : sh k j = ((8 * (k - 1 - j) : Nat) : Int) := by unfold sh; omega
 rw [es] at hy
 generalize hs8 : 8 * (k - 1 - j) = s at hy ⊢
 have hs64 : s < 64 := by omega
 simp only [execOp, ho, hx, hy]
 clear ho hx hy es
 have hs := shift_shr_any .i64 .i64 (a : Int) (s : Int) (by omega)
 have e : min ((s : Int).toNat) IntKind.i64.bits = s := by rw [Int.toNat_natCast]; show min s 64 = s; omega
 rw [e, show (a : Int) / 2 ^ s = ((a / 2 ^ s : Nat) : Int) by rw [Int.natCast_ediv, Int.natCast_pow]; rfl] at hs
 go_simp
theorem ex_cvB (ho : o.op = .convert 3 5 x) (hx : ρ x = .int .i64 ((a : Nat) : Int)) : (execOp ρ o).run Tryz.prog w = .ok (.value (Z8 (a % 256))) w := by
 simp only [execOp, ho, hx]
 clear ho hx
 go_simp
 simp [IntKind.wrap, IntKind.bits, IntKind.signed]
theorem ex_bsB (ho : o.op = .buildSlice 51 1 #[(0, x)]) (hx : ρ x = Z8 a) : (execOp ρ o).run Tryz.prog w = .ok (.value (.slice (some ⟨w.heap.size, 0, none⟩) 1 1)) (w.alloc (.cells ([Z8 a] : List Value).toArray 5)) := by
 simp only [execOp, ho, List.map_toArray, List.map_cons, List.map_nil, hx]
 kernel_rfl
end
theorem add_z (g j : Nat) : (⟨g, 0, none⟩ : Addr).add j = ⟨g, j, none⟩ := by unfold Addr.add; split <;> simp_all
theorem Ow.appP {w w1 : World} {L : List Nat} {l : List (Nat × List Value)} {vv : Value} {n : Nat} {P : Nat → Nat} (h : Ow w L vv n P w1) (hm : Mm w1 l) (hl : l.map Prod.fst = L) {q : Pt8} (hq : Pok q) (hN : q.p = none → q.cp = 0) (hR : q.rs w1) (hb : n + q.n ≤ 2097152) (ty : TypeId) :
  ∃ v' w2, (Builtin.append_ #[51, 51] ty #[vv, .slice q.p q.n q.cp]).run Tryz.prog w1 = .ok v' w2 ∧ Ow w L v' (n + q.n) (ct P n q.f) w2 ∧ Mm w2 l := by
 obtain ⟨v', w2, h1, h2, h3, h5⟩ := own_appQ h.own h.b.size hq hN hR hb ty
 have hb2 : Below w.heap.size w1 w2 := (Below.refl _ _).grown h3 h.b.size (fun k hk => (World.ownsRow.lt h.own k hk).1)
 have hne : ∀ p ∈ l, some p.1 ≠ vv.ownBlock := fun p hp => h.ne p.1 (by rw [← hl]; exact List.mem_map_of_mem hp)
 refine ⟨v', w2, h1, ⟨h.b.trans hb2, h2, fun g hg e => ?_⟩, ⟨fun p hp => ?_, hm.nd⟩⟩
 ·rcases h5 with e5 | e5
  ·exact h.ne g hg (e.trans e5)
  ·rw [e5] at e
   rw [← hl] at hg
   obtain ⟨p, hp, e6⟩ := List.mem_map.1 hg
   have := (hm.blk p hp).1
   injection e with e
   omega
 ·have hlt := (hm.blk p hp).1
  have hblk := h3.block p.1 hlt (hne p hp)
  refine ⟨Nat.lt_of_lt_of_le hlt hb2.size, fun j v hj => ?_⟩
  have := (hm.blk p hp).2 j v hj
  rw [World.cell?_of_block (a := ⟨p.1, j, none⟩) hblk, World.frozen?_of_block (a := ⟨p.1, j, none⟩) hblk]
  exact this
theorem ex_ixI {ρ : Operand → Value} {o : Oper} {x y : Operand} {g off m c j : Nat} {w : World} (ho : o.op = .indexAddr 59 x y) (hx : ρ x = .slice (some ⟨g, off, none⟩) m c) (hy : ρ y = .int .i64 ((j : Nat) : Int)) (h : j < m) : (execOp ρ o).run Tryz.prog w = .ok (.value (PT g (off + j))) w := by
 simp only [execOp, ho, hx, hy]
 clear ho hx hy
 go_simp
set_option maxHeartbeats 4000000 in
theorem put_any (W : World) (gw ga : Nat) (lz : List (Nat × List Value)) (vv : Value) (n : Nat) (P : Nat → Nat) (q : Pt8) (hq0 : Pok q) (hqn0 : q.p = none → q.cp = 0) (hqr0 : ∀ u, Mm u lz → q.rs u) (A : Nat → Nat) (mm k : Nat) (h1 : 1 ≤ k) (h8 : k ≤ 8) (hmm : mm ≤ 64) (hbd : n + k * mm + q.n ≤ 2097152) (hg0 : W.heap.size ≤ gw) (w : World) (hm : Mm w ((gw, [vv]) :: (ga, zH .i64 A mm) :: lz)) (hO : Ow W (gw :: ga :: lz.map Prod.fst) vv n P w) :
  Calls Tryz.prog 43 #[PT gw 0, .int .i64 ((k : Nat) : Int), .slice q.p q.n q.cp, .slice (some ⟨ga, 0, none⟩) mm mm] w fun e w' => e = .returned (.tuple #[]) ∧ ∃ v', Ow W (gw :: ga :: lz.map Prod.fst) v' (n + k * mm + q.n) (ct (pbf P n A k) (n + k * mm) q.f) w' ∧ Mm w' ((gw, [v']) :: (ga, zH .i64 A mm) :: lz) := by
 have H0 : Hid (_ ∧ _) := ⟨hm, hO⟩
 clear hm
 have hq : Hid _ := hq0
 have hqn : Hid _ := hqn0
 have hqr : Hid _ := hqr0
 have hg : Hid _ := hg0
 clear hq0 hqn0 hqr0 hg0 hO
 go_enter Tryz.func43, Tryz.ntmps43
 refine wp_seq (wp_seq ?_)
 refine zD (l := [0, 1, 2]) rfl ?_
 refine zA (d := 11) (v := .slice (some ⟨ga, 0, none⟩) mm mm) (w' := w) rfl rfl rfl (rfl) ?_
 simp only [Act.put, sa, sz, ss]
 refine zA (d := 12) (v := .int .i64 ((mm : Nat) : Int)) (w' := w) rfl rfl rfl (by go_simp) ?_
 simp only [Act.put, sa, sz, ss]
 refine zA (d := 13) (v := .int .i64 0) (w' := w) rfl rfl rfl (rfl) ?_
 simp only [Act.put, sa, sz, ss]
 refine zC (zB (wp_block ?_))
 refine loop_ghost (α := Nat × Value) (fun x a' w' => ∃ s0 : Nat → Value, a' = ⟨#[PT gw 0, .int .i64 ((k : Nat) : Int), .slice q.p q.n q.cp, .slice (some ⟨ga, 0, none⟩) mm mm, ud, ud, ud, ud, ud, s0 9, s0 10, .slice (some ⟨ga, 0, none⟩) mm mm, .int .i64 ((mm : Nat) : Int), .int .i64 ((x.1 : Nat) : Int), s0 14, s0 15, s0 16, s0 17, s0 18, s0 19, s0 20, s0 21, s0 22, s0 23, s0 24, s0 25, s0 26, s0 27, s0 28, s0 29, s0 30, s0 31, s0 32, s0 33, s0 34, s0 35, s0 36, s0 37, ud, ud, ud, ud, ud, ud, ud, ud, ud], []⟩ ∧ (Mm w' ((gw, [x.2]) :: (ga, zH .i64 A mm) :: lz) ∧ Ow W (gw :: ga :: lz.map Prod.fst) x.2 (n + k * x.1) (pbf P n A k) w') ∧ x.1 ≤ mm) (fun x => mm - x.1) (0, vv) ?st0 ?rd0
 case st0 => exact ⟨(slotfn [ud, ud, ud, ud, ud, ud, ud, ud, ud, ud, ud, ud, ud, ud, ud, ud, ud, ud, ud, ud, ud, ud, ud, ud, ud, ud, ud, ud, ud, ud, ud, ud, ud, ud, ud, ud, ud, ud]), rfl, ⟨H0.out.1, H0.out.2.cg (pbf_low P n A k)⟩, (show 0 ≤ mm by omega)⟩
 intro x a' w1 hI
 obtain ⟨s0, rfl, hMB, hk0⟩ := hI
 have H1 : Hid (_ ∧ _) := hMB
 clear hMB
 by_cases hltx : x.1 < mm
 ·have hrd : True := trivial
  clear hrd
  have hkx : k * x.1 + k ≤ k * mm := by have h := Nat.mul_le_mul_left k (show x.1 + 1 ≤ mm by omega); rw [Nat.mul_succ] at h; exact h
  refine wp_seq ?_
  refine zD (l := [0]) rfl ?_
  refine zA (d := 14) (v := .bool true) (w' := w1) rfl rfl rfl (by go_simp <;> omega) ?_
  simp only [Act.put, sa, sz, ss]
  refine zC (zB ?_)
  refine wp_seq (wp_cond_true rfl ?_)
  refine wp_skip (zB ?_)
  refine wp_seq (wp_block (wp_seq ?_))
  refine zD (l := [0, 1, 2]) rfl ?_
  refine zA (d := 15) (v := PT ga (0 + x.1)) (w' := w1) rfl rfl rfl (ex_ixI (j := x.1) rfl rfl rfl (by omega)) ?_
  simp only [Act.put, sa, sz, ss]
  refine zA (d := 16) (v := .int .i64 ((A x.1 : Nat) : Int)) (w' := w1) rfl rfl rfl (zJ H1.out.1 1 rfl rfl rfl Ai3 (by rw [Nat.zero_add]; exact ints_get _ _ (by omega))) ?_
  simp only [Act.put, sa, sz, ss]
  refine zA (d := 9) (v := .int .i64 ((A x.1 : Nat) : Int)) (w' := w1) rfl rfl rfl (rfl) ?_
  simp only [Act.put, sa, sz, ss]
  refine zC (zB (wp_seq ?_))
  refine zD (l := [0, 1, 2, 3]) rfl ?_
  refine zA (d := 17) (v := .int .i64 ((k : Nat) : Int)) (w' := w1) rfl rfl rfl (rfl) ?_
  simp only [Act.put, sa, sz, ss]
  refine zA (d := 18) (v := .int .i64 ((k - 1 : Nat) : Int)) (w' := w1) rfl rfl rfl (by go_simp; rw [IntKind.wrap_i64]; omega) ?_
  simp only [Act.put, sa, sz, ss]
  refine zA (d := 19) (v := .int .i64 (sh k 0)) (w' := w1) rfl rfl rfl (by unfold sh; go_simp; rw [IntKind.wrap_i64]; omega) ?_
  simp only [Act.put, sa, sz, ss]
  refine zA (d := 10) (v := .int .i64 (sh k 0)) (w' := w1) rfl rfl rfl (rfl) ?_
  simp only [Act.put, sa, sz, ss]
  refine zC (zB (wp_block ?_))
  refine loop_ghost (α := Nat × Value) (fun y a' w' => ∃ s2 : Nat → Value, a' = ⟨#[PT gw 0, .int .i64 ((k : Nat) : Int), .slice q.p q.n q.cp, .slice (some ⟨ga, 0, none⟩) mm mm, ud, ud, ud, ud, ud, .int .i64 ((A x.1 : Nat) : Int), .int .i64 (sh k y.1), .slice (some ⟨ga, 0, none⟩) mm mm, .int .i64 ((mm : Nat) : Int), .int .i64 ((x.1 : Nat) : Int), .bool true, PT ga (0 + x.1), .int .i64 ((A x.1 : Nat) : Int), .int .i64 ((k : Nat) : Int), .int .i64 ((k - 1 : Nat) : Int), .int .i64 (sh k 0), s2 20, s2 21, s2 22, s2 23, s2 24, s2 25, s2 26, s2 27, s2 28, s2 29, s2 30, s2 31, s2 32, s2 33, s2 34, s2 35, s2 36, s0 37, ud, ud, ud, ud, ud, ud, ud, ud, ud], []⟩ ∧ (Mm w' ((gw, [y.2]) :: (ga, zH .i64 A mm) :: lz) ∧ Ow W (gw :: ga :: lz.map Prod.fst) y.2 (n + k * x.1 + y.1) (pbf P n A k) w') ∧ y.1 ≤ k) (fun y => k - y.1) (0, x.2) ?st2 ?rd2
  case st2 => exact ⟨(slotfn [ud, ud, ud, ud, ud, ud, ud, ud, ud, ud, ud, ud, ud, ud, ud, ud, ud, ud, ud, ud, s0 20, s0 21, s0 22, s0 23, s0 24, s0 25, s0 26, s0 27, s0 28, s0 29, s0 30, s0 31, s0 32, s0 33, s0 34, s0 35, s0 36]), rfl, ⟨H1.out.1, H1.out.2⟩, by omega⟩
  intro y a' w2 hI
  obtain ⟨s2, rfl, hMB, hk2⟩ := hI
  have H2 : Hid (_ ∧ _) := hMB
  clear hMB H1
  by_cases hlty : y.1 < k
  ·have hrd : True := trivial
   clear hrd
   refine wp_seq (wp_seq ?_)
   refine zD (l := [0, 1]) rfl ?_
   refine zA (d := 20) (v := .int .i64 (sh k y.1)) (w' := w2) rfl rfl rfl (rfl) ?_
   simp only [Act.put, sa, sz, ss]
   refine zA (d := 21) (v := .bool true) (w' := w2) rfl rfl rfl (by unfold sh; go_simp <;> omega) ?_
   simp only [Act.put, sa, sz, ss]
   refine zC (zB ?_)
   refine wp_cond_true rfl (wp_skip ?_)
   refine zB (wp_seq (wp_block ?_))
   refine walk_value (by kernel_rfl) 10 [0] [.q (PT gw 0), .q (PT gw 0), .q (PT gw 0), .q (PT gw 0), .q (y.2), .q (.int .i64 ((A x.1 : Nat) : Int)), .q (.int .i64 (sh k y.1)), .q (.int .i64 ((A x.1 / 2 ^ (8 * (k - 1 - y.1)) : Nat) : Int)), .q (Z8 (A x.1 / 2 ^ (8 * (k - 1 - y.1)) % 256)), .row (fun g => .slice (some ⟨g, 0, none⟩) 1 1) ([Z8 (A x.1 / 2 ^ (8 * (k - 1 - y.1)) % 256)]) 5] (fun w' => Mm w' ((gw, [y.2]) :: (ga, zH .i64 A mm) :: lz)) ?pre6 ?F6 ?G6 _ 34 ?hpre6 (fun J => ?hF6) (fun v J => ?hG6) (by kernel_rfl) rfl ?hL6 ?hS6 ?ho6 (fun v => ?hla6) ?he6
   case hpre6 => simp only [tk, tz]; rfl
   case hF6 => simp only [zY, Kind.val, Act.put, sa, sz, ss]; rfl
   case hG6 => simp only [zY, Kind.val, Act.put, sa, sz, ss]; rfl
   case hL6 => exact trivial
   case hS6 => exact fun w' hb => H2.out.1.below hb
   case ho6 =>
    refine ar ?_
    refine ar ?_
    refine ag ?_
    refine ag ?_
    refine bC 0 Ai51 ?_
    refine ar ?_
    refine ar ?_
    refine ak (fun J => ⟨rfl, fun w' _ => ex_shrS hlty h8 rfl rfl rfl⟩) ?_
    refine ak (fun J => ⟨rfl, fun w' _ => ex_cvB rfl rfl⟩) ?_
    refine ak (fun J => ⟨rfl, fun w' => ex_bsB (w := w') rfl rfl⟩) ?_
    exact trivial
   case hla6 => exact ⟨⟨_, _, rfl, rfl, fun J => ⟨rfl, fun w' => rfl⟩⟩, trivial⟩
   intro J w3 l hM hl
   have M3 : Mm w3 ((J 9, [Z8 (A x.1 / 2 ^ (8 * (k - 1 - y.1)) % 256)]) :: (gw, [y.2]) :: (ga, zH .i64 A mm) :: lz) := H2.out.1.grow hM (Nat.le_refl _) hl [9] rfl (by decide)
   have B3 : Ow W (gw :: ga :: lz.map Prod.fst) y.2 (n + k * x.1 + y.1) (pbf P n A k) w3 := Ow.step H2.out.2 (hM.below)
   have o6_9 : Hid (W.heap.size ≤ J 9) := Nat.le_trans H2.out.2.size (hM.fin (Nat.le_refl _) hl (i := 9) rfl).2.1
   clear hM hl l H2
   generalize J 9 = J6_9 at M3 o6_9 ⊢
   clear J
   have H3 : Hid (_ ∧ _) := ⟨M3, B3⟩
   clear M3 B3
   obtain ⟨v4, w4, hr, hO, hM⟩ := H3.out.2.app H3.out.1.tail rfl (a := ⟨J6_9, 0, none⟩) 1 1 (fun _ => A x.1 / 2 ^ (8 * (k - 1 - y.1)) % 256) (fun j hj => by rw [add_z]; obtain rfl : j = 0 := (by omega); exact H3.out.1.get 0 rfl 0 rfl) (by omega) 51
   refine ⟨v4, w4, ex_app rfl rfl rfl hr, ?_⟩
   have hO2 := hO.cg (P' := (pbf P n A k)) (fun j hj => ct_snoc (pbf_at P n A hlty).symm (fun _ _ => rfl) j hj)
   have hs1 : Hid _ := own_st1 hO.own
   have H4 : Hid (Mm w4 ((gw, [y.2]) :: (ga, zH .i64 A mm) :: lz) ∧ Ow W (gw :: ga :: lz.map Prod.fst) v4 (n + k * x.1 + y.1 + 1) (pbf P n A k) w4) := ⟨hM, hO2⟩
   clear hr hO hO2 hM H3
   refine zR (l := [11, 12, 13]) rfl ?_
   refine zA (d := 35) (v := PT gw 0) (w' := w4) rfl rfl rfl (by go_simp) ?_
   simp only [Act.put, sa, sz, ss]
   refine zA (d := 36) (v := PT gw 0) (w' := w4) rfl rfl rfl (by go_simp) ?_
   simp only [Act.put, sa, sz, ss]
   refine rest_store rfl rfl rfl (ex_st1 (v := v4) H4.out.1 0 rfl rfl As51 rfl rfl (hs1.out) (Nat.le_of_ble_eq_true rfl)) ?_
   have H5 : Hid (Mm (w4.setCells gw 0 [v4]) ((gw, [v4]) :: (ga, zH .i64 A mm) :: lz) ∧ Ow W (gw :: ga :: lz.map Prod.fst) v4 (n + k * x.1 + y.1 + 1) (pbf P n A k) (w4.setCells gw 0 [v4])) := ⟨H4.out.1.put 0 (off := 0) (vs := [v4]) rfl (Nat.le_of_ble_eq_true rfl), H4.out.2.put (List.mem_cons_self ..) hg.out⟩
   clear H4
   generalize hgw : World.setCells _ _ _ _ = w5 at H5 ⊢
   clear hgw
   refine zC (zS (zB ?_))
   refine zD (l := [0, 1, 2]) rfl ?_
   refine zA (d := 22) (v := .int .i64 (sh k y.1)) (w' := w5) rfl rfl rfl (rfl) ?_
   simp only [Act.put, sa, sz, ss]
   refine zA (d := 23) (v := .int .i64 (sh k (y.1 + 1))) (w' := w5) rfl rfl rfl (by unfold sh; go_simp; rw [IntKind.wrap_i64]; omega) ?_
   simp only [Act.put, sa, sz, ss]
   refine zA (d := 10) (v := .int .i64 (sh k (y.1 + 1))) (w' := w5) rfl rfl rfl (rfl) ?_
   simp only [Act.put, sa, sz, ss]
   refine zC (zB ?_)
   exact ⟨(y.1 + 1, v4), ⟨(slotfn [ud, ud, ud, ud, ud, ud, ud, ud, ud, ud, ud, ud, ud, ud, ud, ud, ud, ud, ud, ud, .int .i64 (sh k y.1), .bool true, .int .i64 (sh k y.1), .int .i64 (sh k (y.1 + 1)), PT gw 0, PT gw 0, PT gw 0, PT gw 0, y.2, .int .i64 ((A x.1 : Nat) : Int), .int .i64 (sh k y.1), .int .i64 ((A x.1 / 2 ^ (8 * (k - 1 - y.1)) : Nat) : Int), Z8 (A x.1 / 2 ^ (8 * (k - 1 - y.1)) % 256), .slice (some ⟨J6_9, 0, none⟩) 1 1, v4, PT gw 0, PT gw 0]), rfl, ⟨H5.out.1, H5.out.2⟩, (show y.1 + 1 ≤ k by omega)⟩, (show k - (y.1 + 1) < k - y.1 by omega)⟩
  have hyN : y.1 = k := by omega
  refine wp_seq (wp_seq ?_)
  refine zD (l := [0, 1]) rfl ?_
  refine zA (d := 20) (v := .int .i64 (sh k y.1)) (w' := w2) rfl rfl rfl (rfl) ?_
  simp only [Act.put, sa, sz, ss]
  refine zA (d := 21) (v := .bool false) (w' := w2) rfl rfl rfl (by unfold sh; go_simp <;> omega) ?_
  simp only [Act.put, sa, sz, ss]
  refine zC (zB (wp_cond_false rfl ?_))
  refine wp_exit ?_
  repeat refine zX ?_
  refine zT ?_
  have H6 : Hid (Mm w2 ((gw, [y.2]) :: (ga, zH .i64 A mm) :: lz) ∧ Ow W (gw :: ga :: lz.map Prod.fst) y.2 (n + k * (x.1 + 1)) (pbf P n A k) w2) := ⟨H2.out.1, by rw [show n + k * (x.1 + 1) = n + k * x.1 + y.1 by rw [Nat.mul_succ, hyN, Nat.add_assoc]]; exact H2.out.2⟩
  clear H2
  refine zS (zB ?_)
  refine zD (l := [0, 1]) rfl ?_
  refine zA (d := 37) (v := .int .i64 ((x.1 + 1 : Nat) : Int)) (w' := w2) rfl rfl rfl (by go_simp; rw [IntKind.wrap_i64]; omega) ?_
  simp only [Act.put, sa, sz, ss]
  refine zA (d := 13) (v := .int .i64 ((x.1 + 1 : Nat) : Int)) (w' := w2) rfl rfl rfl (rfl) ?_
  simp only [Act.put, sa, sz, ss]
  refine zC (zB ?_)
  exact ⟨(x.1 + 1, y.2), ⟨(slotfn [ud, ud, ud, ud, ud, ud, ud, ud, ud, .int .i64 ((A x.1 : Nat) : Int), .int .i64 (sh k y.1), ud, ud, ud, .bool true, PT ga (0 + x.1), .int .i64 ((A x.1 : Nat) : Int), .int .i64 ((k : Nat) : Int), .int .i64 ((k - 1 : Nat) : Int), .int .i64 (sh k 0), .int .i64 (sh k y.1), .bool false, s2 22, s2 23, s2 24, s2 25, s2 26, s2 27, s2 28, s2 29, s2 30, s2 31, s2 32, s2 33, s2 34, s2 35, s2 36, .int .i64 ((x.1 + 1 : Nat) : Int)]), rfl, ⟨H6.out.1, H6.out.2⟩, (show x.1 + 1 ≤ mm by omega)⟩, (show mm - (x.1 + 1) < mm - x.1 by omega)⟩
 have hxN : x.1 = mm := by omega
 refine wp_seq ?_
 refine zD (l := [0]) rfl ?_
 refine zA (d := 14) (v := .bool false) (w' := w1) rfl rfl rfl (by go_simp <;> omega) ?_
 simp only [Act.put, sa, sz, ss]
 refine zC (zB ?_)
 refine wp_seq (wp_cond_false rfl ?_)
 refine wp_exit ?_
 repeat refine zX ?_
 refine zT ?_
 have H7 : Hid (Mm w1 ((gw, [x.2]) :: (ga, zH .i64 A mm) :: lz) ∧ Ow W (gw :: ga :: lz.map Prod.fst) x.2 (n + k * mm) (pbf P n A k) w1) := ⟨H1.out.1, by rw [← hxN]; exact H1.out.2⟩
 clear H1
 refine zB ?_
 refine zD (l := [0, 1, 2, 3, 4, 5, 6, 7, 8, 9]) rfl ?_
 refine zA (d := 38) (v := PT gw 0) (w' := w1) rfl rfl rfl (rfl) ?_
 simp only [Act.put, sa, sz, ss]
 refine zA (d := 39) (v := PT gw 0) (w' := w1) rfl rfl rfl (rfl) ?_
 simp only [Act.put, sa, sz, ss]
 refine zA (d := 40) (v := PT gw 0) (w' := w1) rfl rfl rfl (by go_simp) ?_
 simp only [Act.put, sa, sz, ss]
 refine zA (d := 41) (v := PT gw 0) (w' := w1) rfl rfl rfl (by go_simp) ?_
 simp only [Act.put, sa, sz, ss]
 refine zA (d := 42) (v := x.2) (w' := w1) rfl rfl rfl (zJ H7.out.1 0 rfl rfl rfl Ai51 rfl) ?_
 simp only [Act.put, sa, sz, ss]
 refine zA (d := 43) (v := .slice q.p q.n q.cp) (w' := w1) rfl rfl rfl (rfl) ?_
 simp only [Act.put, sa, sz, ss]
 obtain ⟨v8, w8, hr, hO, hM⟩ := H7.out.2.appP H7.out.1 rfl hq.out hqn.out (hqr.out _ H7.out.1.tail.tail) (by omega) 51
 have hs1 : Hid _ := own_st1 hO.own
 refine zA (d := 44) (v := v8) (w' := w8) rfl rfl rfl (ex_app rfl rfl rfl hr) ?_
 simp only [Act.put, sa, sz, ss]
 have H8 : Hid (Mm w8 ((gw, [x.2]) :: (ga, zH .i64 A mm) :: lz) ∧ Ow W (gw :: ga :: lz.map Prod.fst) v8 (n + k * mm + q.n) (ct (pbf P n A k) (n + k * mm) q.f) w8) := ⟨hM, hO⟩
 clear hr hO hM H7
 refine zA (d := 45) (v := PT gw 0) (w' := w8) rfl rfl rfl (by go_simp) ?_
 simp only [Act.put, sa, sz, ss]
 refine zA (d := 46) (v := PT gw 0) (w' := w8) rfl rfl rfl (by go_simp) ?_
 simp only [Act.put, sa, sz, ss]
 refine rest_store rfl rfl rfl (ex_st1 (v := v8) H8.out.1 0 rfl rfl As51 rfl rfl (hs1.out) (Nat.le_of_ble_eq_true rfl)) ?_
 have H9 : Hid (Mm (w8.setCells gw 0 [v8]) ((gw, [v8]) :: (ga, zH .i64 A mm) :: lz) ∧ Ow W (gw :: ga :: lz.map Prod.fst) v8 (n + k * mm + q.n) (ct (pbf P n A k) (n + k * mm) q.f) (w8.setCells gw 0 [v8])) := ⟨H8.out.1.put 0 (off := 0) (vs := [v8]) rfl (Nat.le_of_ble_eq_true rfl), H8.out.2.put (List.mem_cons_self ..) hg.out⟩
 clear H8
 generalize hgw : World.setCells _ _ _ _ = w9 at H9 ⊢
 clear hgw
 refine zC ?_
 refine bodyPost_end (v := .tuple #[]) (by simp [results, Tryz.results43, go_sem]) rfl ?_
 exact ⟨rfl, v8, H9.out.2, H9.out.1⟩
end Wi
end Rg
end Go.Proofs.YtahghpkjkfaieaaGreatDoor
end
section
namespace Go.Proofs.YtahghpkjkfaieaaGreatDoor
open Go.RowKit
namespace Rg
namespace Wi
theorem call43 : CO 43 := by intro args w; go_simp
set_option maxRecDepth 100000
set_option maxHeartbeats 2000000 in
theorem put_none (W : World) (gw : Nat) (lz : List (Nat × List Value)) (vv : Value) (n : Nat) (P : Nat → Nat) (q : Pt8) (hq0 : Pok q) (hqn0 : q.p = none → q.cp = 0) (hqr0 : ∀ u, Mm u lz → q.rs u) (k : Nat) (hbd : n + q.n ≤ 2097152) (hg0 : W.heap.size ≤ gw) (w : World) (hm : Mm w ((gw, [vv]) :: lz)) (hO : Ow W (gw :: lz.map Prod.fst) vv n P w) :
  Calls Tryz.prog 43 #[PT gw 0, .int .i64 ((k : Nat) : Int), .slice q.p q.n q.cp, .slice none 0 0] w fun e w' => e = .returned (.tuple #[]) ∧ ∃ v', Ow W (gw :: lz.map Prod.fst) v' (n + q.n) (ct P n q.f) w' ∧ Mm w' ((gw, [v']) :: lz) := by
 have H0 : Hid (_ ∧ _) := ⟨hm, hO⟩
 clear hm
 have hq : Hid _ := hq0
 have hqn : Hid _ := hqn0
 have hqr : Hid _ := hqr0
 have hg : Hid _ := hg0
 clear hq0 hqn0 hqr0 hg0 hO
 go_enter Tryz.func43, Tryz.ntmps43
 refine wp_seq (wp_seq ?_)
 refine zD (l := [0, 1, 2]) rfl ?_
 refine zA (d := 11) (v := .slice none 0 0) (w' := w) rfl rfl rfl (rfl) ?_
 simp only [Act.put, sa, sz, ss]
 refine zA (d := 12) (v := .int .i64 0) (w' := w) rfl rfl rfl (by go_simp) ?_
 simp only [Act.put, sa, sz, ss]
 refine zA (d := 13) (v := .int .i64 0) (w' := w) rfl rfl rfl (rfl) ?_
 simp only [Act.put, sa, sz, ss]
 refine zC (zB (wp_block ?_))
 refine wp_loop_rounds 1 ?_
 refine zU (n := 0) ?_
 refine wp_seq ?_
 refine zD (l := [0]) rfl ?_
 refine zA (d := 14) (v := .bool false) (w' := w) rfl rfl rfl (by kernel_rfl) ?_
 simp only [Act.put, sa, sz, ss]
 refine zC (zB ?_)
 refine wp_seq (wp_cond_false rfl ?_)
 refine wp_exit ?_
 repeat refine zX ?_
 refine zT ?_
 refine zB ?_
 refine zD (l := [0, 1, 2, 3, 4, 5, 6, 7, 8, 9]) rfl ?_
 refine zA (d := 38) (v := PT gw 0) (w' := w) rfl rfl rfl (rfl) ?_
 simp only [Act.put, sa, sz, ss]
 refine zA (d := 39) (v := PT gw 0) (w' := w) rfl rfl rfl (rfl) ?_
 simp only [Act.put, sa, sz, ss]
 refine zA (d := 40) (v := PT gw 0) (w' := w) rfl rfl rfl (by go_simp) ?_
 simp only [Act.put, sa, sz, ss]
 refine zA (d := 41) (v := PT gw 0) (w' := w) rfl rfl rfl (by go_simp) ?_
 simp only [Act.put, sa, sz, ss]
 refine zA (d := 42) (v := vv) (w' := w) rfl rfl rfl (zJ H0.out.1 0 rfl rfl rfl Ai51 rfl) ?_
 simp only [Act.put, sa, sz, ss]
 refine zA (d := 43) (v := .slice q.p q.n q.cp) (w' := w) rfl rfl rfl (rfl) ?_
 simp only [Act.put, sa, sz, ss]
 obtain ⟨v1, w1, hr, hO, hM⟩ := H0.out.2.appP H0.out.1 rfl hq.out hqn.out (hqr.out _ H0.out.1.tail) (by omega) 51
 have hs1 : Hid _ := own_st1 hO.own
 refine zA (d := 44) (v := v1) (w' := w1) rfl rfl rfl (ex_app rfl rfl rfl hr) ?_
 simp only [Act.put, sa, sz, ss]
 have H1 : Hid (Mm w1 ((gw, [vv]) :: lz) ∧ Ow W (gw :: lz.map Prod.fst) v1 (n + q.n) (ct P (n) q.f) w1) := ⟨hM, hO⟩
 clear hr hO hM H0
 refine zA (d := 45) (v := PT gw 0) (w' := w1) rfl rfl rfl (by go_simp) ?_
 simp only [Act.put, sa, sz, ss]
 refine zA (d := 46) (v := PT gw 0) (w' := w1) rfl rfl rfl (by go_simp) ?_
 simp only [Act.put, sa, sz, ss]
 refine rest_store rfl rfl rfl (ex_st1 (v := v1) H1.out.1 0 rfl rfl As51 rfl rfl (hs1.out) (Nat.le_of_ble_eq_true rfl)) ?_
 have H2 : Hid (Mm (w1.setCells gw 0 [v1]) ((gw, [v1]) :: lz) ∧ Ow W (gw :: lz.map Prod.fst) v1 (n + q.n) (ct P (n) q.f) (w1.setCells gw 0 [v1])) := ⟨H1.out.1.put 0 (off := 0) (vs := [v1]) rfl (Nat.le_of_ble_eq_true rfl), H1.out.2.put (List.mem_cons_self ..) hg.out⟩
 clear H1
 generalize hgw : World.setCells _ _ _ _ = w2 at H2 ⊢
 clear hgw
 refine zC ?_
 refine bodyPost_end (v := .tuple #[]) (by simp [results, Tryz.results43, go_sem]) rfl ?_
 exact ⟨rfl, v1, H2.out.2, H2.out.1⟩
/-- A row of bytes that is written out. -/
def lb (l : List Nat) (j : Nat) : Nat := l.getD j 0
theorem Ow.sub {w w1 : World} {L L' : List Nat} {vv : Value} {n : Nat} {P : Nat → Nat} (h : Ow w L vv n P w1) (hs : ∀ g, g ∈ L' → g ∈ L) : Ow w L' vv n P w1 := ⟨h.b, h.own, fun g hg => h.ne g (hs g hg)⟩
theorem Ow.start {w w1 : World} (hb : Below w.heap.size w w1) (P : Nat → Nat) (L : List Nat) : Ow w L (.slice none 0 0) 0 P w1 := ⟨hb, World.ownsRow_nil _ _ _ _, fun g _ e => by cases e⟩
theorem Ow.made {w w1 : World} {l : List (Nat × List Value)} (hb : Below w.heap.size w w1) (hm : Mm w1 l) (P : Nat → Nat) (c : Nat) (hc : c ≤ maxLen) (cur : Array Value) (hs : cur.size = c * 1) : Ow w (l.map Prod.fst) (.slice (some ⟨w1.heap.size, 0, none⟩) 0 c) 0 P (w1.alloc (.cells cur 5)) :=
 ⟨hb.trans (((Below.refl _ _).alloc (Nat.le_refl _) _).mono hb.size), World.ownsRow_made _ _ _ hb.size hc hs, fun g hg e => by
  obtain ⟨p, hp, e6⟩ := List.mem_map.1 hg
  have := (hm.blk p hp).1
  injection e with e
  simp at e
  omega⟩
theorem Ow.fin {w w1 : World} {L : List Nat} {vv : Value} {n : Nat} {P : Nat → Nat} (h : Ow w L vv n P w1) (hn : 0 < n) : ∃ g x, vv = .slice (some ⟨g, 0, none⟩) n (n + x) ∧ w.heap.size ≤ g ∧ g < w1.heap.size ∧ Blk w1 g (zH .u8 P n) := by
 have ho := h.own
 rcases ho.2 with ⟨_, h2⟩ | ⟨g, cap, cur, h1, h2, h3, h4, _⟩
 ·omega
 ·subst h1
  refine ⟨g, cap - n, by rw [show n + (cap - n) = cap by omega], h2, (World.ownsRow.lt ho g rfl).2, fun j v hj => ?_⟩
  have hlt : j < n := by
   have := (List.getElem?_eq_some_iff.1 hj).1
   rwa [ints_len] at this
  exact ⟨by rw [ho.cellAt j (by omega)]; exact hj, ho.frozenAt j⟩
def Pt8.no : Pt8 := ⟨0, 0, 0, 0, none, fun _ => 0⟩
theorem Pt8.no_ok : Pok Pt8.no := ⟨Bv.void _ _ _ _ _, Nat.le_refl _⟩
theorem Pt8.no_rs (w : World) : Pt8.no.rs w := Rs.void _ _ _ _
/-- A part that is a block from its beginning. -/
def Pt8.at (g n c : Nat) (f : Nat → Nat) : Pt8 := ⟨g, 0, n, c, some ⟨g, 0, none⟩, f⟩
theorem Pt8.at_ok (g n c : Nat) (f : Nat → Nat) (h : n ≤ c) : Pok (Pt8.at g n c f) := ⟨Bv.start _ _ _ _, h⟩
theorem Pt8.at_rs {w : World} {l : List (Nat × List Value)} (h : Mm w l) (k : Nat) {g n c : Nat} {f : Nat → Nat} {cs : List Value} (hk : l[k]? = some (g, cs)) (hc : ∀ i, i < n → cs[i]? = some (Z8 (f i))) : (Pt8.at g n c f).rs w :=
 ⟨fun _ => h.lt (List.mem_of_getElem? hk), fun i hi => by show w.cell? ⟨g, 0 + i, none⟩ = _; rw [Nat.zero_add]; exact h.get k hk i (hc i hi)⟩
section
variable {ρ : Operand → Value} {o : Oper} {x y z : Operand} {w : World}
theorem ex_mk96 (ho : o.op = .alloc 96) : (execOp ρ o).run Tryz.prog w = .ok (.value (.pointer (some ⟨w.heap.size, 0, none⟩))) (w.alloc (.cells ([.slice none 0 0] : List Value).toArray 96)) := by
 simp only [execOp, ho]
 go_simp
theorem ex_mk99 (ho : o.op = .alloc 99) : (execOp ρ o).run Tryz.prog w = .ok (.value (.pointer (some ⟨w.heap.size, 0, none⟩))) (w.alloc (.cells ([.slice none 0 0, .bool false] : List Value).toArray 99)) := by
 simp only [execOp, ho]
 go_simp
theorem ex_bsI1 {a : Nat} (ho : o.op = .buildSlice 59 1 #[(0, x)]) (hx : ρ x = .int .i64 (a : Int)) : (execOp ρ o).run Tryz.prog w = .ok (.value (.slice (some ⟨w.heap.size, 0, none⟩) 1 1)) (w.alloc (.cells (zH .i64 (lb [a]) 1).toArray 3)) := by
 simp only [execOp, ho, List.map_toArray, List.map_cons, List.map_nil, hx]
 kernel_rfl
theorem ex_bsI2 {a b : Nat} (ho : o.op = .buildSlice 59 2 #[(0, x), (1, y)]) (hx : ρ x = .int .i64 (a : Int)) (hy : ρ y = .int .i64 (b : Int)) : (execOp ρ o).run Tryz.prog w = .ok (.value (.slice (some ⟨w.heap.size, 0, none⟩) 2 2)) (w.alloc (.cells (zH .i64 (lb [a, b]) 2).toArray 3)) := by
 simp only [execOp, ho, List.map_toArray, List.map_cons, List.map_nil, hx, hy]
 kernel_rfl
end
set_option maxHeartbeats 2000000 in
theorem Int_258  (w : World) :
  Calls Tryz.prog 16 #[.int .i64 258] w fun e w' => Below w.heap.size w w' ∧ ∃ g x, e = .returned (.tuple #[.slice (some ⟨g, 0, none⟩) 8 (8 + x), .int .i64 0]) ∧ w.heap.size ≤ g ∧ g < w'.heap.size ∧ Blk w' g (zH .u8 (lb [0, 0, 0, 0, 0, 0, 1, 2]) 8) := by
 have H0 : Hid (_ ∧ _) := ⟨Mm.nil w, Below.refl w.heap.size w⟩
 go_enter Tryz.func16, Tryz.ntmps16
 refine wp_seq ?_
 refine zN (l := [0, 1]) rfl (fun u0 hu0 => ?_)
 have H1 : Hid (Mm u0 [] ∧ Below w.heap.size w u0) := by rw [hu0]; exact H0
 clear hu0 H0
 refine zA (d := 2) (v := .slice none 0 0) (w' := u0) rfl rfl rfl (rfl) ?_
 simp only [Act.put, sa, sz, ss]
 refine zA (d := 3) (v := .int .i64 0) (w' := u0) rfl rfl rfl (rfl) ?_
 simp only [Act.put, sa, sz, ss]
 refine zC (zB ?_)
 refine wp_seq (wp_seq ?_)
 refine zD (l := [0, 1, 2, 3, 4, 5]) rfl ?_
 refine zA (d := 5) (v := .int .i64 258) (w' := u0) rfl rfl rfl (rfl) ?_
 simp only [Act.put, sa, sz, ss]
 refine zA (d := 6) (v := .bool false) (w' := u0) rfl rfl rfl (by kernel_rfl) ?_
 simp only [Act.put, sa, sz, ss]
 refine zA (d := 7) (v := .bool false) (w' := u0) rfl rfl rfl (rfl) ?_
 simp only [Act.put, sa, sz, ss]
 refine zA (d := 8) (v := .int .i64 258) (w' := u0) rfl rfl rfl (rfl) ?_
 simp only [Act.put, sa, sz, ss]
 refine zA (d := 9) (v := .bool false) (w' := u0) rfl rfl rfl (by kernel_rfl) ?_
 simp only [Act.put, sa, sz, ss]
 refine zA (d := 10) (v := .bool false) (w' := u0) rfl rfl rfl (by go_simp) ?_
 simp only [Act.put, sa, sz, ss]
 refine zC (zB ?_)
 refine wp_cond_false rfl (wp_skip ?_)
 refine zB (wp_seq ?_)
 refine zD (l := [0]) rfl ?_
 refine zA (d := 4) (v := PT u0.heap.size 0) (w' := (u0.alloc (.cells ([Value.slice none 0 0] : List Value).toArray 96))) rfl rfl rfl (ex_mk96 rfl) ?_
 simp only [Act.put, sa, sz, ss]
 have o_Js2 : Hid (w.heap.size ≤ u0.heap.size) := H1.out.2.size
 have H2 : Hid (Mm (u0.alloc (.cells ([Value.slice none 0 0] : List Value).toArray 96)) ((u0.heap.size, [Value.slice none 0 0]) :: []) ∧ Ow w [u0.heap.size] (.slice none 0 0) 0 (lb []) (u0.alloc (.cells ([Value.slice none 0 0] : List Value).toArray 96))) := ⟨H1.out.1.alloc _ 96 rfl, Ow.start (H1.out.2.trans (((Below.refl _ _).alloc (Nat.le_refl _) _).mono H1.out.2.size)) _ _⟩
 clear H1
 generalize hgw : u0.alloc (.cells ([Value.slice none 0 0] : List Value).toArray 96) = w2 at H2 ⊢
 clear hgw
 generalize u0.heap.size = Js2 at o_Js2 H2 ⊢
 refine zC (zB (wp_seq ?_))
 refine zD (l := [0, 1, 2]) rfl ?_
 refine zA (d := 11) (v := .int .i64 258) (w' := w2) rfl rfl rfl (rfl) ?_
 simp only [Act.put, sa, sz, ss]
 refine zA (d := 12) (v := .slice (some ⟨w2.heap.size, 0, none⟩) 1 1) (w' := (w2.alloc (.cells (zH .i64 (lb [258]) 1 : List Value).toArray 3))) rfl rfl rfl (ex_bsI1 (a := 258) rfl rfl) ?_
 simp only [Act.put, sa, sz, ss]
 have o_Js3 : Hid (w.heap.size ≤ w2.heap.size) := H2.out.2.size
 have H3 : Hid (Mm (w2.alloc (.cells (zH .i64 (lb [258]) 1 : List Value).toArray 3)) ((w2.heap.size, zH .i64 (lb [258]) 1) :: [(Js2, [Value.slice none 0 0])]) ∧ Ow w [w2.heap.size, Js2] (.slice none 0 0) 0 (lb []) (w2.alloc (.cells (zH .i64 (lb [258]) 1 : List Value).toArray 3))) := ⟨H2.out.1.alloc _ 3 rfl, Ow.alloc H2.out.2 _⟩
 clear H2
 generalize hgw : w2.alloc (.cells (zH .i64 (lb [258]) 1 : List Value).toArray 3) = w3 at H3 ⊢
 clear hgw
 generalize w2.heap.size = Js3 at o_Js3 H3 ⊢
 refine zF (d := 13) (R := fun vv w' => vv = .tuple #[] ∧ ∃ vv', Ow w [Js2, Js3] vv' 8 (ct (pbf (lb []) 0 (lb [258]) 8) (0 + 8 * 1) (fun _ => 0)) w' ∧ Mm w' [(Js2, [vv']), (Js3, zH .i64 (lb [258]) 1)]) rfl rfl rfl (zG (args := #[PT Js2 0, .int .i64 8, .slice none 0 0, .slice (some ⟨Js3, 0, none⟩) 1 1]) rfl call43 rfl (mpn rfl)) (Calls.mono (put_any w Js2 Js3 [] (.slice none 0 0) 0 (lb []) Pt8.no Pt8.no_ok (fun _ => rfl) (fun u _ => Pt8.no_rs u) (lb [258]) 1 8 (by decide) (by decide) (by decide) (show 0 + 8 * 1 + 0 ≤ 2097152 from by decide) o_Js2.out w3 (H3.out.1.sel [1, 0] (by decide) rfl) (H3.out.2.sub (L' := [Js2, Js3]) (by simp))) (fun e w2 hh => ⟨_, hh.1, rfl, hh.2⟩)) ?_
 rintro _ w4 ⟨rfl, v4, hO, hM⟩
 have H4 : Hid (Mm w4 [(Js2, [v4])] ∧ Ow w [Js2] v4 8 (lb [0, 0, 0, 0, 0, 0, 1, 2]) w4) := ⟨hM.sel [0] (by decide) rfl, (hO.sub (L' := [Js2]) (by simp)).cg (show ∀ j, j < 8 → (ct (pbf (lb []) 0 (lb [258]) 8) (0 + 8 * 1) (fun _ => 0)) j = (lb [0, 0, 0, 0, 0, 0, 1, 2]) j from by decide)⟩
 clear hO hM H3
 simp only [Act.put, sa, sz, ss]
 refine zC (zB (wp_seq ?_))
 refine zD (l := [0, 1, 2, 3]) rfl ?_
 refine zA (d := 14) (v := PT Js2 0) (w' := w4) rfl rfl rfl (by go_simp) ?_
 simp only [Act.put, sa, sz, ss]
 refine zA (d := 15) (v := v4) (w' := w4) rfl rfl rfl (zJ H4.out.1 0 rfl rfl rfl Ai51 rfl) ?_
 simp only [Act.put, sa, sz, ss]
 refine zA (d := 2) (v := v4) (w' := w4) rfl rfl rfl (rfl) ?_
 simp only [Act.put, sa, sz, ss]
 refine zA (d := 3) (v := .int .i64 0) (w' := w4) rfl rfl rfl (rfl) ?_
 simp only [Act.put, sa, sz, ss]
 refine zC (zB (wp_ret ?_))
 repeat (first | refine zL ?_ | refine zK ?_)
 refine bodyPost_ret (v := .tuple #[v4, .int .i64 0]) (by simp [results, Tryz.results16, go_sem, *]) rfl ?_
 obtain ⟨g, x, hv, h1, h2, h3⟩ := H4.out.2.fin (by decide)
 exact ⟨H4.out.2.b, g, x, by rw [hv], h1, h2, h3⟩
set_option maxHeartbeats 2000000 in
theorem Int_neg  (w : World) :
  Calls Tryz.prog 16 #[.int .i64 (-1)] w (Rt w (.tuple #[.slice none 0 0, .int .i64 2])) := by
 have H0 : Hid (_ ∧ _) := ⟨Mm.nil w, Below.refl w.heap.size w⟩
 go_enter Tryz.func16, Tryz.ntmps16
 refine wp_seq ?_
 refine zN (l := [0, 1]) rfl (fun u0 hu0 => ?_)
 have H1 : Hid (Mm u0 [] ∧ Below w.heap.size w u0) := by rw [hu0]; exact H0
 clear hu0 H0
 refine zA (d := 2) (v := .slice none 0 0) (w' := u0) rfl rfl rfl (rfl) ?_
 simp only [Act.put, sa, sz, ss]
 refine zA (d := 3) (v := .int .i64 0) (w' := u0) rfl rfl rfl (rfl) ?_
 simp only [Act.put, sa, sz, ss]
 refine zC (zB ?_)
 refine wp_seq (wp_seq ?_)
 refine zD (l := [0, 1, 2, 3, 4, 5]) rfl ?_
 refine zA (d := 5) (v := .int .i64 (-1)) (w' := u0) rfl rfl rfl (rfl) ?_
 simp only [Act.put, sa, sz, ss]
 refine zA (d := 6) (v := .bool true) (w' := u0) rfl rfl rfl (by kernel_rfl) ?_
 simp only [Act.put, sa, sz, ss]
 refine zA (d := 7) (v := .bool true) (w' := u0) rfl rfl rfl (rfl) ?_
 simp only [Act.put, sa, sz, ss]
 refine rest_gone1 (d := 8) rfl rfl rfl ?_
 simp only [Act.put, sa, sz, ss]
 refine rest_gone1 (d := 9) rfl rfl rfl ?_
 simp only [Act.put, sa, sz, ss]
 refine zA (d := 10) (v := .bool true) (w' := u0) rfl rfl rfl (by go_simp) ?_
 simp only [Act.put, sa, sz, ss]
 refine zC (zB ?_)
 refine wp_cond_true rfl (wp_seq ?_)
 refine zD (l := [0, 1]) rfl ?_
 refine zA (d := 2) (v := .slice none 0 0) (w' := u0) rfl rfl rfl (rfl) ?_
 simp only [Act.put, sa, sz, ss]
 refine zA (d := 3) (v := .int .i64 2) (w' := u0) rfl rfl rfl (rfl) ?_
 simp only [Act.put, sa, sz, ss]
 refine zC (zB (wp_ret ?_))
 repeat (first | refine zL ?_ | refine zK ?_)
 refine bodyPost_ret (v := .tuple #[.slice none 0 0, .int .i64 2]) (by simp [results, Tryz.results16, go_sem, *]) rfl ?_
 exact ⟨rfl, H1.out.2⟩
end Wi
end Rg
end Go.Proofs.YtahghpkjkfaieaaGreatDoor
end
