/- Texts of the proof, joined. -/
import Derived.Orders
import Derived.RegionTactic
import Derived.Below
import Derived.Laws.IdiomCopy
import Derived.Laws.NewBlocks
import Derived.Test.YtjadelfdhhjkdaaGreatDoorProg
import Derived.BigQuiet
import Derived.ChangeKeysEq
import Derived.Deep.OwnRows
import Derived.Deep.RegionHeld3
import Derived.Laws.AppendOwn
import Derived.Laws.Bits64b
import Derived.Laws.Build
import Derived.Laws.BytesArg
import Derived.Laws.OwnMore
import Derived.Laws.Pointers
import Derived.Laws.Shifts
import Derived.Laws.Unary
import Derived.Lib.Bytes
import Derived.Lib.SliceRun
import Derived.Lib.Slices
import Derived.Lib.Small
import Derived.Lib.Strings
import Derived.Lib.Walk
import Derived.LoopN
import Derived.Maps.AppendAt
import Derived.WalkKit
import Derived.WalkSmall
import Derived.WalkSpells
import Derived.Laws.ResultCell
import Derived.RangeFuncRecord
section
namespace Go.Proofs.YtjadelfdhhjkdaaGreatDoor
open Go.RowKit
/-- What an operation of the region is: it tells a value and leaves the world; its guard shuts it out; it calls, and the answer is a value; it makes a block of these cells; it lays these cells into the block that operation j made of those. -/
def Kind : Type := ((Value)) ⊕ (Unit) ⊕ ((Value)) ⊕ ((List Value) × (TypeId)) ⊕ ((Nat) × (List Value) × (List Value))
abbrev Kind.quiet (v : Value) : Kind := Sum.inl v
abbrev Kind.gone : Kind := Sum.inr (Sum.inl ())
abbrev Kind.call (v : Value) : Kind := Sum.inr (Sum.inr (Sum.inl v))
abbrev Kind.made (zs : List Value) (t : TypeId) : Kind := Sum.inr (Sum.inr (Sum.inr (Sum.inl (zs, t))))
abbrev Kind.laid (j : Nat) (zs : List Value) (cs : List Value) : Kind := Sum.inr (Sum.inr (Sum.inr (Sum.inr (j, zs, cs))))
theorem Kind.each {M : Kind → Prop} (quiet : ∀ (v : Value), M (Kind.quiet v)) (gone : M Kind.gone) (call : ∀ (v : Value), M (Kind.call v)) (made : ∀ (zs : List Value) (t : TypeId), M (Kind.made zs t)) (laid : ∀ (j : Nat) (zs : List Value) (cs : List Value), M (Kind.laid j zs cs)) (k : Kind) : M k := by
  rcases k with v | _ | v | ⟨x0, x1⟩ | ⟨x0, x1, x2⟩
  · exact quiet _
  · exact gone
  · exact call _
  · exact made _ _
  · exact laid _ _ _
/-- What lies in its slot behind it; γ i: the block that operation i made. -/
def Kind.val (γ : Nat → Nat) (i : Nat) : Kind → Value
  | (Sum.inl v) => v
  | (Sum.inr (Sum.inl ())) => undef
  | (Sum.inr (Sum.inr (Sum.inl v))) => v
  | (Sum.inr (Sum.inr (Sum.inr (Sum.inl (_, _))))) => .pointer (some ⟨γ i, 0, none⟩)
  | (Sum.inr (Sum.inr (Sum.inr (Sum.inr (_, _, _))))) => undef
/-- The frame behind the region. -/
def fill (γ : Nat → Nat) : Nat → List Oper → List Kind → Act → Act
  | i, o :: os, k :: ks, a => fill γ (i + 1) os ks (a.put o.dst (k.val γ i))
  | _, _, _, a => a
theorem put_size (a : Act) (d : Option Tmp) (v : Value) : (a.put d v).tmps.size = a.tmps.size := by
  cases d <;> simp [Act.put]
theorem put_defers' (a : Act) (d : Option Tmp) (v : Value) : (a.put d v).defers = a.defers := by
  cases d <;> rfl
theorem put_other (a : Act) (x : Option Tmp) (v : Value) (d : Tmp) (h : x ≠ some d) : (a.put x v).tmps[d]? = a.tmps[d]? := by
  cases x with
  | none => rfl
  | some e => exact Array.getElem?_setIfInBounds_ne (fun he => h (by rw [he]))
theorem put_same (a : Act) (v : Value) (d : Tmp) (h : d < a.tmps.size) : (a.put (some d) v).tmps[d]? = some v := by
  simp [Act.put, h]
theorem fill_defers (γ : Nat → Nat) : ∀ (i : Nat) (os : List Oper) (ks : List Kind) (a : Act), (fill γ i os ks a).defers = a.defers
  | _, [], _, _ => rfl
  | _, _ :: _, [], _ => rfl
  | i, o :: os, k :: ks, a => by
    unfold fill
    rw [fill_defers γ (i + 1) os ks, put_defers']
theorem fill_other (γ : Nat → Nat) (d : Tmp) : ∀ (i : Nat) (os : List Oper) (ks : List Kind) (a : Act), (∀ o ∈ os, o.dst ≠ some d) → (fill γ i os ks a).tmps[d]? = a.tmps[d]?
  | _, [], _, _, _ => rfl
  | _, _ :: _, [], _, _ => rfl
  | i, o :: os, k :: ks, a, h => by
    unfold fill
    rw [fill_other γ d (i + 1) os ks _ (fun o' ho => h o' (List.mem_cons_of_mem _ ho)), put_other _ _ _ _ (h o (List.mem_cons_self ..))]
theorem fill_at (γ : Nat → Nat) (d : Tmp) (o : Oper) (k : Kind) (hd : o.dst = some d) : ∀ (j i : Nat) (os : List Oper) (ks : List Kind) (a : Act), os[j]? = some o → ks[j]? = some k → d < a.tmps.size →
    (∀ j' o', j < j' → os[j']? = some o' → o'.dst ≠ some d) → (fill γ i os ks a).tmps[d]? = some (k.val γ (i + j))
  | _, _, [], _, _, h, _, _, _ => by simp at h
  | _, _, _ :: _, [], _, _, h, _, _ => by simp at h
  | 0, i, o' :: os, k' :: ks, a, ho, hk, hs, hl => by
    simp at ho hk
    subst ho hk
    unfold fill
    rw [fill_other γ d (i + 1) os ks _ (fun o2 ho2 => ?_), hd, put_same _ _ _ hs]
    · rfl
    · obtain ⟨m, hm, e⟩ := List.getElem_of_mem ho2
      exact hl (m + 1) o2 (by omega) (by rw [List.getElem?_cons_succ, List.getElem?_eq_getElem hm, e])
  | j + 1, i, o' :: os, k' :: ks, a, ho, hk, hs, hl => by
    unfold fill
    rw [fill_at γ d o k hd j (i + 1) os ks _ (by simpa using ho) (by simpa using hk) (by rw [put_size]; exact hs) (fun j' o2 h1 h2 => hl (j' + 1) o2 (by omega) (by simpa using h2))]
    rw [show i + 1 + j = i + (j + 1) by omega]
/-- Block g of w holds these cells, and they may be written. -/
def Blk (w : World) (g : Nat) (cs : List Value) : Prop := ∀ j v, cs[j]? = some v → w.cell? ⟨g, j, none⟩ = some v ∧ w.frozen? ⟨g, j, none⟩ = false
theorem Blk.below {w w' : World} {B g : Nat} {cs : List Value} (h : Blk w g cs) (hb : Below B w w') (hg : g < B) : Blk w' g cs := fun j v hv =>
  ⟨by rw [hb.cell (p := ⟨g, j, none⟩) hg]; exact (h j v hv).1, by rw [hb.frozen (p := ⟨g, j, none⟩) hg]; exact (h j v hv).2⟩
theorem Blk.alloc {w : World} {g : Nat} {cs : List Value} (h : Blk w g cs) (hg : g < w.heap.size) (o : Obj) : Blk (w.alloc o) g cs := fun j v hv =>
  ⟨by rw [World.cell?_alloc_past _ _ _ hg]; exact (h j v hv).1, by rw [World.frozen?_alloc_past _ _ _ hg]; exact (h j v hv).2⟩
theorem Blk.new (w : World) (cs : List Value) (t : TypeId) : Blk (w.alloc (.cells cs.toArray t)) w.heap.size cs := fun j v hv =>
  ⟨by rw [World.cell?_alloc_at _ _ _ _ rfl]; simpa using hv, World.frozen?_alloc_at _ _ _ _ rfl⟩
theorem Blk.laid {w : World} {g : Nat} {zs cs : List Value} (h : Blk w g zs) (hl : zs.length = cs.length) : Blk (w.setCells g 0 cs) g cs := fun j v hv => by
  obtain ⟨hj, e⟩ := List.getElem?_eq_some_iff.1 hv
  have hz : zs[j]? = some (zs[j]'(by omega)) := List.getElem?_eq_getElem _
  refine ⟨?_, by rw [World.frozen?_setCells]; exact (h j _ hz).2⟩
  have := World.cell?_setCells_in g cs 0 w (fun i hi => by
    have := (h i _ (List.getElem?_eq_getElem (show i < zs.length by omega))).1
    rw [Nat.zero_add, this]; rfl) j hj
  rw [Nat.zero_add] at this
  rw [this, e]
theorem Blk.other {w : World} {g g' : Nat} {cs cs' : List Value} (h : Blk w g cs) (hg : g ≠ g') : Blk (w.setCells g' 0 cs') g cs := fun j v hv =>
  ⟨by rw [World.cell?_setCells_out g' cs' 0 w _ (fun e => absurd e hg)]; exact (h j v hv).1, by rw [World.frozen?_setCells]; exact (h j v hv).2⟩
theorem size_setCells (g : Nat) : ∀ (cs : List Value) (o : Nat) (w : World), (w.setCells g o cs).heap.size = w.heap.size
  | [], _, _ => rfl
  | v :: r, o, w => by rw [World.setCells, size_setCells g r, World.size_setCell]
theorem below_setCells {B : Nat} {w0 : World} (g : Nat) (hg : B ≤ g) : ∀ (cs : List Value) (o : Nat) (w : World), Below B w0 w → Below B w0 (w.setCells g o cs)
  | [], _, _, h => h
  | v :: r, o, w, h => by
    rw [World.setCells]
    exact below_setCells g hg r (o + 1) _ (h.setCell (p := ⟨g, o, none⟩) hg v)
section
variable {P : Program} {ops : Array Oper} {ks : List Kind} {a₀ : Act} {w₀ : World} {Q : Exit → Act → World → Prop}
/-- What is known of the memory when the operations l have come up. -/
structure Mem (ks : List Kind) (w₀ : World) (l : Array Bool) (γ : Nat → Nat) (w : World) : Prop where
  below : Below w₀.heap.size w₀ w
  made : ∀ i zs t, ks[i]? = some (.made zs t) → l.getD i false = true → w₀.heap.size ≤ γ i ∧ γ i < w.heap.size
  raw : ∀ i zs t, ks[i]? = some (.made zs t) → l.getD i false = true → (∀ s zs' cs, ks[s]? = some (.laid i zs' cs) → l.getD s false = false) → Blk w (γ i) zs
  full : ∀ s i zs cs, ks[s]? = some (.laid i zs cs) → l.getD s false = true → Blk w (γ i) cs ∧ γ i < w.heap.size
  order : ∀ s i zs cs, ks[s]? = some (.laid i zs cs) → l.getD s false = true → l.getD i false = true
  apart : ∀ i j zs t zs' t', ks[i]? = some (.made zs t) → ks[j]? = some (.made zs' t') → l.getD i false = true → l.getD j false = true → i ≠ j → γ i ≠ γ j
/-- What is to be shown of an operation. -/
def KindOk (P : Program) (ops : Array Oper) (S : World → Prop) (F : (Nat → Nat) → Act) (o : Oper) : Kind → Prop
  | (Sum.inl v) => ∀ γ, Region.wanted o (yielded ops (F γ).tmps) = true ∧ ∀ w, S w → (execOp (F γ).eval o).run P w = .ok (.value v) w
  | (Sum.inr (Sum.inl ())) => ∀ γ, Region.wanted o (yielded ops (F γ).tmps) = false
  | (Sum.inr (Sum.inr (Sum.inl v))) => ∀ γ, Region.wanted o (yielded ops (F γ).tmps) = true ∧ ∀ w, S w → ∃ f args, (execOp (F γ).eval o).run P w = .ok (.enter f args) w ∧ Calls P f args w (fun e w' => e = .returned v ∧ Below w.heap.size w w')
  | (Sum.inr (Sum.inr (Sum.inr (Sum.inl (zs, t))))) => ∀ γ, Region.wanted o (yielded ops (F γ).tmps) = true ∧ ∀ w, (execOp (F γ).eval o).run P w = .ok (.value (.pointer (some ⟨w.heap.size, 0, none⟩))) (w.alloc (.cells zs.toArray t))
  | (Sum.inr (Sum.inr (Sum.inr (Sum.inr (j, zs, cs))))) => ∀ γ, Region.wanted o (yielded ops (F γ).tmps) = true ∧ o.dst = none ∧ zs.length = cs.length ∧ ∀ w, Blk w (γ j) zs → (execOp (F γ).eval o).run P w = .ok .skip (w.setCells (γ j) 0 cs)
def AllOk (P : Program) (ops : Array Oper) (S : World → Prop) (F : (Nat → Nat) → Act) : List Oper → List Kind → Prop
  | o :: os, k :: ks => KindOk P ops S F o k ∧ AllOk P ops S F os ks
  | _, _ => True
theorem AllOk.at {S : World → Prop} {F : (Nat → Nat) → Act} : ∀ {os : List Oper} {ks : List Kind}, AllOk P ops S F os ks → ∀ {i : Nat} {o : Oper} {k : Kind}, os[i]? = some o → ks[i]? = some k → KindOk P ops S F o k
  | [], _, _, _, _, _, h, _ => by simp at h
  | _ :: _, [], _, _, _, _, _, h => by simp at h
  | o' :: os, k' :: ks, h, 0, o, k, ho, hk => by simp at ho hk; subst ho hk; exact h.1
  | o' :: os, k' :: ks, h, i + 1, o, k, ho, hk => AllOk.at (os := os) (ks := ks) h.2 (by simpa using ho) (by simpa using hk)
/-- Who waits for operation j. -/
def waits (o : Oper) (j : Nat) : Bool := o.after.any fun e => Region.binds .any e && e.on == j
def eachOp (ops : Array Oper) (p : Nat → Oper → Bool) : Bool := (List.range ops.size).all fun i => match ops[i]? with | none => true | some o => p i o
theorem eachOp_spec {p : Nat → Oper → Bool} (h : eachOp ops p = true) {i : Nat} {o : Oper} (ho : ops[i]? = some o) : p i o = true := by
  have hi : i < ops.size := (Array.getElem?_eq_some_iff.1 ho).1
  have := List.all_eq_true.1 h i (List.mem_range.2 hi)
  rw [ho] at this
  exact this
/-- The region is such that what it says of the order suffices: nobody waits for a later one; every slot is there; who looks at a slot waits for all that write it; no slot is written twice; who lays cells waits for the block's maker, and nobody else lays there. -/
def orderly (ops : Array Oper) (ks : List Kind) (n : Nat) : Bool :=
  Region.noSelect ops && ks.length == ops.size &&
  eachOp ops (fun i o => o.after.all fun e => !Region.binds .any e || decide (e.on < i)) &&
  eachOp ops (fun _ o => match o.dst with | none => true | some d => decide (d < n)) &&
  eachOp ops (fun _ o => (o.looksAt ops).all fun d => eachOp ops fun j oj => oj.dst != some d || waits o j) &&
  eachOp ops (fun i o => match o.dst with | none => true | some d => eachOp ops fun j oj => j == i || oj.dst != some d) &&
  eachOp ops (fun i o => match ks[i]? with | some ((Sum.inr (Sum.inr (Sum.inr (Sum.inr (j, _, _)))))) => waits o j && eachOp ops fun s _ => s == i || (match ks[s]? with | some ((Sum.inr (Sum.inr (Sum.inr (Sum.inr (j', _, _)))))) => j' != j | _ => true) | _ => true)
structure Orderly (ops : Array Oper) (ks : List Kind) (n : Nat) : Prop where
  noSelect : Region.noSelect ops = true
  size : ks.length = ops.size
  up : ∀ {i : Nat} {o : Oper}, ops[i]? = some o → ∀ e ∈ o.after, Region.binds .any e = true → e.on < i
  dst : ∀ {i : Nat} {o : Oper} {d : Tmp}, ops[i]? = some o → o.dst = some d → d < n
  looks : ∀ {i : Nat} {o : Oper} {d : Tmp} {j : Nat} {oj : Oper}, ops[i]? = some o → d ∈ o.looksAt ops → ops[j]? = some oj → oj.dst = some d → waits o j = true
  once : ∀ {i : Nat} {o : Oper} {d : Tmp} {j : Nat} {oj : Oper}, ops[i]? = some o → o.dst = some d → ops[j]? = some oj → oj.dst = some d → j = i
  laid : ∀ {i : Nat} {o : Oper} {j : Nat} {zs cs : List Value}, ops[i]? = some o → ks[i]? = some (.laid j zs cs) → waits o j = true
  lone : ∀ {i : Nat} {o : Oper} {j : Nat} {zs cs : List Value} {s : Nat} {zs' cs' : List Value}, ops[i]? = some o → ks[i]? = some (.laid j zs cs) → ks[s]? = some (.laid j zs' cs') → s = i
theorem Orderly.of {n : Nat} (h : orderly ops ks n = true) : Orderly ops ks n := by
  unfold orderly at h
  simp only [Bool.and_eq_true] at h
  obtain ⟨⟨⟨⟨⟨⟨h1, h2⟩, h3⟩, h4⟩, h5⟩, h6⟩, h7⟩ := h
  have hsz : ks.length = ops.size := by simpa using h2
  refine ⟨h1, hsz, ?_, ?_, ?_, ?_, ?_, ?_⟩
  · intro i o ho e he hb
    have := eachOp_spec h3 ho
    have := Array.all_eq_true_iff_forall_mem.1 this e he
    simpa [hb] using this
  · intro i o d ho hd
    have := eachOp_spec h4 ho
    rw [hd] at this
    simpa using this
  · intro i o d j oj ho hd hj hdj
    have := eachOp_spec (List.all_eq_true.1 (eachOp_spec h5 ho) d hd) hj
    simpa [hdj] using this
  · intro i o d j oj ho hd hj hdj
    have := eachOp_spec h6 ho
    rw [hd] at this
    have := eachOp_spec this hj
    simpa [hdj] using this
  · intro i o j zs cs ho hk
    have := eachOp_spec h7 ho
    rw [hk] at this
    simp only [Bool.and_eq_true] at this
    exact this.1
  · intro i o j zs cs s zs' cs' ho hk hs
    have := eachOp_spec h7 ho
    rw [hk] at this
    simp only [Bool.and_eq_true] at this
    have hlt : s < ops.size := by rw [← hsz]; exact (List.getElem?_eq_some_iff.1 hs).1
    have := eachOp_spec this.2 (Array.getElem?_eq_getElem hlt)
    rw [hs] at this
    simpa using this
def LaidOk (all : List Kind) : List Kind → Prop
  | [] => True
  | (Sum.inr (Sum.inr (Sum.inr (Sum.inr (j, zs, _))))) :: r => (∃ t, all[j]? = some (.made zs t)) ∧ LaidOk all r
  | _ :: r => LaidOk all r
theorem LaidOk.at {all : List Kind} : ∀ {r : List Kind}, LaidOk all r → ∀ {s j : Nat} {zs cs : List Value}, r[s]? = some (.laid j zs cs) → ∃ t, all[j]? = some (.made zs t)
  | [], _, _, _, _, _, h => by simp at h
  | k :: r, hl, 0, j, zs, cs, h => by
    simp at h
    subst h
    exact hl.1
  | k :: r, hl, s + 1, j, zs, cs, h => by
    have hr : LaidOk all r := by
      cases k using Kind.each <;> first | exact hl | exact hl.2
    exact hr.at (s := s) (by simpa using h)
structure Agree (ops : Array Oper) (ks : List Kind) (a₀ : Act) (l : Array Bool) (γ : Nat → Nat) (a : Act) : Prop where
  defers : a.defers = a₀.defers
  size : a.tmps.size = a₀.tmps.size
  slots : ∀ d, (∀ i o, ops[i]? = some o → o.dst = some d → l.getD i false = true) → a.tmps[d]? = (fill γ 0 ops.toList ks a₀).tmps[d]?
theorem kind_at {n : Nat} (hO : Orderly ops ks n) {i : Nat} {o : Oper} (ho : ops[i]? = some o) : ∃ k, ks[i]? = some k := by
  have hi : i < ops.size := (Array.getElem?_eq_some_iff.1 ho).1
  exact ⟨_, List.getElem?_eq_getElem (by rw [hO.size]; exact hi)⟩
theorem fill_one {n : Nat} (hO : Orderly ops ks n) (hn : n = a₀.tmps.size) (γ : Nat → Nat) {i : Nat} {o : Oper} {k : Kind} {d : Tmp} (ho : ops[i]? = some o) (hk : ks[i]? = some k) (hd : o.dst = some d) :
    (fill γ 0 ops.toList ks a₀).tmps[d]? = some (k.val γ i) := by
  have := fill_at γ d o k hd i 0 ops.toList ks a₀ (by simpa using ho) hk (by rw [← hn]; exact hO.dst ho hd) (fun j' o' hlt ho' hd' => by
    have := hO.once ho hd (by simpa using ho' : ops[j']? = some o') hd'
    omega)
  rw [Nat.zero_add] at this
  exact this
theorem Agree.step {n : Nat} (hO : Orderly ops ks n) (hn : n = a₀.tmps.size) {l : Array Bool} {γ γ' : Nat → Nat} {a : Act} (h : Agree ops ks a₀ l γ a) {i : Nat} {o : Oper} {k : Kind} (ho : ops[i]? = some o) (hk : ks[i]? = some k)
    (hγ : ∀ j, j ≠ i → γ' j = γ j) : Agree ops ks a₀ (l.setIfInBounds i true) γ' (a.put o.dst (k.val γ' i)) := by
  refine ⟨by rw [put_defers']; exact h.defers, by rw [put_size]; exact h.size, fun d hd => ?_⟩
  by_cases e : o.dst = some d
  · rw [fill_one hO hn γ' ho hk e, e, put_same _ _ _ (by rw [h.size, ← hn]; exact hO.dst ho e)]
  · rw [put_other _ _ _ _ e, h.slots d (fun j oj hj hdj => by
      have hne : i ≠ j := fun he => by subst he; rw [ho] at hj; injection hj with hj; subst hj; exact e hdj
      have := hd j oj hj hdj
      rw [getD_set_ne false hne] at this
      exact this)]
    by_cases hw : ∃ (j : Nat) (oj : Oper), ops[j]? = some oj ∧ oj.dst = some d
    · obtain ⟨j, oj, hj, hdj⟩ := hw
      obtain ⟨kj, hkj⟩ := kind_at hO hj
      have hne : j ≠ i := fun he => by subst he; rw [ho] at hj; injection hj with hj; subst hj; exact e hdj
      rw [fill_one hO hn γ hj hkj hdj, fill_one hO hn γ' hj hkj hdj]
      cases kj using Kind.each <;> first | rfl | (show some (Value.pointer _) = some (Value.pointer _); rw [hγ j hne])
    · have hno : ∀ o' ∈ ops.toList, o'.dst ≠ some d := fun o' ho' hd' => by
        obtain ⟨j, hj, ej⟩ := List.getElem_of_mem ho'
        exact hw ⟨j, o', by rw [← Array.getElem?_toList, List.getElem?_eq_getElem hj, ej], hd'⟩
      rw [fill_other γ d 0 _ _ _ hno, fill_other γ' d 0 _ _ _ hno]
theorem Agree.whole {l : Array Bool} {γ : Nat → Nat} {a : Act} (h : Agree ops ks a₀ l γ a) (hl : ∀ i, i < ops.size → l.getD i false = true) : a = fill γ 0 ops.toList ks a₀ := by
  have ht : a.tmps = (fill γ 0 ops.toList ks a₀).tmps := Array.ext_getElem? fun d =>
    h.slots d (fun i o ho _ => hl i (Array.getElem?_eq_some_iff.1 ho).1)
  have hd : a.defers = (fill γ 0 ops.toList ks a₀).defers := by rw [h.defers, fill_defers]
  cases a
  cases hf : fill γ 0 ops.toList ks a₀
  rw [hf] at ht hd
  simp only at ht hd
  rw [ht, hd]
/-! The memory, step by step. -/
theorem getD_true {l : Array Bool} {i j : Nat} (h : l.getD j false = true) : (l.setIfInBounds i true).getD j false = true := by
  by_cases e : i = j
  · subst e
    have hi : i < l.size := by
      rcases Nat.lt_or_ge i l.size with h' | h'
      · exact h'
      · simp [Array.getElem?_eq_none h'] at h
    simp [hi]
  · rw [getD_set_ne false e]; exact h
theorem getD_same {l : Array Bool} {i : Nat} (h : l.getD i true = false) : l.getD i false = false ∧ (l.setIfInBounds i true).getD i false = true := by
  rcases Nat.lt_or_ge i l.size with h' | h'
  · simp [h'] at h
    simp [h', h]
  · simp [Array.getElem?_eq_none h'] at h
theorem Mem.still {l : Array Bool} {γ : Nat → Nat} {w w' : World} (h : Mem ks w₀ l γ w) (hb : Below w.heap.size w w') {i : Nat} {k : Kind} (hk : ks[i]? = some k) (h1 : ∀ zs t, k ≠ .made zs t) (h2 : ∀ j zs cs, k ≠ .laid j zs cs) :
    Mem ks w₀ (l.setIfInBounds i true) γ w' := by
  have ne1 : ∀ j zs t, ks[j]? = some (.made zs t) → i ≠ j := fun j zs t hj he => by subst he; rw [hk] at hj; injection hj with hj; exact h1 _ _ hj
  have ne2 : ∀ s j zs cs, ks[s]? = some (.laid j zs cs) → i ≠ s := fun s j zs cs hj he => by subst he; rw [hk] at hj; injection hj with hj; exact h2 _ _ _ hj
  refine ⟨h.below.trans (hb.mono h.below.size), ?_, ?_, ?_, ?_, ?_⟩
  · intro j zs t hj hl
    rw [getD_set_ne false (ne1 j zs t hj)] at hl
    obtain ⟨x, y⟩ := h.made j zs t hj hl
    exact ⟨x, Nat.lt_of_lt_of_le y hb.size⟩
  · intro j zs t hj hl hs
    rw [getD_set_ne false (ne1 j zs t hj)] at hl
    exact (h.raw j zs t hj hl (fun s zs' cs hs' => by have := hs s zs' cs hs'; rwa [getD_set_ne false (ne2 s j zs' cs hs')] at this)).below hb (h.made j zs t hj hl).2
  · intro s j zs cs hs hl
    rw [getD_set_ne false (ne2 s j zs cs hs)] at hl
    exact ⟨(h.full s j zs cs hs hl).1.below hb (h.full s j zs cs hs hl).2, Nat.lt_of_lt_of_le (h.full s j zs cs hs hl).2 hb.size⟩
  · intro s j zs cs hs hl
    rw [getD_set_ne false (ne2 s j zs cs hs)] at hl
    exact getD_true (h.order s j zs cs hs hl)
  · intro x y zs t zs' t' hx hy hlx hly hne
    rw [getD_set_ne false (ne1 x zs t hx)] at hlx
    rw [getD_set_ne false (ne1 y zs' t' hy)] at hly
    exact h.apart x y zs t zs' t' hx hy hlx hly hne
end
end Go.Proofs.YtjadelfdhhjkdaaGreatDoor
end
section
namespace Go.Proofs.YtjadelfdhhjkdaaGreatDoor
open Go.RowKit
namespace Rg
/-- What an operation of the region is: it tells a value and leaves the world; its guard shuts it out; it calls, and the answer is a value; it makes a block of these cells; it lays these cells into the block that operation j made of those; it calls, and the answer bears a new block of these cells. -/
def Kind : Type := ((Value)) ⊕ (Unit) ⊕ ((Value)) ⊕ ((List Value) × (TypeId)) ⊕ ((Nat) × (List Value) × (List Value)) ⊕ ((Nat → Value) × (List Value)) ⊕ ((Value) × (Nat) × (List Value)) ⊕ ((Nat → Nat → Nat → Value) × (List Value)) ⊕ ((Nat → Nat → Nat → Value) × (List Value) × (Obj → Nat → Prop)) ⊕ ((Nat → Value) × (List Value) × (TypeId)) ⊕ ((Nat → Value) × (Nat))
abbrev Kind.quiet (v : Value) : Kind := Sum.inl v
abbrev Kind.gone  : Kind := Sum.inr (Sum.inl ())
abbrev Kind.call (v : Value) : Kind := Sum.inr (Sum.inr (Sum.inl v))
abbrev Kind.made (zs : List Value) (t : TypeId) : Kind := Sum.inr (Sum.inr (Sum.inr (Sum.inl (zs, t))))
abbrev Kind.laid (j : Nat) (zs : List Value) (cs : List Value) : Kind := Sum.inr (Sum.inr (Sum.inr (Sum.inr (Sum.inl (j, zs, cs)))))
abbrev Kind.born (v : Nat → Value) (cs : List Value) : Kind := Sum.inr (Sum.inr (Sum.inr (Sum.inr (Sum.inr (Sum.inl (v, cs))))))
abbrev Kind.over (v : Value) (j : Nat) (cs : List Value) : Kind := Sum.inr (Sum.inr (Sum.inr (Sum.inr (Sum.inr (Sum.inr (Sum.inl (v, j, cs)))))))
abbrev Kind.bornX (v : Nat → Nat → Nat → Value) (cs : List Value) : Kind := Sum.inr (Sum.inr (Sum.inr (Sum.inr (Sum.inr (Sum.inr (Sum.inr (Sum.inl (v, cs))))))))
abbrev Kind.ownX (v : Nat → Nat → Nat → Value) (cs : List Value) (E : Obj → Nat → Prop) : Kind := Sum.inr (Sum.inr (Sum.inr (Sum.inr (Sum.inr (Sum.inr (Sum.inr (Sum.inr (Sum.inl (v, cs, E)))))))))
abbrev Kind.row (v : Nat → Value) (cs : List Value) (t : TypeId) : Kind := Sum.inr (Sum.inr (Sum.inr (Sum.inr (Sum.inr (Sum.inr (Sum.inr (Sum.inr (Sum.inr (Sum.inl (v, cs, t))))))))))
abbrev Kind.same (v : Nat → Value) (j : Nat) : Kind := Sum.inr (Sum.inr (Sum.inr (Sum.inr (Sum.inr (Sum.inr (Sum.inr (Sum.inr (Sum.inr (Sum.inr (v, j))))))))))
theorem Kind.each {M : Kind → Prop} (quiet : ∀ (v : Value), M (Kind.quiet v)) (gone : M (Kind.gone )) (call : ∀ (v : Value), M (Kind.call v)) (made : ∀ (zs : List Value) (t : TypeId), M (Kind.made zs t)) (laid : ∀ (j : Nat) (zs : List Value) (cs : List Value), M (Kind.laid j zs cs)) (born : ∀ (v : Nat → Value) (cs : List Value), M (Kind.born v cs)) (over : ∀ (v : Value) (j : Nat) (cs : List Value), M (Kind.over v j cs)) (bornX : ∀ (v : Nat → Nat → Nat → Value) (cs : List Value), M (Kind.bornX v cs)) (ownX : ∀ (v : Nat → Nat → Nat → Value) (cs : List Value) (E : Obj → Nat → Prop), M (Kind.ownX v cs E)) (row : ∀ (v : Nat → Value) (cs : List Value) (t : TypeId), M (Kind.row v cs t)) (same : ∀ (v : Nat → Value) (j : Nat), M (Kind.same v j)) (k : Kind) : M k := by
  rcases k with v | _ | v | ⟨x0, x1⟩ | ⟨x0, x1, x2⟩ | ⟨x0, x1⟩ | ⟨x0, x1, x2⟩ | ⟨x0, x1⟩ | ⟨x0, x1, x2⟩ | ⟨x0, x1, x2⟩ | ⟨x0, x1⟩
  · exact quiet _
  · exact gone
  · exact call _
  · exact made _ _
  · exact laid _ _ _
  · exact born _ _
  · exact over _ _ _
  · exact bornX _ _
  · exact ownX _ _ _
  · exact row _ _ _
  · exact same _ _
theorem Kind.sameInj {j j' : Nat} {v v' : Nat → Value} (h : Kind.same v j = Kind.same v' j') : v = v' ∧ j = j' := by
  have h' := Sum.inr.inj (Sum.inr.inj (Sum.inr.inj (Sum.inr.inj (Sum.inr.inj (Sum.inr.inj (Sum.inr.inj (Sum.inr.inj (Sum.inr.inj (Sum.inr.inj h)))))))))
  exact ⟨congrArg Prod.fst h', congrArg Prod.snd h'⟩
/-- What lies in its slot behind it; γ i: the block that operation i made. -/
def Kind.val (γ : Nat → Nat) (i : Nat) : Kind → Value
  | (Sum.inl v) => v
  | (Sum.inr (Sum.inl ())) => undef
  | (Sum.inr (Sum.inr (Sum.inl v))) => v
  | (Sum.inr (Sum.inr (Sum.inr (Sum.inl (_, _))))) => .pointer (some ⟨γ i, 0, none⟩)
  | (Sum.inr (Sum.inr (Sum.inr (Sum.inr (Sum.inl (_, _, _)))))) => undef
  | (Sum.inr (Sum.inr (Sum.inr (Sum.inr (Sum.inr (Sum.inl (v, _))))))) => v (γ i)
  | (Sum.inr (Sum.inr (Sum.inr (Sum.inr (Sum.inr (Sum.inr (Sum.inl (v, _, _)))))))) => v
  | (Sum.inr (Sum.inr (Sum.inr (Sum.inr (Sum.inr (Sum.inr (Sum.inr (Sum.inl (v, _))))))))) => v (γ i) (γ (i + 65536)) (γ (i + 131072))
  | (Sum.inr (Sum.inr (Sum.inr (Sum.inr (Sum.inr (Sum.inr (Sum.inr (Sum.inr (Sum.inl (v, _, _)))))))))) => v (γ i) (γ (i + 65536)) (γ (i + 131072))
  | (Sum.inr (Sum.inr (Sum.inr (Sum.inr (Sum.inr (Sum.inr (Sum.inr (Sum.inr (Sum.inr (Sum.inl (v, _, _))))))))))) => v (γ i)
  | (Sum.inr (Sum.inr (Sum.inr (Sum.inr (Sum.inr (Sum.inr (Sum.inr (Sum.inr (Sum.inr (Sum.inr (v, j))))))))))) => v (γ j)
/-- The cells of a block that it makes. -/
def Kind.cells : Kind → Option (List Value)
  | (Sum.inr (Sum.inr (Sum.inr (Sum.inl (zs, _))))) => some zs
  | (Sum.inr (Sum.inr (Sum.inr (Sum.inr (Sum.inr (Sum.inl (_, cs))))))) => some cs
  | (Sum.inr (Sum.inr (Sum.inr (Sum.inr (Sum.inr (Sum.inr (Sum.inr (Sum.inl (_, cs))))))))) => some cs
  | (Sum.inr (Sum.inr (Sum.inr (Sum.inr (Sum.inr (Sum.inr (Sum.inr (Sum.inr (Sum.inl (_, cs, _)))))))))) => some cs
  | (Sum.inr (Sum.inr (Sum.inr (Sum.inr (Sum.inr (Sum.inr (Sum.inr (Sum.inr (Sum.inr (Sum.inl (_, cs, _))))))))))) => some cs
  | _ => none
def fresh (ks : List Kind) (i : Nat) : Option (List Value) := (ks[i]?).bind Kind.cells
/-- The frame behind the region. -/
def fill (γ : Nat → Nat) : Nat → List Oper → List Kind → Act → Act
  | i, o :: os, k :: ks, a => fill γ (i + 1) os ks (a.put o.dst (k.val γ i))
  | _, _, _, a => a
theorem fill_defers (γ : Nat → Nat) : ∀ (i : Nat) (os : List Oper) (ks : List Kind) (a : Act), (fill γ i os ks a).defers = a.defers
  | _, [], _, _ => rfl
  | _, _ :: _, [], _ => rfl
  | i, o :: os, k :: ks, a => by
    unfold fill
    rw [fill_defers γ (i + 1) os ks, put_defers']
theorem fill_other (γ : Nat → Nat) (d : Tmp) : ∀ (i : Nat) (os : List Oper) (ks : List Kind) (a : Act), (∀ o ∈ os, o.dst ≠ some d) → (fill γ i os ks a).tmps[d]? = a.tmps[d]?
  | _, [], _, _, _ => rfl
  | _, _ :: _, [], _, _ => rfl
  | i, o :: os, k :: ks, a, h => by
    unfold fill
    rw [fill_other γ d (i + 1) os ks _ (fun o' ho => h o' (List.mem_cons_of_mem _ ho)), put_other _ _ _ _ (h o (List.mem_cons_self ..))]
theorem fill_at (γ : Nat → Nat) (d : Tmp) (o : Oper) (k : Kind) (hd : o.dst = some d) : ∀ (j i : Nat) (os : List Oper) (ks : List Kind) (a : Act), os[j]? = some o → ks[j]? = some k → d < a.tmps.size →
    (∀ j' o', j < j' → os[j']? = some o' → o'.dst ≠ some d) → (fill γ i os ks a).tmps[d]? = some (k.val γ (i + j))
  | _, _, [], _, _, h, _, _, _ => by simp at h
  | _, _, _ :: _, [], _, _, h, _, _ => by simp at h
  | 0, i, o' :: os, k' :: ks, a, ho, hk, hs, hl => by
    simp at ho hk
    subst ho hk
    unfold fill
    rw [fill_other γ d (i + 1) os ks _ (fun o2 ho2 => ?_), hd, put_same _ _ _ hs]
    · rfl
    · obtain ⟨m, hm, e⟩ := List.getElem_of_mem ho2
      exact hl (m + 1) o2 (by omega) (by rw [List.getElem?_cons_succ, List.getElem?_eq_getElem hm, e])
  | j + 1, i, o' :: os, k' :: ks, a, ho, hk, hs, hl => by
    unfold fill
    rw [fill_at γ d o k hd j (i + 1) os ks _ (by simpa using ho) (by simpa using hk) (by rw [put_size]; exact hs) (fun j' o2 h1 h2 => hl (j' + 1) o2 (by omega) (by simpa using h2))]
    rw [show i + 1 + j = i + (j + 1) by omega]
/-- The world behind the mark of a block's end. -/
def mkw (w : World) (g : Nat) : World := match w.shape? g with
  | some (_, n) => w.freeze ⟨g, n, none⟩ 1
  | none => w
theorem mkw_heap (w : World) (g : Nat) : (mkw w g).os = w.os ∧ (mkw w g).tape = w.tape ∧ (mkw w g).output = w.output ∧ (mkw w g).heap.size = w.heap.size ∧ ∀ k, k ≠ g → (mkw w g).heap[k]? = w.heap[k]? := by
  unfold mkw
  split
  · rename_i t n _
    unfold World.freeze
    rw [if_neg (by decide)]
    refine ⟨rfl, rfl, rfl, by simp, fun k hk => ?_⟩
    show (Array.modify _ _ _)[k]? = _
    rw [Array.getElem?_modify, if_neg (fun e => hk e.symm)]
  · exact ⟨rfl, rfl, rfl, rfl, fun _ _ => rfl⟩
theorem mkw_blk {w : World} {g : Nat} {cs : List Value} {t : TypeId} (h : w.heap[g]? = some (.cells cs.toArray t (0, 0))) : Blk (mkw w g) g cs := by
  have e : w.shape? g = some (t, cs.length) := by unfold World.shape?; rw [h]; simp
  unfold mkw
  rw [e]
  have hh : (w.freeze ⟨g, cs.length, none⟩ 1).heap[g]? = some (.cells cs.toArray t (cs.length, cs.length + 1)) := by
    unfold World.freeze
    rw [if_neg (by decide)]
    show (Array.modify _ _ _)[g]? = _
    rw [Array.getElem?_modify, if_pos rfl, h]
    rfl
  intro j v hj
  have hjl : j < cs.length := (List.getElem?_eq_some_iff.1 hj).1
  refine ⟨?_, ?_⟩
  · show (w.freeze ⟨g, cs.length, none⟩ 1).cell? ⟨g, j, none⟩ = some v
    unfold World.cell?
    rw [hh]
    simpa using hj
  · show (w.freeze ⟨g, cs.length, none⟩ 1).frozen? ⟨g, j, none⟩ = false
    unfold World.frozen?
    rw [hh]
    simp
    omega
section
variable {P : Program} {ops : Array Oper} {ks : List Kind} {a₀ : Act} {w₀ : World} {Q : Exit → Act → World → Prop}
/-- What is known of the memory when the operations l have come up. -/
structure Mem (ks : List Kind) (w₀ : World) (l : Array Bool) (γ : Nat → Nat) (w : World) : Prop where
  below : Below w₀.heap.size w₀ w
  made : ∀ i zs, fresh ks i = some zs → l.getD i false = true → w₀.heap.size ≤ γ i ∧ γ i < w.heap.size
  raw : ∀ i zs, fresh ks i = some zs → l.getD i false = true → (∀ s zs' cs, ks[s]? = some (.laid i zs' cs) → l.getD s false = false) → Blk w (γ i) zs
  full : ∀ s i zs cs, ks[s]? = some (.laid i zs cs) → l.getD s false = true → Blk w (γ i) cs ∧ γ i < w.heap.size
  order : ∀ s i zs cs, ks[s]? = some (.laid i zs cs) → l.getD s false = true → l.getD i false = true
  apart : ∀ i j zs zs', fresh ks i = some zs → fresh ks j = some zs' → l.getD i false = true → l.getD j false = true → i ≠ j → γ i ≠ γ j
  tgt : ∀ s v t, ks[s]? = some (.same v t) → l.getD s false = true → l.getD t false = true
  rows : ∀ i v cs t, ks[i]? = some (.row v cs t) → l.getD i false = true → (∀ s u, ks[s]? = some (.same u i) → l.getD s false = false) → w.heap[γ i]? = some (.cells cs.toArray t (0, 0))
  owns : ∀ i v cs E, ks[i]? = some (.ownX v cs E) → l.getD i false = true → ∃ o, w.heap[γ i]? = some o ∧ E o (γ (i + 65536))
/-- What is to be shown of an operation. -/
def KindOk (P : Program) (ops : Array Oper) (S : World → Prop) (F : (Nat → Nat) → Act) (o : Oper) : Kind → Prop
  | (Sum.inl v) => ∀ γ, Region.wanted o (yielded ops (F γ).tmps) = true ∧ ∀ w, S w → (execOp (F γ).eval o).run P w = .ok (.value v) w
  | (Sum.inr (Sum.inl ())) => ∀ γ, Region.wanted o (yielded ops (F γ).tmps) = false
  | (Sum.inr (Sum.inr (Sum.inl v))) => ∀ γ, Region.wanted o (yielded ops (F γ).tmps) = true ∧ ∀ w, S w → ∃ f args, (execOp (F γ).eval o).run P w = .ok (.enter f args) w ∧ Calls P f args w (fun e w' => e = .returned v ∧ Below w.heap.size w w')
  | (Sum.inr (Sum.inr (Sum.inr (Sum.inl (zs, t))))) => ∀ γ, Region.wanted o (yielded ops (F γ).tmps) = true ∧ ∀ w, (execOp (F γ).eval o).run P w = .ok (.value (.pointer (some ⟨w.heap.size, 0, none⟩))) (w.alloc (.cells zs.toArray t))
  | (Sum.inr (Sum.inr (Sum.inr (Sum.inr (Sum.inr (Sum.inr (Sum.inr (Sum.inr (Sum.inr (Sum.inr (v, j))))))))))) => ∀ γ, Region.wanted o (yielded ops (F γ).tmps) = true ∧ ∀ w, S w → (execOp (F γ).eval o).run P w = .ok (.value (v (γ j))) (mkw w (γ j))
  | (Sum.inr (Sum.inr (Sum.inr (Sum.inr (Sum.inr (Sum.inr (Sum.inr (Sum.inr (Sum.inr (Sum.inl (v, cs, t))))))))))) => ∀ γ, Region.wanted o (yielded ops (F γ).tmps) = true ∧ ∀ w, (execOp (F γ).eval o).run P w = .ok (.value (v w.heap.size)) (w.alloc (.cells cs.toArray t))
  | (Sum.inr (Sum.inr (Sum.inr (Sum.inr (Sum.inr (Sum.inl (v, cs))))))) => ∀ γ, Region.wanted o (yielded ops (F γ).tmps) = true ∧ ∀ w, S w → ∃ f args, (execOp (F γ).eval o).run P w = .ok (.enter f args) w ∧ Calls P f args w (fun e w' => Below w.heap.size w w' ∧ ∃ g, e = .returned (v g) ∧ w.heap.size ≤ g ∧ g < w'.heap.size ∧ Blk w' g cs)
  | (Sum.inr (Sum.inr (Sum.inr (Sum.inr (Sum.inr (Sum.inr (Sum.inr (Sum.inl (v, cs))))))))) => ∀ γ, Region.wanted o (yielded ops (F γ).tmps) = true ∧ ∀ w, S w → ∃ f args, (execOp (F γ).eval o).run P w = .ok (.enter f args) w ∧ Calls P f args w (fun e w' => Below w.heap.size w w' ∧ ∃ g x y, e = .returned (v g x y) ∧ w.heap.size ≤ g ∧ g < w'.heap.size ∧ Blk w' g cs)
  | (Sum.inr (Sum.inr (Sum.inr (Sum.inr (Sum.inr (Sum.inr (Sum.inr (Sum.inr (Sum.inl (v, cs, E)))))))))) => ∀ γ, Region.wanted o (yielded ops (F γ).tmps) = true ∧ ∀ w, S w → ∃ f args, (execOp (F γ).eval o).run P w = .ok (.enter f args) w ∧ Calls P f args w (fun e w' => Below w.heap.size w w' ∧ ∃ g x y, e = .returned (v g x y) ∧ w.heap.size ≤ g ∧ g < w'.heap.size ∧ Blk w' g cs ∧ ∃ o, w'.heap[g]? = some o ∧ E o x)
  | (Sum.inr (Sum.inr (Sum.inr (Sum.inr (Sum.inr (Sum.inr (Sum.inl (v, j, cs)))))))) => ∀ γ, Region.wanted o (yielded ops (F γ).tmps) = true ∧ ∀ u w, S u → u.heap.size ≤ γ j → S w → Blk w (γ j) cs → γ j < w.heap.size → ∃ f args, (execOp (F γ).eval o).run P w = .ok (.enter f args) w ∧ Calls P f args w (fun e w' => e = .returned v ∧ Below w.heap.size w w')
  | (Sum.inr (Sum.inr (Sum.inr (Sum.inr (Sum.inl (j, zs, cs)))))) => ∀ γ, Region.wanted o (yielded ops (F γ).tmps) = true ∧ o.dst = none ∧ zs.length = cs.length ∧ ∀ w, Blk w (γ j) zs → (execOp (F γ).eval o).run P w = .ok .skip (w.setCells (γ j) 0 cs)
def AllOk (P : Program) (ops : Array Oper) (S : World → Prop) (F : (Nat → Nat) → Act) : List Oper → List Kind → Prop
  | o :: os, k :: ks => KindOk P ops S F o k ∧ AllOk P ops S F os ks
  | _, _ => True
theorem AllOk.at {S : World → Prop} {F : (Nat → Nat) → Act} : ∀ {os : List Oper} {ks : List Kind}, AllOk P ops S F os ks → ∀ {i : Nat} {o : Oper} {k : Kind}, os[i]? = some o → ks[i]? = some k → KindOk P ops S F o k
  | [], _, _, _, _, _, h, _ => by simp at h
  | _ :: _, [], _, _, _, _, _, h => by simp at h
  | o' :: os, k' :: ks, h, 0, o, k, ho, hk => by simp at ho hk; subst ho hk; exact h.1
  | o' :: os, k' :: ks, h, i + 1, o, k, ho, hk => AllOk.at (os := os) (ks := ks) h.2 (by simpa using ho) (by simpa using hk)
/-- The region is such that what it says of the order suffices: nobody waits for a later one; every slot is there; who looks at a slot waits for all that write it; no slot is written twice; who lays cells waits for the block's maker, and nobody else lays there. -/
def orderly (ops : Array Oper) (ks : List Kind) (n : Nat) : Bool :=
  decide (ops.size ≤ 65536) && Region.noSelect ops && ks.length == ops.size &&
  eachOp ops (fun i o => o.after.all fun e => !Region.binds .any e || decide (e.on < i)) &&
  eachOp ops (fun _ o => match o.dst with | none => true | some d => decide (d < n)) &&
  eachOp ops (fun _ o => (o.looksAt ops).all fun d => eachOp ops fun j oj => oj.dst != some d || waits o j) &&
  eachOp ops (fun i o => match o.dst with | none => true | some d => eachOp ops fun j oj => j == i || oj.dst != some d) &&
  eachOp ops (fun i o => match ks[i]? with | some ((Sum.inr (Sum.inr (Sum.inr (Sum.inr (Sum.inl (j, _, _))))))) => waits o j && eachOp ops fun s _ => s == i || (match ks[s]? with | some ((Sum.inr (Sum.inr (Sum.inr (Sum.inr (Sum.inl (j', _, _))))))) => j' != j | _ => true) | some ((Sum.inr (Sum.inr (Sum.inr (Sum.inr (Sum.inr (Sum.inr (Sum.inl (_, j, _))))))))) => waits o j || (List.range ops.size).any (fun s => waits o s && (match ks[s]? with | some ((Sum.inr (Sum.inr (Sum.inr (Sum.inr (Sum.inr (Sum.inr (Sum.inr (Sum.inr (Sum.inr (Sum.inr (_, j')))))))))))) => j' == j | _ => false)) | some ((Sum.inr (Sum.inr (Sum.inr (Sum.inr (Sum.inr (Sum.inr (Sum.inr (Sum.inr (Sum.inr (Sum.inr (_, j)))))))))))) => waits o j && decide (j < i) && (match ks[j]? with | some ((Sum.inr (Sum.inr (Sum.inr (Sum.inr (Sum.inr (Sum.inr (Sum.inr (Sum.inr (Sum.inr (Sum.inl (_, _, _)))))))))))) => true | _ => false) && eachOp ops (fun s _ => s == i || (match ks[s]? with | some ((Sum.inr (Sum.inr (Sum.inr (Sum.inr (Sum.inr (Sum.inr (Sum.inr (Sum.inr (Sum.inr (Sum.inr (_, j')))))))))))) => j' != j | _ => true)) | _ => true)
structure Orderly (ops : Array Oper) (ks : List Kind) (n : Nat) : Prop where
  small : ops.size ≤ 65536
  noSelect : Region.noSelect ops = true
  size : ks.length = ops.size
  up : ∀ {i : Nat} {o : Oper}, ops[i]? = some o → ∀ e ∈ o.after, Region.binds .any e = true → e.on < i
  dst : ∀ {i : Nat} {o : Oper} {d : Tmp}, ops[i]? = some o → o.dst = some d → d < n
  looks : ∀ {i : Nat} {o : Oper} {d : Tmp} {j : Nat} {oj : Oper}, ops[i]? = some o → d ∈ o.looksAt ops → ops[j]? = some oj → oj.dst = some d → waits o j = true
  once : ∀ {i : Nat} {o : Oper} {d : Tmp} {j : Nat} {oj : Oper}, ops[i]? = some o → o.dst = some d → ops[j]? = some oj → oj.dst = some d → j = i
  laid : ∀ {i : Nat} {o : Oper} {j : Nat} {zs cs : List Value}, ops[i]? = some o → ks[i]? = some (.laid j zs cs) → waits o j = true
  over : ∀ {i : Nat} {o : Oper} {v : Value} {j : Nat} {cs : List Value}, ops[i]? = some o → ks[i]? = some (.over v j cs) → waits o j = true ∨ ∃ s u, ks[s]? = some (.same u j) ∧ waits o s = true
  lone : ∀ {i : Nat} {o : Oper} {j : Nat} {zs cs : List Value} {s : Nat} {zs' cs' : List Value}, ops[i]? = some o → ks[i]? = some (.laid j zs cs) → ks[s]? = some (.laid j zs' cs') → s = i
  same : ∀ {i : Nat} {o : Oper} {v : Nat → Value} {j : Nat}, ops[i]? = some o → ks[i]? = some (.same v j) → (waits o j = true ∧ j < i) ∧ (∃ u cs t, ks[j]? = some (.row u cs t)) ∧ ∀ s v', ks[s]? = some (.same v' j) → s = i
theorem Orderly.of {n : Nat} (h : orderly ops ks n = true) : Orderly ops ks n := by
  unfold orderly at h
  simp only [Bool.and_eq_true] at h
  obtain ⟨⟨⟨⟨⟨⟨⟨h0, h1⟩, h2⟩, h3⟩, h4⟩, h5⟩, h6⟩, h7⟩ := h
  have hsz : ks.length = ops.size := by simpa using h2
  refine ⟨of_decide_eq_true h0, h1, hsz, ?_, ?_, ?_, ?_, ?_, ?_, ?_, ?_⟩
  · intro i o ho e he hb
    have := eachOp_spec h3 ho
    have := Array.all_eq_true_iff_forall_mem.1 this e he
    simpa [hb] using this
  · intro i o d ho hd
    have := eachOp_spec h4 ho
    rw [hd] at this
    simpa using this
  · intro i o d j oj ho hd hj hdj
    have := eachOp_spec (List.all_eq_true.1 (eachOp_spec h5 ho) d hd) hj
    simpa [hdj] using this
  · intro i o d j oj ho hd hj hdj
    have := eachOp_spec h6 ho
    rw [hd] at this
    have := eachOp_spec this hj
    simpa [hdj] using this
  · intro i o j zs cs ho hk
    have := eachOp_spec h7 ho
    rw [hk] at this
    simp only [Bool.and_eq_true] at this
    exact this.1
  · intro i o v j cs ho hk
    have := eachOp_spec h7 ho
    rw [hk] at this
    rcases (Bool.or_eq_true _ _).mp this with h | h
    · exact .inl h
    · obtain ⟨s, _, hs⟩ := List.any_eq_true.1 h
      rw [Bool.and_eq_true] at hs
      obtain ⟨hs1, hs2⟩ := hs
      split at hs2
      · rename_i u j' hj
        exact .inr ⟨s, u, by rw [hj, eq_of_beq hs2], hs1⟩
      · cases hs2
  · intro i o j zs cs s zs' cs' ho hk hs
    have := eachOp_spec h7 ho
    rw [hk] at this
    simp only [Bool.and_eq_true] at this
    have hlt : s < ops.size := by rw [← hsz]; exact (List.getElem?_eq_some_iff.1 hs).1
    have := eachOp_spec this.2 (Array.getElem?_eq_getElem hlt)
    rw [hs] at this
    simpa using this
  · intro i o v j ho hk
    have := eachOp_spec h7 ho
    rw [hk] at this
    simp only [Bool.and_eq_true] at this
    obtain ⟨⟨⟨x1, x2⟩, x3⟩, x4⟩ := this
    refine ⟨⟨x1, of_decide_eq_true x2⟩, ?_, fun s v' hs => ?_⟩
    · split at x3
      · rename_i u cs t hj
        exact ⟨u, cs, t, hj⟩
      · cases x3
    · have hsz2 : s < ops.size := by rw [← hsz]; exact (List.getElem?_eq_some_iff.1 hs).1
      have := eachOp_spec x4 (Array.getElem?_eq_getElem hsz2)
      rw [hs] at this
      simpa using this
def bornAt : Option Kind → Option (List Value × Nat)
  | some ((Sum.inr (Sum.inr (Sum.inr (Sum.inr (Sum.inr (Sum.inl (_, cs)))))))) => some (cs, 0)
  | some ((Sum.inr (Sum.inr (Sum.inr (Sum.inr (Sum.inr (Sum.inr (Sum.inr (Sum.inl (_, cs)))))))))) => some (cs, 1)
  | some ((Sum.inr (Sum.inr (Sum.inr (Sum.inr (Sum.inr (Sum.inr (Sum.inr (Sum.inr (Sum.inr (Sum.inl (_, cs, _)))))))))))) => some (cs, 2)
  | _ => none
def LaidOk (all : List Kind) : List Kind → Prop
  | [] => True
  | (Sum.inr (Sum.inr (Sum.inr (Sum.inr (Sum.inl (j, zs, _)))))) :: r => (∃ t, all[j]? = some (.made zs t)) ∧ LaidOk all r
  | (Sum.inr (Sum.inr (Sum.inr (Sum.inr (Sum.inr (Sum.inr (Sum.inl (_, j, cs)))))))) :: r => (∃ c, bornAt all[j]? = some (cs, c)) ∧ LaidOk all r
  | _ :: r => LaidOk all r
theorem LaidOk.at {all : List Kind} : ∀ {r : List Kind}, LaidOk all r → ∀ {s j : Nat} {zs cs : List Value}, r[s]? = some (.laid j zs cs) → ∃ t, all[j]? = some (.made zs t)
  | [], _, _, _, _, _, h => by simp at h
  | k :: r, hl, 0, j, zs, cs, h => by
    simp at h
    subst h
    exact hl.1
  | k :: r, hl, s + 1, j, zs, cs, h => by
    have hr : LaidOk all r := by
      cases k using Kind.each <;> first | exact hl | exact hl.2
    exact hr.at (s := s) (by simpa using h)
theorem LaidOk.over {all : List Kind} : ∀ {r : List Kind}, LaidOk all r → ∀ {s j : Nat} {v : Value} {cs : List Value}, r[s]? = some (.over v j cs) → ∃ c, bornAt all[j]? = some (cs, c)
  | [], _, _, _, _, _, h => by simp at h
  | k :: r, hl, 0, j, v, cs, h => by
    simp at h
    subst h
    exact hl.1
  | k :: r, hl, s + 1, j, v, cs, h => by
    have hr : LaidOk all r := by
      cases k using Kind.each <;> first | exact hl | exact hl.2
    exact hr.over (s := s) (by simpa using h)
structure Agree (ops : Array Oper) (ks : List Kind) (a₀ : Act) (l : Array Bool) (γ : Nat → Nat) (a : Act) : Prop where
  defers : a.defers = a₀.defers
  size : a.tmps.size = a₀.tmps.size
  slots : ∀ d, (∀ i o, ops[i]? = some o → o.dst = some d → l.getD i false = true) → a.tmps[d]? = (fill γ 0 ops.toList ks a₀).tmps[d]?
theorem kind_at {n : Nat} (hO : Orderly ops ks n) {i : Nat} {o : Oper} (ho : ops[i]? = some o) : ∃ k, ks[i]? = some k := by
  have hi : i < ops.size := (Array.getElem?_eq_some_iff.1 ho).1
  exact ⟨_, List.getElem?_eq_getElem (by rw [hO.size]; exact hi)⟩
theorem fill_one {n : Nat} (hO : Orderly ops ks n) (hn : n = a₀.tmps.size) (γ : Nat → Nat) {i : Nat} {o : Oper} {k : Kind} {d : Tmp} (ho : ops[i]? = some o) (hk : ks[i]? = some k) (hd : o.dst = some d) :
    (fill γ 0 ops.toList ks a₀).tmps[d]? = some (k.val γ i) := by
  have := fill_at γ d o k hd i 0 ops.toList ks a₀ (by simpa using ho) hk (by rw [← hn]; exact hO.dst ho hd) (fun j' o' hlt ho' hd' => by
    have := hO.once ho hd (by simpa using ho' : ops[j']? = some o') hd'
    omega)
  rw [Nat.zero_add] at this
  exact this
theorem Agree.step {n : Nat} (hO : Orderly ops ks n) (hn : n = a₀.tmps.size) {l : Array Bool} {γ γ' : Nat → Nat} {a : Act} (h : Agree ops ks a₀ l γ a) {i : Nat} {o : Oper} {k : Kind} (ho : ops[i]? = some o) (hk : ks[i]? = some k)
    (hγ : ∀ j, j ≠ i → j ≠ i + 65536 → j ≠ i + 131072 → γ' j = γ j) (ht : ∀ s v t, ks[s]? = some (.same v t) → l.getD s false = true → γ' t = γ t := by intro _ _ _ _ _; rfl) : Agree ops ks a₀ (l.setIfInBounds i true) γ' (a.put o.dst (k.val γ' i)) := by
  have hi6 : i < 65536 := Nat.lt_of_lt_of_le (Array.getElem?_eq_some_iff.1 ho).1 hO.small
  refine ⟨by rw [put_defers']; exact h.defers, by rw [put_size]; exact h.size, fun d hd => ?_⟩
  by_cases e : o.dst = some d
  · rw [fill_one hO hn γ' ho hk e, e, put_same _ _ _ (by rw [h.size, ← hn]; exact hO.dst ho e)]
  · rw [put_other _ _ _ _ e, h.slots d (fun j oj hj hdj => by
      have hne : i ≠ j := fun he => by subst he; rw [ho] at hj; injection hj with hj; subst hj; exact e hdj
      have := hd j oj hj hdj
      rw [getD_set_ne false hne] at this
      exact this)]
    by_cases hw : ∃ (j : Nat) (oj : Oper), ops[j]? = some oj ∧ oj.dst = some d
    · obtain ⟨j, oj, hj, hdj⟩ := hw
      obtain ⟨kj, hkj⟩ := kind_at hO hj
      have hne : j ≠ i := fun he => by subst he; rw [ho] at hj; injection hj with hj; subst hj; exact e hdj
      rw [fill_one hO hn γ hj hkj hdj, fill_one hO hn γ' hj hkj hdj]
      have hj6 : j < 65536 := Nat.lt_of_lt_of_le (Array.getElem?_eq_some_iff.1 hj).1 hO.small
      have hlj : l.getD j false = true := by
        have := hd j oj hj hdj
        rwa [getD_set_ne false (Ne.symm hne)] at this
      have q1 := hγ j hne (by omega) (by omega)
      have q2 := hγ (j + 65536) (by omega) (by omega) (by omega)
      have q3 := hγ (j + 131072) (by omega) (by omega) (by omega)
      cases kj using Kind.each with
      | same v t =>
        show some (v (γ t)) = some (v (γ' t))
        rw [ht j v t hkj hlj]
      | _ => simp only [Kind.val, q1, q2, q3]
    · have hno : ∀ o' ∈ ops.toList, o'.dst ≠ some d := fun o' ho' hd' => by
        obtain ⟨j, hj, ej⟩ := List.getElem_of_mem ho'
        exact hw ⟨j, o', by rw [← Array.getElem?_toList, List.getElem?_eq_getElem hj, ej], hd'⟩
      rw [fill_other γ d 0 _ _ _ hno, fill_other γ' d 0 _ _ _ hno]
theorem Agree.whole {l : Array Bool} {γ : Nat → Nat} {a : Act} (h : Agree ops ks a₀ l γ a) (hl : ∀ i, i < ops.size → l.getD i false = true) : a = fill γ 0 ops.toList ks a₀ := by
  have ht : a.tmps = (fill γ 0 ops.toList ks a₀).tmps := Array.ext_getElem? fun d =>
    h.slots d (fun i o ho _ => hl i (Array.getElem?_eq_some_iff.1 ho).1)
  have hd : a.defers = (fill γ 0 ops.toList ks a₀).defers := by rw [h.defers, fill_defers]
  cases a
  cases hf : fill γ 0 ops.toList ks a₀
  rw [hf] at ht hd
  simp only at ht hd
  rw [ht, hd]
/-! The memory, step by step. -/
theorem fresh_of {ks : List Kind} {i : Nat} {k : Kind} (hk : ks[i]? = some k) : fresh ks i = k.cells := by unfold fresh; rw [hk]; rfl
theorem heap_setCells0 (g k : Nat) (hk : k ≠ g) : ∀ (vs : List Value) (o : Nat) (w : World), (w.setCells g o vs).heap[k]? = w.heap[k]?
  | [], _, _ => rfl
  | v :: r, o, w => by
    rw [World.setCells, heap_setCells0 g k hk r (o + 1) _]
    unfold World.setCell
    show (Array.modify _ _ _)[k]? = _
    rw [Array.getElem?_modify, if_neg (fun e => hk e.symm)]
theorem Mem.still {l : Array Bool} {γ : Nat → Nat} {w w' : World} (h : Mem ks w₀ l γ w) (hb : Below w.heap.size w w') {i : Nat} {k : Kind} (hk : ks[i]? = some k) (h1 : k.cells = none) (h2 : ∀ j zs cs, k ≠ .laid j zs cs) (h3 : ∀ v t, k = .same v t → l.getD t false = true := by intro _ _ h; cases h) :
    Mem ks w₀ (l.setIfInBounds i true) γ w' := by
  have ne1 : ∀ j zs, fresh ks j = some zs → i ≠ j := fun j zs hj he => by subst he; rw [fresh_of hk, h1] at hj; cases hj
  have ne2 : ∀ s j zs cs, ks[s]? = some (.laid j zs cs) → i ≠ s := fun s j zs cs hj he => by subst he; rw [hk] at hj; injection hj with hj; exact h2 _ _ _ hj
  refine ⟨h.below.trans (hb.mono h.below.size), ?_, ?_, ?_, ?_, ?_, ?_, ?_, ?_⟩
  · intro j zs hj hl
    rw [getD_set_ne false (ne1 j zs hj)] at hl
    obtain ⟨x, y⟩ := h.made j zs hj hl
    exact ⟨x, Nat.lt_of_lt_of_le y hb.size⟩
  · intro j zs hj hl hs
    rw [getD_set_ne false (ne1 j zs hj)] at hl
    exact (h.raw j zs hj hl (fun s zs' cs hs' => by have := hs s zs' cs hs'; rwa [getD_set_ne false (ne2 s j zs' cs hs')] at this)).below hb (h.made j zs hj hl).2
  · intro s j zs cs hs hl
    rw [getD_set_ne false (ne2 s j zs cs hs)] at hl
    exact ⟨(h.full s j zs cs hs hl).1.below hb (h.full s j zs cs hs hl).2, Nat.lt_of_lt_of_le (h.full s j zs cs hs hl).2 hb.size⟩
  · intro s j zs cs hs hl
    rw [getD_set_ne false (ne2 s j zs cs hs)] at hl
    exact getD_true (h.order s j zs cs hs hl)
  · intro x y zs zs' hx hy hlx hly hne
    rw [getD_set_ne false (ne1 x zs hx)] at hlx
    rw [getD_set_ne false (ne1 y zs' hy)] at hly
    exact h.apart x y zs zs' hx hy hlx hly hne
  · intro s v t hs hl
    by_cases e : s = i
    · subst e
      rw [hk] at hs
      injection hs with hs
      exact getD_true (h3 v t hs)
    · rw [getD_set_ne false (Ne.symm e)] at hl
      exact getD_true (h.tgt s v t hs hl)
  · intro j v cs t hj hl hs
    have hne : i ≠ j := ne1 j cs (by rw [fresh_of hj]; rfl)
    rw [getD_set_ne false hne] at hl
    have hlt := (h.made j cs (by rw [fresh_of hj]; rfl) hl).2
    rw [hb.block _ hlt]
    exact h.rows j v cs t hj hl (fun s u hs' => by
      have := hs s u hs'
      cases hb2 : l.getD s false with
      | false => rfl
      | true => rw [getD_true hb2] at this; cases this)
  · intro j v cs E hj hl
    have hne : i ≠ j := ne1 j cs (by rw [fresh_of hj]; rfl)
    rw [getD_set_ne false hne] at hl
    rw [hb.block _ (h.made j cs (by rw [fresh_of hj]; rfl) hl).2]
    exact h.owns j v cs E hj hl
/-- The end of a row is marked. -/
theorem Mem.mark {n : Nat} (hO : Orderly ops ks n) (hL : LaidOk ks ks) {l : Array Bool} {γ : Nat → Nat} {w : World} (h : Mem ks w₀ l γ w) {i j : Nat} {o : Oper} {u : Nat → Value} (ho : ops[i]? = some o) (hk : ks[i]? = some (.same u j)) (hun : l.getD i true = false) (hlj : l.getD j false = true) : Mem ks w₀ (l.setIfInBounds i true) γ (mkw w (γ j)) := by
  obtain ⟨_, ⟨v, cs, t, hj⟩, hlone⟩ := hO.same ho hk
  obtain ⟨m1, m2, m3, m4, m5⟩ := mkw_heap w (γ j)
  have hfj : fresh ks j = some cs := by rw [fresh_of hj]; rfl
  have hmj := h.made j cs hfj hlj
  have hrow := h.rows j v cs t hj hlj (fun s u' hs => by rw [hlone s u' hs]; exact (getD_same hun).1)
  have hblk := mkw_blk hrow
  have ne1 : ∀ j zs, fresh ks j = some zs → i ≠ j := fun j zs hj he => by subst he; rw [fresh_of hk] at hj; cases hj
  have ne2 : ∀ s j zs cs, ks[s]? = some (.laid j zs cs) → i ≠ s := fun s j zs cs hj he => by subst he; rw [hk] at hj; cases hj
  have keep : ∀ g cs', g ≠ γ j → Blk w g cs' → Blk (mkw w (γ j)) g cs' := fun g cs' hg hb x v hx => by
    have e := m5 g hg
    exact ⟨by rw [World.cell?_of_block (w := w) (a := ⟨g, x, none⟩) e]; exact (hb x v hx).1, by rw [World.frozen?_of_block (w := w) (a := ⟨g, x, none⟩) e]; exact (hb x v hx).2⟩
  refine ⟨⟨m1.trans h.below.os, m2.trans h.below.tape, m3.trans h.below.output, by rw [m4]; exact h.below.size, fun k hk' => (m5 k (by omega)).trans (h.below.block k hk')⟩, ?_, ?_, ?_, ?_, ?_, ?_, ?_, ?_⟩
  · intro x zs hx hl
    rw [getD_set_ne false (ne1 x zs hx)] at hl
    rw [m4]
    exact h.made x zs hx hl
  · intro x zs hx hl hs
    rw [getD_set_ne false (ne1 x zs hx)] at hl
    by_cases e : x = j
    · subst e
      rw [hfj] at hx
      injection hx with hx
      subst hx
      exact hblk
    · exact keep _ _ (h.apart x j zs cs hx hfj hl hlj e) (h.raw x zs hx hl (fun s zs' cs' hs' => by have := hs s zs' cs' hs'; rwa [getD_set_ne false (ne2 s x zs' cs' hs')] at this))
  · intro s x zs cs' hs hl
    rw [getD_set_ne false (ne2 s x zs cs' hs)] at hl
    rw [m4]
    have hf := h.full s x zs cs' hs hl
    refine ⟨?_, hf.2⟩
    have hlx := h.order s x zs cs' hs hl
    obtain ⟨t', hx⟩ := hL.at hs
    have hxj : x ≠ j := fun e => by subst e; rw [hj] at hx; cases hx
    exact keep _ _ (h.apart x j zs cs (fresh_of hx) hfj hlx hlj hxj) hf.1
  · intro s x zs cs' hs hl
    rw [getD_set_ne false (ne2 s x zs cs' hs)] at hl
    exact getD_true (h.order s x zs cs' hs hl)
  · intro x y zs zs' hx hy hlx hly hne
    rw [getD_set_ne false (ne1 x zs hx)] at hlx
    rw [getD_set_ne false (ne1 y zs' hy)] at hly
    exact h.apart x y zs zs' hx hy hlx hly hne
  · intro s v' t' hs hl
    by_cases e : s = i
    · subst e
      rw [hk] at hs
      injection hs with hs
      obtain ⟨_, hs⟩ := Kind.sameInj hs
      subst hs
      exact getD_true hlj
    · rw [getD_set_ne false (Ne.symm e)] at hl
      exact getD_true (h.tgt s v' t' hs hl)
  · intro x v' cs' t' hx hl hs
    have hne : i ≠ x := ne1 x cs' (by rw [fresh_of hx]; rfl)
    rw [getD_set_ne false hne] at hl
    have hxj : x ≠ j := fun e => by
      subst e
      have := hs i u hk
      have h3 : (l.setIfInBounds i true).getD i false = true := (getD_same hun).2
      rw [h3] at this
      cases this
    have hap := h.apart x j cs' cs (by rw [fresh_of hx]; rfl) hfj hl hlj hxj
    rw [m5 _ hap]
    exact h.rows x v' cs' t' hx hl (fun s u' hs' => by
      have := hs s u' hs'
      cases hb2 : l.getD s false with
      | false => rfl
      | true => rw [getD_true hb2] at this; cases this)
  · intro x v' cs' E hx hl
    have hne : i ≠ x := ne1 x cs' (by rw [fresh_of hx]; rfl)
    rw [getD_set_ne false hne] at hl
    have hxj : x ≠ j := fun e => by subst e; rw [hj] at hx; cases hx
    have hap := h.apart x j cs' cs (by rw [fresh_of hx]; rfl) hfj hl hlj hxj
    rw [m5 _ hap]
    exact h.owns x v' cs' E hx hl
theorem Mem.congr {l : Array Bool} {γ γ' : Nat → Nat} {w : World} (h : Mem ks w₀ l γ w) (hL : LaidOk ks ks) (hs : ks.length ≤ 65536) (e : ∀ j, j < 65536 → γ' j = γ j) (e2 : ∀ j v cs E, ks[j]? = some (.ownX v cs E) → l.getD j false = true → γ' (j + 65536) = γ (j + 65536)) : Mem ks w₀ l γ' w := by
  have hlt : ∀ {i : Nat} {zs : List Value}, fresh ks i = some zs → γ' i = γ i := fun {i zs} hf => by
    unfold fresh at hf
    cases hk : ks[i]? with
    | none => rw [hk] at hf; cases hf
    | some k => exact e i (by have := (List.getElem?_eq_some_iff.1 hk).1; omega)
  refine ⟨h.below, ?_, ?_, ?_, h.order, ?_, h.tgt, fun i v cs t hj hl hs => by rw [hlt (i := i) (zs := cs) (by rw [fresh_of hj]; rfl)]; exact h.rows i v cs t hj hl hs, fun i v cs E hj hl => by rw [hlt (i := i) (zs := cs) (by rw [fresh_of hj]; rfl), e2 i v cs E hj hl]; exact h.owns i v cs E hj hl⟩
  · intro i zs hf hl
    rw [hlt hf]; exact h.made i zs hf hl
  · intro i zs hf hl hn
    rw [hlt hf]; exact h.raw i zs hf hl hn
  · intro s i zs cs hk hl
    obtain ⟨t, ht⟩ := hL.at hk
    rw [e i (by have := (List.getElem?_eq_some_iff.1 ht).1; omega)]
    exact h.full s i zs cs hk hl
  · intro i j zs zs' hi hj hli hlj hne
    rw [hlt hi, hlt hj]; exact h.apart i j zs zs' hi hj hli hlj hne
theorem none_listed (n i : Nat) : (Array.replicate n false).getD i false = false := by
  rcases Nat.lt_or_ge i n with h | h <;> simp [h]
end
/-! The rest, one by one. -/
section
variable {P : Program} {ops : Array Oper} {Q : Exit → Act → World → Prop} {a : Act} {w : World}
theorem rest_nil (h : Q .normal a w) : wpOps P ops Q [] a w := h
theorem rest_value {i : Nat} {r : List Nat} {o : Oper} {v : Value} {w' : World} (ho : ops[i]? = some o) (hw : Region.wanted o (yielded ops a.tmps) = true) (hx : (execOp a.eval o).run P w = .ok (.value v) w') (h : wpOps P ops Q r (a.put o.dst v) w') : wpOps P ops Q (i :: r) a w := by
  rw [wpOps_cons]
  refine wpOp_step ho (fun K' hK => ?_)
  rw [if_pos hw]
  unfold Oper.wp
  rw [hx]
  exact hK _ _ h
theorem rest_gone {i : Nat} {r : List Nat} {o : Oper} (ho : ops[i]? = some o) (hw : Region.wanted o (yielded ops a.tmps) = false) (h : wpOps P ops Q r (a.put o.dst undef) w) : wpOps P ops Q (i :: r) a w := by
  rw [wpOps_cons]
  refine wpOp_step ho (fun K' hK => ?_)
  rw [if_neg (by rw [hw]; decide)]
  exact hK _ _ h
theorem rest_skip {i : Nat} {r : List Nat} {o : Oper} {w' : World} (ho : ops[i]? = some o) (hw : Region.wanted o (yielded ops a.tmps) = true) (hx : (execOp a.eval o).run P w = .ok .skip w') (h : wpOps P ops Q r (a.put o.dst undef) w') : wpOps P ops Q (i :: r) a w := by
  rw [wpOps_cons]
  refine wpOp_step ho (fun K' hK => ?_)
  rw [if_pos hw]
  unfold Oper.wp
  rw [hx]
  exact hK _ _ h
theorem rest_call {i : Nat} {r : List Nat} {o : Oper} {f : FuncId} {args : Array Value} {R : Value → World → Prop} (ho : ops[i]? = some o) (hw : Region.wanted o (yielded ops a.tmps) = true) (hx : (execOp a.eval o).run P w = .ok (.enter f args) w)
    (hc : Calls P f args w (fun e w' => ∃ v, e = .returned v ∧ R v w')) (h : ∀ v w', R v w' → wpOps P ops Q r (a.put o.dst v) w') : wpOps P ops Q (i :: r) a w := by
  rw [wpOps_cons]
  refine wpOp_step ho (fun K' hK => ?_)
  rw [if_pos hw]
  unfold Oper.wp
  rw [hx]
  refine Calls.mono hc ?_
  rintro e w' ⟨v, rfl, hr⟩
  exact hK _ _ (h v w' hr)
end
end Rg
end Go.Proofs.YtjadelfdhhjkdaaGreatDoor
end
section
namespace Go.Proofs.YtjadelfdhhjkdaaGreatDoor
open Go.RowKit
namespace Rg
/-- The blocks of the list are there, apart from each other, and hold these cells. -/
structure Mm (w : World) (l : List (Nat × List Value)) : Prop where
  blk : ∀ p ∈ l, p.1 < w.heap.size ∧ Blk w p.1 p.2
  nd : l.Pairwise (fun a b => a.1 ≠ b.1)
theorem Mm.nil (w : World) : Mm w [] := ⟨fun p h => absurd h (by simp), List.Pairwise.nil⟩
theorem Mm.below {w w1 : World} {l : List (Nat × List Value)} (h : Mm w l) (hb : Below w.heap.size w w1) : Mm w1 l :=
  ⟨fun p hp => ⟨Nat.lt_of_lt_of_le (h.blk p hp).1 hb.size, (h.blk p hp).2.below hb (h.blk p hp).1⟩, h.nd⟩
theorem Mm.cons {w : World} {l : List (Nat × List Value)} (h : Mm w l) {g : Nat} {cs : List Value} (hb : Blk w g cs) (hg : g < w.heap.size) (hn : ∀ p ∈ l, p.1 ≠ g) : Mm w ((g, cs) :: l) :=
  ⟨fun p hp => by
    rcases List.mem_cons.1 hp with e | hp
    · subst e; exact ⟨hg, hb⟩
    · exact h.blk p hp, List.Pairwise.cons (fun p hp => (hn p hp).symm) h.nd⟩
theorem Mm.alloc {w : World} {l : List (Nat × List Value)} (h : Mm w l) (cs : List Value) (t : TypeId) {g : Nat} (hg : g = w.heap.size) : Mm (w.alloc (.cells cs.toArray t)) ((g, cs) :: l) := by
  subst hg
  exact (h.below ((Below.refl _ _).alloc (Nat.le_refl _) _)).cons (Blk.new w cs t) (by simp) (fun p hp => by have := (h.blk p hp).1; omega)
theorem Mm.cell {w : World} {l : List (Nat × List Value)} (h : Mm w l) {g : Nat} {cs : List Value} (hm : (g, cs) ∈ l) {k : Nat} {v : Value} (hk : cs[k]? = some v) : w.cell? ⟨g, k, none⟩ = some v := ((h.blk _ hm).2 k v hk).1
theorem Mm.free {w : World} {l : List (Nat × List Value)} (h : Mm w l) {g : Nat} {cs : List Value} (hm : (g, cs) ∈ l) {k : Nat} {v : Value} (hk : cs[k]? = some v) : w.frozen? ⟨g, k, none⟩ = false := ((h.blk _ hm).2 k v hk).2
theorem Mm.lt {w : World} {l : List (Nat × List Value)} (h : Mm w l) {g : Nat} {cs : List Value} (hm : (g, cs) ∈ l) : g < w.heap.size := (h.blk _ hm).1
/-! What a region leaves. -/
def laidOn (i : Nat) : List Kind → Option (List Value)
  | [] => none
  | (Sum.inr (Sum.inr (Sum.inr (Sum.inr (Sum.inl (j, _, cs)))))) :: r => if j = i then some cs else laidOn i r
  | _ :: r => laidOn i r
def fin (ks : List Kind) (i : Nat) : List Value := match laidOn i ks with | some cs => cs | none => (fresh ks i).getD []
theorem laidOn_some {i : Nat} {cs : List Value} : ∀ {ks : List Kind}, laidOn i ks = some cs → ∃ (s : Nat) (zs : List Value), ks[s]? = some (.laid i zs cs)
  | [], h => by cases h
  | k :: r, h => by
    cases k using Kind.each with
    | laid j zs cs' =>
      unfold laidOn at h
      split at h
      · rename_i e
        injection h with h
        subst h e
        exact ⟨0, zs, rfl⟩
      · obtain ⟨s, z, hs⟩ := laidOn_some h
        exact ⟨s + 1, z, hs⟩
    | _ =>
      obtain ⟨s, z, hs⟩ := laidOn_some (ks := r) h
      exact ⟨s + 1, z, hs⟩
theorem laidOn_none {i : Nat} : ∀ {ks : List Kind}, laidOn i ks = none → ∀ (s : Nat) (zs cs : List Value), ks[s]? ≠ some (.laid i zs cs)
  | [], _ => fun _ _ _ h => by simp at h
  | k :: r, h => by
    intro s zs cs hs
    have hr : laidOn i r = none := by
      cases k using Kind.each with
      | laid j z c => unfold laidOn at h; split at h <;> first | cases h | exact h
      | _ => exact h
    cases s with
    | zero =>
      simp at hs
      subst hs
      unfold laidOn at h
      rw [if_pos rfl] at h
      cases h
    | succ s => exact laidOn_none hr s zs cs (by simpa using hs)
theorem Mem.fin {ks : List Kind} {w₀ w : World} {l : Array Bool} {γ : Nat → Nat} (h : Mem ks w₀ l γ w) {p : Nat} (hp : ks.length ≤ p) (hl : ∀ i, i < p → l.getD i false = true) {i : Nat} (hi : (fresh ks i).isSome = true) :
    Blk w (γ i) (fin ks i) ∧ w₀.heap.size ≤ γ i ∧ γ i < w.heap.size := by
  obtain ⟨zs, hz⟩ := Option.isSome_iff_exists.1 hi
  have hlt : ∀ (s : Nat) (k : Kind), ks[s]? = some k → l.getD s false = true := fun s k hs => hl s (by have := (List.getElem?_eq_some_iff.1 hs).1; omega)
  have hil : l.getD i false = true := by
    unfold fresh at hz
    cases hk : ks[i]? with
    | none => rw [hk] at hz; cases hz
    | some k => exact hlt i k hk
  refine ⟨?_, h.made i zs hz hil⟩
  unfold Rg.fin
  cases hL : laidOn i ks with
  | some cs =>
    obtain ⟨s, z, hs⟩ := laidOn_some hL
    exact (h.full s i z cs hs (hlt s _ hs)).1
  | none =>
    rw [hz]
    exact h.raw i zs hz hil (fun s z c hs => absurd hs (laidOn_none hL s z c))
/-- The blocks that a region made, beside those that were there. -/
theorem Mm.grow {ks : List Kind} {w₀ w : World} {l : Array Bool} {γ : Nat → Nat} {L : List (Nat × List Value)} (hm : Mm w₀ L) (h : Mem ks w₀ l γ w) {p : Nat} (hp : ks.length ≤ p) (hl : ∀ i, i < p → l.getD i false = true) :
    ∀ (is : List Nat), (is.all fun i => (fresh ks i).isSome) = true → is.Pairwise (· ≠ ·) → Mm w (is.map (fun i => (γ i, fin ks i)) ++ L)
  | [], _, _ => hm.below h.below
  | i :: is, ha, hn => by
    simp only [List.all_cons, Bool.and_eq_true] at ha
    have ih := Mm.grow hm h hp hl is ha.2 (List.Pairwise.of_cons hn)
    obtain ⟨h1, h2, h3⟩ := h.fin hp hl ha.1
    refine ih.cons h1 h3 (fun q hq => ?_)
    rcases List.mem_append.1 hq with hq | hq
    · obtain ⟨j, hj, e⟩ := List.mem_map.1 hq
      subst e
      have hjs := List.all_eq_true.1 ha.2 j hj
      obtain ⟨zi, hzi⟩ := Option.isSome_iff_exists.1 ha.1
      obtain ⟨zj, hzj⟩ := Option.isSome_iff_exists.1 hjs
      have hlist : ∀ {x : Nat} {z : List Value}, fresh ks x = some z → l.getD x false = true := fun {x z} hx => by
        unfold fresh at hx
        cases hk : ks[x]? with
        | none => rw [hk] at hx; cases hx
        | some k => exact hl x (by have := (List.getElem?_eq_some_iff.1 hk).1; omega)
      exact h.apart j i zj zi hzj hzi (hlist hzj) (hlist hzi) (fun e => (List.rel_of_pairwise_cons hn hj) e.symm)
    · have := (hm.blk q hq).1
      omega
/-- A store into a block of the list. -/
def patch (cs : List Value) (off : Nat) (vs : List Value) : List Value := cs.take off ++ vs ++ cs.drop (off + vs.length)
theorem patch_get (cs : List Value) (off : Nat) (vs : List Value) (h : off + vs.length ≤ cs.length) (k : Nat) : (patch cs off vs)[k]? = if off ≤ k ∧ k < off + vs.length then vs[k - off]? else cs[k]? := by
  unfold patch
  by_cases h1 : k < off
  · rw [if_neg (by omega), List.append_assoc, List.getElem?_append_left (by simp; omega), List.getElem?_take, if_pos h1]
  · by_cases h2 : k < off + vs.length
    · rw [if_pos ⟨by omega, h2⟩, List.append_assoc, List.getElem?_append_right (by simp; omega), List.getElem?_append_left (by simp; omega)]
      congr 1
      simp; omega
    · rw [if_neg (by omega), List.getElem?_append_right (by simp; omega), List.getElem?_drop]
      congr 1
      simp; omega
theorem Blk.patch {w : World} {g : Nat} {cs : List Value} (h : Blk w g cs) (off : Nat) (vs : List Value) (hl : off + vs.length ≤ cs.length) : Blk (w.setCells g off vs) g (patch cs off vs) := fun j v hv => by
  rw [patch_get _ _ _ hl] at hv
  split at hv
  · rename_i hj
    have hz : cs[j]? = some (cs[j]'(by omega)) := List.getElem?_eq_getElem _
    refine ⟨?_, by rw [World.frozen?_setCells]; exact (h j _ hz).2⟩
    have := World.cell?_setCells_in g vs off w (fun i hi => by
      have := (h (off + i) _ (List.getElem?_eq_getElem (show off + i < cs.length by omega))).1
      rw [this]; rfl) (j - off) (by omega)
    rw [show off + (j - off) = j by omega] at this
    rw [this]
    obtain ⟨h1, h2⟩ := List.getElem?_eq_some_iff.1 hv
    rw [← h2]
  · rename_i hj
    exact ⟨by rw [World.cell?_setCells_out g vs off w _ (fun _ => by simp; omega)]; exact (h j v hv).1, by rw [World.frozen?_setCells]; exact (h j v hv).2⟩
theorem Blk.apart {w : World} {g g' off : Nat} {cs vs : List Value} (h : Blk w g cs) (hg : g ≠ g') : Blk (w.setCells g' off vs) g cs := fun j v hv =>
  ⟨by rw [World.cell?_setCells_out g' vs off w _ (fun e => absurd e hg)]; exact (h j v hv).1, by rw [World.frozen?_setCells]; exact (h j v hv).2⟩
theorem Mm.put {w : World} {l : List (Nat × List Value)} (h : Mm w l) (k : Nat) {g off : Nat} {cs vs : List Value} (hk : l[k]? = some (g, cs)) (hl : off + vs.length ≤ cs.length) : Mm (w.setCells g off vs) (l.set k (g, patch cs off vs)) := by
  have hkl : k < l.length := (List.getElem?_eq_some_iff.1 hk).1
  have hke : l[k] = (g, cs) := (List.getElem?_eq_some_iff.1 hk).2
  have hpw := List.pairwise_iff_getElem.1 h.nd
  refine ⟨fun p hp => ?_, ?_⟩
  · rw [size_setCells]
    obtain ⟨j, hj, e⟩ := List.getElem_of_mem hp
    rw [List.getElem_set] at e
    have hj' : j < l.length := by simpa using hj
    split at e
    · subst e
      have := h.blk _ (List.mem_of_getElem? hk)
      exact ⟨this.1, Blk.patch this.2 off vs hl⟩
    · rename_i hne
      subst e
      have := h.blk _ (List.getElem_mem hj')
      refine ⟨this.1, Blk.apart this.2 ?_⟩
      rcases Nat.lt_or_ge j k with h' | h'
      · have := hpw j k hj' hkl h'
        rw [hke] at this
        exact this
      · have := hpw k j hkl hj' (by omega)
        rw [hke] at this
        exact this.symm
  · refine List.pairwise_iff_getElem.2 fun i j hi hj hij => ?_
    have hi' : i < l.length := by simpa using hi
    have hj' : j < l.length := by simpa using hj
    have := hpw i j hi' hj' hij
    rw [List.getElem_set, List.getElem_set]
    split
    · rename_i e1
      subst e1
      rw [if_neg (by omega)]
      rw [hke] at this
      exact this
    · split
      · rename_i e2
        subst e2
        rw [hke] at this
        exact this
      · exact this
end Rg
end Go.Proofs.YtjadelfdhhjkdaaGreatDoor
end
section
namespace Go.Proofs.YtjadelfdhhjkdaaGreatDoor
open Go.RowKit
namespace Rg
theorem exec_call {P : Program} {ρ : Operand → Value} {o : Oper} {f : FuncId} {xs : Array Operand} {ts : Array TypeId} {args : Array Value} {w : World} (ho : o.op = .call { callee := .value (.func f), args := xs, argTypes := ts }) (hc : ∀ args w, (callFunc f args).run P w = .ok (.enter f args) w) (hf : ρ (.func f) = .func (.func f) #[] #[]) (hx : xs.map ρ = args) :
    (execOp ρ o).run P w = .ok (.enter f args) w := by
  subst hx
  simp only [execOp, ho, resolve, hf]
  simp [go_sem, Deferred.ofValue, invoke, hc]
abbrev PT (g off : Nat) : Value := .pointer (some ⟨g, off, none⟩)
theorem Mm.one {w : World} {l : List (Nat × List Value)} (h : Mm w l) (k : Nat) {p : Nat × List Value} (hk : l[k]? = some p) : Mm w [p] :=
  ⟨fun q hq => by rw [List.mem_singleton.1 hq]; exact h.blk p (List.mem_of_getElem? hk), List.pairwise_singleton _ _⟩
/-! The laws of regions, as a walk uses them. -/
section
variable {P : Program} {Q : Exit → Act → World → Prop} {full : Array Oper} {a : Act} {w : World}
theorem AllOk.cons {ops : Array Oper} {S : World → Prop} {F : (Nat → Nat) → Act} {o : Oper} {os : List Oper} {k : Kind} {ks : List Kind} (h : KindOk P ops S F o k) (hs : AllOk P ops S F os ks) : AllOk P ops S F (o :: os) (k :: ks) := ⟨h, hs⟩
theorem then_normal {K : Act → World → Prop} (h : K a w) : Exit.then K Q .normal a w := h
theorem then_ret {K : Act → World → Prop} (h : Q .ret a w) : Exit.then K Q .ret a w := h
theorem then_exit {K : Act → World → Prop} {id : Nat} (h : Q (.exit id) a w) : Exit.then K Q (.exit id) a w := h
theorem block_ret {id : Nat} (h : Q .ret a w) : Exit.inBlock id Q .ret a w := h
theorem rest_set {i d : Nat} {r : List Nat} {o : Oper} {v : Value} {w' : World} (ho : full[i]? = some o) (hd : o.dst = some d) (hw : Region.wanted o (yielded full a.tmps) = true) (hx : (execOp a.eval o).run P w = .ok (.value v) w') (h : wpOps P full Q r (a.put (some d) v) w') : wpOps P full Q (i :: r) a w :=
  rest_value ho hw hx (by rw [hd]; exact h)
theorem rest_store {i : Nat} {r : List Nat} {o : Oper} {w' : World} (ho : full[i]? = some o) (hd : o.dst = none) (hw : Region.wanted o (yielded full a.tmps) = true) (hx : (execOp a.eval o).run P w = .ok .skip w') (h : wpOps P full Q r a w') : wpOps P full Q (i :: r) a w :=
  rest_skip ho hw hx (by rw [hd]; exact h)
theorem rest_enter {i d : Nat} {r : List Nat} {o : Oper} {f : FuncId} {args : Array Value} {R : Value → World → Prop} (ho : full[i]? = some o) (hd : o.dst = some d) (hw : Region.wanted o (yielded full a.tmps) = true) (hx : (execOp a.eval o).run P w = .ok (.enter f args) w)
    (hc : Calls P f args w (fun e w' => ∃ v, e = .returned v ∧ R v w')) (h : ∀ v w', R v w' → wpOps P full Q r (a.put (some d) v) w') : wpOps P full Q (i :: r) a w :=
  rest_call ho hw hx hc (fun v w' hr => by rw [hd]; exact h v w' hr)
theorem block_exit {id : Nat} (h : Q .normal a w) : Exit.inBlock id Q (.exit id) a w := by simp only [Exit.inBlock, if_true]; exact h
theorem block_normal {id : Nat} (h : Q .normal a w) : Exit.inBlock id Q .normal a w := h
end
/-! Shorter words for what stands behind each region. -/
theorem sa {l : List Value} {i : Nat} {x : Value} : l.toArray.setIfInBounds i x = (l.set i x).toArray := List.setIfInBounds_toArray ..
theorem sz {l : List Value} {x y : Value} : (x :: l).set 0 y = y :: l := rfl
theorem ss {l : List Value} {n : Nat} {x y : Value} : (x :: l).set (n + 1) y = x :: l.set n y := rfl
theorem mpn {ρ : Operand → Value} {xs : List Operand} {vs : List Value} (h : xs.map ρ = vs) : xs.toArray.map ρ = vs.toArray := by rw [List.map_toArray, h]
end Rg
end Go.Proofs.YtjadelfdhhjkdaaGreatDoor
end
section
namespace Go.Proofs.YtjadelfdhhjkdaaGreatDoor
open Go.RowKit
namespace Rg
section
variable {P : Program} {ops : Array Oper} {ks : List Kind} {a₀ : Act} {w₀ : World} {Q : Exit → Act → World → Prop}
/-- An operation that the store need not wait for: it tells its value in whatever world. -/
def LateOk (P : Program) (ops : Array Oper) (ks : List Kind) (F : (Nat → Nat) → Act) : List Nat → Prop
  | [] => True
  | i :: r => (∃ o v, ops[i]? = some o ∧ ks[i]? = some (.quiet v) ∧ ∀ γ, Region.wanted o (yielded ops (F γ).tmps) = true ∧ ∀ w, (execOp (F γ).eval o).run P w = .ok (.value v) w) ∧ LateOk P ops ks F r
theorem LateOk.at {F : (Nat → Nat) → Act} : ∀ {late : List Nat}, LateOk P ops ks F late → ∀ {i : Nat}, i ∈ late → ∃ o v, ops[i]? = some o ∧ ks[i]? = some (.quiet v) ∧ ∀ γ, Region.wanted o (yielded ops (F γ).tmps) = true ∧ ∀ w, (execOp (F γ).eval o).run P w = .ok (.value v) w
  | [], _, _, h => by cases h
  | j :: r, hl, i, h => by
    rcases List.mem_cons.1 h with e | h
    · subst e; exact hl.1
    · exact hl.2.at h
/-- The operations that have come up: with each, all that it waits for. -/
def Closed (full : Array Oper) (l : Array Bool) : Prop := ∀ (i : Nat) (o : Oper), full[i]? = some o → l.getD i false = true → ∀ e ∈ o.after, Region.binds .any e = true → l.getD e.on false = true
theorem Closed.none (full : Array Oper) (n : Nat) : Closed full (Array.replicate n false) := fun i o _ h => by rw [none_listed] at h; cases h
theorem Closed.step {full : Array Oper} {l : Array Bool} (h : Closed full l) {i : Nat} {o : Oper} (ho : full[i]? = some o) (hedge : ∀ e ∈ o.after, Region.binds .any e = true → l.getD e.on false = true) : Closed full (l.setIfInBounds i true) := fun j oj hj hl e he hb => by
  by_cases hij : i = j
  · subst hij
    rw [ho] at hj
    injection hj with hj
    subst hj
    exact getD_true (hedge e he hb)
  · rw [getD_set_ne false hij] at hl
    exact getD_true (h j oj hj hl e he hb)
/-- Who waits for operation j, by others or not. -/
def waitsT (full : Array Oper) : Nat → Oper → Nat → Bool
  | 0, o, j => waits o j
  | f + 1, o, j => waits o j || o.after.any fun e => Region.binds .any e && (match full[e.on]? with | some o' => waitsT full f o' j | none => false)
end
end Rg
end Go.Proofs.YtjadelfdhhjkdaaGreatDoor
end
section
namespace Go.Proofs.YtjadelfdhhjkdaaGreatDoor
open Go.RowKit
namespace Rg
section
variable {P : Program} {ops : Array Oper} {ks : List Kind} {a₀ : Act} {w₀ : World} {Q : Exit → Act → World → Prop}
end
end Rg
end Go.Proofs.YtjadelfdhhjkdaaGreatDoor
end
section
namespace Go.Proofs.YtjadelfdhhjkdaaGreatDoor
open Go.RowKit
namespace Rg
section
variable {P : Program} {ops : Array Oper} {ks : List Kind} {a₀ : Act} {w₀ : World} {Q : Exit → Act → World → Prop}
end
end Rg
end Go.Proofs.YtjadelfdhhjkdaaGreatDoor
end
section
namespace Go.Proofs.YtjadelfdhhjkdaaGreatDoor
open Go.RowKit
namespace Rg
section
variable {P : Program} {full : Array Oper} {Q : Exit → Act → World → Prop} {S : World → Prop}
/-- Operations that come behind the chain's last one. -/
def behind (full : Array Oper) (free chain rm : List Nat) : Bool := rm.all fun j => !(free.contains j) && !(chain.contains j) && (match chain.getLast?, full[j]? with | some c, some o => waitsT full 12 o c | _, _ => false)
/-- A frame that lacks just what free operations have still to bring. -/
structure Ag (full : Array Oper) (free : List Nat) (l : Array Bool) (a b : Act) : Prop where
  defers : a.defers = b.defers
  size : a.tmps.size = b.tmps.size
  slots : ∀ d, (∀ i, i ∈ free → ∀ o, full[i]? = some o → o.dst = some d → l.getD i false = true) → a.tmps[d]? = b.tmps[d]?
theorem Ag.whole {free : List Nat} {l : Array Bool} {a b : Act} (h : Ag full free l a b) (hl : ∀ i, i < full.size → l.getD i false = true) : a = b := by
  obtain ⟨t, df⟩ := a
  obtain ⟨t', df'⟩ := b
  have h1 := h.defers
  have h2 : t = t' := by
    apply Array.ext_getElem?
    intro d
    exact h.slots d (fun i _ o ho _ => hl i (Array.getElem?_eq_some_iff.1 ho).1)
  simp only at h1 h2
  rw [h1, h2]
/-- The free operations, each with its slot and its value. -/
def FreeOk (P : Program) (full : Array Oper) (S : World → Prop) (b : Act) : List Nat → List (Nat × Value) → Prop
  | i :: r, (d, v) :: s => (∃ o, full[i]? = some o ∧ o.dst = some d ∧ b.tmps[d]? = some v ∧ ∀ w, S w → (execOp b.eval o).run P w = .ok (.value v) w) ∧ FreeOk P full S b r s
  | [], [] => True
  | _, _ => False
theorem FreeOk.at {b : Act} : ∀ {f : List Nat} {s : List (Nat × Value)}, FreeOk P full S b f s → ∀ {i : Nat}, i ∈ f → ∃ o d v, full[i]? = some o ∧ o.dst = some d ∧ (d, v) ∈ s ∧ b.tmps[d]? = some v ∧ ∀ w, S w → (execOp b.eval o).run P w = .ok (.value v) w
  | [], _, _, i, h => by cases h
  | j :: f, [], h, _, _ => by cases h
  | j :: f, (d, v) :: s, h, i, hi => by
    rcases List.mem_cons.1 hi with e | hi
    · subst e
      obtain ⟨o, h1, h2, h3, h4⟩ := h.1
      exact ⟨o, d, v, h1, h2, by simp, h3, h4⟩
    · obtain ⟨o, d', v', h1, h2, h3, h4, h5⟩ := h.2.at hi
      exact ⟨o, d', v', h1, h2, by simp [h3], h4, h5⟩
end
end Rg
end Go.Proofs.YtjadelfdhhjkdaaGreatDoor
end
section
namespace Go.Proofs.YtjadelfdhhjkdaaGreatDoor
open Go.RowKit
namespace Rg
/-- All that was there is as it was, but block g. -/
structure Kp (g : Nat) (w w' : World) : Prop where
  os : w'.os = w.os
  tape : w'.tape = w.tape
  output : w'.output = w.output
  size : w.heap.size ≤ w'.heap.size
  block : ∀ k, k < w.heap.size → k ≠ g → w'.heap[k]? = w.heap[k]?
theorem Kp.refl (g : Nat) (w : World) : Kp g w w := ⟨rfl, rfl, rfl, Nat.le_refl _, fun _ _ _ => rfl⟩
theorem Kp.trans {g : Nat} {a b c : World} (h : Kp g a b) (k : Below b.heap.size b c) : Kp g a c :=
  ⟨k.os.trans h.os, k.tape.trans h.tape, k.output.trans h.output, Nat.le_trans h.size k.size, fun i hi hg => (k.block i (Nat.lt_of_lt_of_le hi h.size)).trans (h.block i hi hg)⟩
theorem heap_setCells (g : Nat) (k : Nat) (hk : k ≠ g) : ∀ (vs : List Value) (o : Nat) (w : World), (w.setCells g o vs).heap[k]? = w.heap[k]?
  | [], _, _ => rfl
  | v :: r, o, w => by
    rw [World.setCells, heap_setCells g k hk r, Below.heap_setCell _ _ _ _ hk]
theorem Kp.put {g b off : Nat} {vs : List Value} {a w : World} (h : Kp g a w) (hb : b = g ∨ a.heap.size ≤ b) : Kp g a (w.setCells b off vs) := by
  have hB := below_setCells (B := 0) (w0 := w) b (Nat.zero_le _) vs off w (Below.refl _ _)
  refine ⟨hB.os.trans h.os, hB.tape.trans h.tape, hB.output.trans h.output, by rw [size_setCells]; exact h.size, fun k hk hg => ?_⟩
  rw [heap_setCells b k (by rcases hb with e | e <;> omega) vs off w]
  exact h.block k hk hg
theorem Below.kp {B g : Nat} {a w w' : World} (h : Below B a w) (k : Kp g w w') (hg : B ≤ g) (hB : B ≤ w.heap.size) : Below B a w' :=
  ⟨k.os.trans h.os, k.tape.trans h.tape, k.output.trans h.output, Nat.le_trans h.size k.size, fun i hi => (k.block i (Nat.lt_of_lt_of_le hi hB) (by omega)).trans (h.block i hi)⟩
theorem Blk.kp {g b : Nat} {cs : List Value} {w w' : World} (h : Blk w b cs) (k : Kp g w w') (hb : b < w.heap.size) (hg : b ≠ g) : Blk w' b cs := fun j v hv => by
  have e := k.block b hb hg
  exact ⟨by rw [World.cell?_of_block (w := w) (a := ⟨b, j, none⟩) e]; exact (h j v hv).1, by rw [World.frozen?_of_block (w := w) (a := ⟨b, j, none⟩) e]; exact (h j v hv).2⟩
theorem Mm.change {w w' : World} {l : List (Nat × List Value)} (h : Mm w l) (k : Nat) {g : Nat} {cs cs' : List Value} (hk : l[k]? = some (g, cs)) (hp : Kp g w w') (hn : Mm w' [(g, cs')]) : Mm w' (l.set k (g, cs')) := by
  have hkl : k < l.length := (List.getElem?_eq_some_iff.1 hk).1
  have hke : l[k] = (g, cs) := (List.getElem?_eq_some_iff.1 hk).2
  have hpw := List.pairwise_iff_getElem.1 h.nd
  refine ⟨fun p hp2 => ?_, ?_⟩
  · obtain ⟨j, hj, e⟩ := List.getElem_of_mem hp2
    rw [List.getElem_set] at e
    have hj' : j < l.length := by simpa using hj
    split at e
    · subst e
      exact hn.blk _ (List.mem_singleton.2 rfl)
    · rename_i hne
      subst e
      have hb := h.blk _ (List.getElem_mem hj')
      refine ⟨Nat.lt_of_lt_of_le hb.1 hp.size, Blk.kp hb.2 hp hb.1 ?_⟩
      rcases Nat.lt_or_ge j k with h' | h'
      · have := hpw j k hj' hkl h'
        rw [hke] at this
        exact this
      · have := hpw k j hkl hj' (by omega)
        rw [hke] at this
        exact this.symm
  · refine List.pairwise_iff_getElem.2 fun i j hi hj hij => ?_
    have hi' : i < l.length := by simpa using hi
    have hj' : j < l.length := by simpa using hj
    have := hpw i j hi' hj' hij
    rw [List.getElem_set, List.getElem_set]
    split
    · rename_i e1
      subst e1
      rw [if_neg (by omega)]
      rw [hke] at this
      exact this
    · split
      · rename_i e2
        subst e2
        rw [hke] at this
        exact this
      · exact this
end Rg
end Go.Proofs.YtjadelfdhhjkdaaGreatDoor
end
section
namespace Go.Proofs.YtjadelfdhhjkdaaGreatDoor
open Go.RowKit
namespace Rg
section
variable {P : Program} {ops : Array Oper} {ks : List Kind} {a₀ : Act} {w₀ : World} {Q : Exit → Act → World → Prop}
/-- An operation that the store need not wait for: it tells its value behind it. -/
def LateAt (P : Program) (ops : Array Oper) (ks : List Kind) (a : Act) (w : World) : List Nat → Prop
  | [] => True
  | i :: r => (∃ o v, ops[i]? = some o ∧ ks[i]? = some (.quiet v) ∧ Region.wanted o (yielded ops a.tmps) = true ∧ (execOp a.eval o).run P w = .ok (.value v) w) ∧ LateAt P ops ks a w r
theorem LateAt.at {a : Act} {w : World} : ∀ {late : List Nat}, LateAt P ops ks a w late → ∀ {i : Nat}, i ∈ late → ∃ o v, ops[i]? = some o ∧ ks[i]? = some (.quiet v) ∧ Region.wanted o (yielded ops a.tmps) = true ∧ (execOp a.eval o).run P w = .ok (.value v) w
  | [], _, _, h => by cases h
  | j :: r, hl, i, h => by
    rcases List.mem_cons.1 h with e | h
    · subst e; exact hl.1
    · exact hl.2.at h
end
end Rg
end Go.Proofs.YtjadelfdhhjkdaaGreatDoor
end
section
namespace Go.Proofs.YtjadelfdhhjkdaaGreatDoor
open Go.RowKit
namespace Rg
section
variable {P : Program} {ops : Array Oper} {a₀ : Act} {Q : Exit → Act → World → Prop}
/-- Others than the first one do not hang on what it will answer. -/
theorem Agree.other {n : Nat} {v v' : Value} {qs : List Kind} (hO : Orderly ops (.call v :: qs) n) (hO' : Orderly ops (.call v' :: qs) n) (hn : n = a₀.tmps.size) {l : Array Bool} {γ : Nat → Nat} {a : Act} (h : Agree ops (.call v :: qs) a₀ l γ a) (h0 : l.getD 0 false = false) : Agree ops (.call v' :: qs) a₀ l γ a := by
  refine ⟨h.defers, h.size, fun d hd => ?_⟩
  rw [h.slots d hd]
  by_cases hw : ∃ (j : Nat) (oj : Oper), ops[j]? = some oj ∧ oj.dst = some d
  · obtain ⟨j, oj, hj, hdj⟩ := hw
    have hl := hd j oj hj hdj
    cases j with
    | zero => rw [h0] at hl; cases hl
    | succ j =>
      obtain ⟨kj, hkj⟩ := kind_at hO hj
      have hkj' : (Kind.call v' :: qs)[j + 1]? = some kj := by simpa using hkj
      rw [fill_one hO hn γ hj hkj hdj, fill_one hO' hn γ hj hkj' hdj]
  · have hno : ∀ o' ∈ ops.toList, o'.dst ≠ some d := fun o' ho' hd' => by
      obtain ⟨j, hj, ej⟩ := List.getElem_of_mem ho'
      exact hw ⟨j, o', by rw [← Array.getElem?_toList, List.getElem?_eq_getElem hj, ej], hd'⟩
    rw [fill_other γ d 0 _ _ _ hno, fill_other γ d 0 _ _ _ hno]
end
end Rg
end Go.Proofs.YtjadelfdhhjkdaaGreatDoor
end
section
namespace Go.Proofs.YtjadelfdhhjkdaaGreatDoor
open Go.RowKit
namespace Rg
namespace Wi
abbrev U (n : Nat) : Value := .int .u64 (n : Int)
abbrev Z8 (n : Nat) : Value := .int .u8 (n : Int)
theorem ex_loadT {ρ : Operand → Value} {o : Oper} {x : Operand} {g off n : Nat} {t : TypeId} {cs ms : List Value} {w : World} {l : List (Nat × List Value)} (h : Mm w l) (q : Nat) (hk : l[q]? = some (g, cs)) (ho : o.op = .load t x) (hx : ρ x = PT g off) (ha : ∀ w, (isAgg t).run Tryz.prog w = .ok true w) (hs : ∀ w, (sizeOf t).run Tryz.prog w = .ok n w) (hc : (cs.drop off).take n = ms) (hl : ms.length = n) :
    (execOp ρ o).run Tryz.prog w = .ok (.value (.agg ms.toArray)) w := by
  have hm := List.mem_of_getElem? hk
  have hcell := run_loadCells_list (P := Tryz.prog) (w := w) ⟨g, off, none⟩ ms (fun j v hv => by
    have e : cs[off + j]? = some v := by
      rw [← List.getElem?_drop]
      rw [← hc, List.getElem?_take] at hv
      split at hv
      · exact hv
      · cases hv
    have e2 := h.cell hm e
    rw [show (⟨g, off, none⟩ : Addr).add j = ⟨g, off + j, none⟩ from by unfold Addr.add; split <;> simp_all]
    exact e2)
  rw [hl] at hcell
  have hf : (loadCellsFrom ⟨g, off, none⟩ 0 n #[]).run Tryz.prog w = .ok ms.toArray w := hcell
  clear hcell hc hk hm h
  simp only [execOp, ho, hx]
  go_simp
theorem ex_loadC {ρ : Operand → Value} {o : Oper} {x : Operand} {g off : Nat} {t : TypeId} {v : Value} {cs : List Value} {w : World} {l : List (Nat × List Value)} (h : Mm w l) (k : Nat) (hk : l[k]? = some (g, cs)) (ho : o.op = .load t x) (hx : ρ x = PT g off) (ha : ∀ w, (isAgg t).run Tryz.prog w = .ok false w) (hc : cs[off]? = some v) :
    (execOp ρ o).run Tryz.prog w = .ok (.value v) w := by
  have c0 := h.cell (List.mem_of_getElem? hk) hc
  clear h hk hc
  simp only [execOp, ho, hx]
  go_simp
theorem ex_boxT {ρ : Operand → Value} {o : Oper} {x : Operand} {t : TypeId} {cs : List Value} {w : World} (ho : o.op = .box t x) (hx : ρ x = .agg cs.toArray) :
    (execOp ρ o).run Tryz.prog w = .ok (.value (.pointer (some ⟨w.heap.size, 0, none⟩))) (w.alloc (.cells cs.toArray t)) := by
  simp only [execOp, ho, hx]
  go_simp
theorem ex_storeT {ρ : Operand → Value} {o : Oper} {x y : Operand} {g off : Nat} {t : TypeId} {cs vs : List Value} {w : World} {l : List (Nat × List Value)} (h : Mm w l) (q : Nat) (hk : l[q]? = some (g, cs)) (ho : o.op = .store t x y) (hx : ρ x = PT g off) (hy : ρ y = .agg vs.toArray) (hs : ∀ w, (sizeOf t).run Tryz.prog w = .ok vs.length w) (h1 : vs.all Value.oneCell' = true) (hb : off + vs.length ≤ cs.length) :
    (execOp ρ o).run Tryz.prog w = .ok .skip (w.setCells g off vs) := by
  have hm := List.mem_of_getElem? hk
  have hq : ∀ j, j < vs.length → ∃ u, cs[off + j]? = some u := fun j hj => ⟨_, List.getElem?_eq_getElem (by omega)⟩
  have hst := run_storeCells_cells (P := Tryz.prog) g off vs 0 w (fun j hj => by
    obtain ⟨u, hu⟩ := hq j hj
    rw [show off + 0 + j = off + j by omega, h.cell hm hu]; rfl) (fun j hj => by
    obtain ⟨u, hu⟩ := hq j hj
    rw [show off + 0 + j = off + j by omega]; exact h.free hm hu) (List.all_eq_true.1 h1)
  clear h hm hq hb hk
  simp only [execOp, ho, hx, hy]
  go_simp
theorem var_T {g n : Nat} {t : TypeId} {cs : List Value} {w : World} {l : List (Nat × List Value)} (h : Mm w l) (q : Nat) (hk : l[q]? = some (g, cs)) (ha : ∀ w, (isAgg t).run Tryz.prog w = .ok true w) (hs : ∀ w, (sizeOf t).run Tryz.prog w = .ok n w) (hn : cs.length = n) : (loadVar t ⟨g, 0, none⟩).run Tryz.prog w = .ok (.agg cs.toArray) w := by
  have hm := List.mem_of_getElem? hk
  have hcell := run_loadCells_list (P := Tryz.prog) (w := w) ⟨g, 0, none⟩ cs (fun j v hv => by
    have e2 := h.cell hm hv
    rw [show (⟨g, 0, none⟩ : Addr).add j = ⟨g, j, none⟩ from by unfold Addr.add; split <;> simp_all]
    exact e2)
  rw [hn] at hcell
  have hf : (loadCellsFrom ⟨g, 0, none⟩ 0 n #[]).run Tryz.prog w = .ok cs.toArray w := hcell
  clear hcell h hk hm
  simp only [loadVar]
  go_simp
/-- Sums, products of bits, of numbers by 2^32. -/
def ad (a b : Nat) : Nat := (a + b) % 4294967296
def an (a b : Nat) : Nat := (a &&& b) % 4294967296
def ou (a b : Nat) : Nat := (a ||| b) % 4294967296
def xo (a b : Nat) : Nat := (a ^^^ b) % 4294967296
def nt (a : Nat) : Nat := xo 4294967295 a
def sl (a k : Nat) : Nat := a * 2 ^ k % 4294967296
def sr (a k : Nat) : Nat := a / 2 ^ k
def c32 (a : Nat) : Nat := a % 4294967296
def c64 (a : Nat) : Nat := a % 18446744073709551616
section
variable {ρ : Operand → Value} {o : Oper} {x y : Operand} {a b k : Nat} {w : World}
end
/-- A row of numbers of one kind. -/
def ints (ik : IntKind) (f : Nat → Nat) (n : Nat) : List Value := (List.range n).map fun j => .int ik (f j : Int)
theorem ints_len (ik : IntKind) (f : Nat → Nat) (n : Nat) : (ints ik f n).length = n := by simp [ints]
theorem ints_get (ik : IntKind) (f : Nat → Nat) {n j : Nat} (h : j < n) : (ints ik f n)[j]? = some (.int ik (f j : Int)) := by
  unfold ints
  rw [List.getElem?_map, List.getElem?_eq_getElem (by simpa using h), List.getElem_range]
  rfl
def up (f : Nat → Nat) (k v : Nat) : Nat → Nat := fun j => if j = k then v else f j
set_option maxRecDepth 100000
section
variable {ρ : Operand → Value} {o : Oper} {x y : Operand} {g off j n : Nat} {w : World}
end
structure Rs (gb o n : Nat) (f : Nat → Nat) (w : World) : Prop where
  lt : 0 < n → gb < w.heap.size
  at_ : ∀ i, i < n → w.cell? ⟨gb, o + i, none⟩ = some (Z8 (f i))
theorem Rs.below {gb o n : Nat} {f : Nat → Nat} {w w' : World} (h : Rs gb o n f w) (hb : Below w.heap.size w w') : Rs gb o n f w' :=
  ⟨fun hn => Nat.lt_of_lt_of_le (h.lt hn) hb.size, fun i hi => by rw [hb.cell (p := ⟨gb, o + i, none⟩) (h.lt (by omega))]; exact h.at_ i hi⟩
section
variable {ρ : Operand → Value} {o : Oper} {x y : Operand} {g off m c j k n : Nat} {f : Nat → Nat} {w : World}
end
section
variable {ρ : Operand → Value} {o : Oper} {x y : Operand} {a b : Nat} {w : World}
end
theorem Rs.add {g o n : Nat} {f : Nat → Nat} {w : World} (h : Rs g o n f w) (j : Nat) (hj : j < n) : w.cell? ((⟨g, o, none⟩ : Addr).add j) = some (Z8 (f j)) := by
  rw [show (⟨g, o, none⟩ : Addr).add j = ⟨g, o + j, none⟩ by unfold Addr.add; split <;> simp_all]
  exact h.at_ j hj
/-- A slice on its way: i of n bytes are taken. -/
def Bv (gb o n cp i : Nat) (v : Value) : Prop := (i < n → v = .slice (some ⟨gb, o + i, none⟩) (n - i) (cp - i)) ∧ (i = n → ∃ p c, v = .slice p 0 c)
section
variable {ρ : Operand → Value} {o : Oper} {x y : Operand} {g off m c j a : Nat} {w : World}
end
/-- A row, and another behind its first n. -/
def ct (P : Nat → Nat) (n : Nat) (Q : Nat → Nat) : Nat → Nat := fun j => if j < n then P j else Q (j - n)
/-- A slice of the call's own, n bytes long, beside blocks l. -/
structure Zo (w : World) (B : Nat) (l : List (Nat × List Value)) (vv : Value) (n : Nat) (P : Nat → Nat) (w' : World) : Prop where
  b : Below w.heap.size w w'
  lo : w.heap.size ≤ B
  hi : B ≤ w'.heap.size
  m : Mm w' l
  lt : ∀ p ∈ l, p.1 < B
  own : w'.ownsRow B 5 1 vv n (ints .u8 P n)
section
variable {w w1 w2 : World} {B n : Nat} {l : List (Nat × List Value)} {vv : Value} {P P' : Nat → Nat}
theorem Zo.size (h : Zo w B l vv n P w1) : w.heap.size ≤ w1.heap.size := h.b.size
theorem Zo.step (h : Zo w B l vv n P w1) (hb : Below w1.heap.size w1 w2) : Zo w B l vv n P w2 := by
  refine ⟨h.b.trans (hb.mono h.b.size), h.lo, Nat.le_trans h.hi hb.size, h.m.below hb, h.lt, h.own.1, ?_⟩
  rcases h.own.2 with ⟨h1, h2⟩ | ⟨g, cap, cur, h1, h2, h3, h4⟩
  · exact .inl ⟨h1, h2⟩
  · refine .inr ⟨g, cap, cur, h1, h2, ?_, h4⟩
    rw [hb.block g (Array.getElem?_eq_some_iff.1 h3).1]
    exact h3
theorem Zo.nil (P : Nat → Nat) (w : World) : Zo w w.heap.size [] (.slice none 0 0) 0 P w := ⟨Below.refl _ _, Nat.le_refl _, Nat.le_refl _, Mm.nil w, fun p hp => (by cases hp), World.ownsRow_nil _ _ _ _⟩
theorem Zo.rs {g cap : Nat} (h : Zo w B l (.slice (some ⟨g, 0, none⟩) n cap) n P w1) : Rs g 0 n P w1 := by
  have hc := World.ownsRow.cells h.own (g := g) rfl
  refine ⟨fun _ => (World.ownsRow.lt h.own g rfl).2, fun i hi => ?_⟩
  have := hc i _ (ints_get .u8 P hi)
  rw [show (⟨g, 0, none⟩ : Addr).add i = ⟨g, 0 + i, none⟩ by unfold Addr.add; split <;> simp_all] at this
  exact this
end
section
variable {ρ : Operand → Value} {o : Oper} {x y : Operand} {a : Nat} {w w2 : World} {vv sv v' : Value}
end
set_option maxRecDepth 100000
/-- Bytes that can be read: n of them, from o on, in block g. -/
structure Rd (g o n : Nat) (f : Nat → Nat) (w : World) : Prop where
  lt : g < w.heap.size
  at_ : ∀ i, i < n → w.cell? ⟨g, o + i, none⟩ = some (.int .u8 ((f i : Nat) : Int))
theorem Rd.below {g o n : Nat} {f : Nat → Nat} {w w' : World} (h : Rd g o n f w) (hb : Below w.heap.size w w') : Rd g o n f w' :=
  ⟨Nat.lt_of_lt_of_le h.lt hb.size, fun i hi => by rw [hb.cell (p := ⟨g, o + i, none⟩) h.lt]; exact h.at_ i hi⟩
/-- v is a slice whose bytes are xs, with room for c. -/
structure BSl (w : World) (xs : List Int) (c : Nat) (v : Value) : Prop where
  or : (∃ g o, v = .slice (some ⟨g, o, none⟩) xs.length c ∧ g < w.heap.size ∧ xs.length ≤ c ∧ ∀ i, i < xs.length → w.cell? ⟨g, o + i, none⟩ = some (.int .u8 (xs.getD i 0))) ∨ ∃ p, v = .slice p 0 c ∧ xs = []
theorem BSl.full {w : World} {xs : List Int} {c : Nat} (g o : Nat) (hg : g < w.heap.size) (hc : xs.length ≤ c) (h : ∀ i, i < xs.length → w.cell? ⟨g, o + i, none⟩ = some (.int .u8 (xs.getD i 0))) : BSl w xs c (.slice (some ⟨g, o, none⟩) xs.length c) := ⟨.inl ⟨g, o, rfl, hg, hc, h⟩⟩
theorem BSl.void {w : World} {xs : List Int} {c : Nat} (p : Option Addr) (hx : xs = []) : BSl w xs c (.slice p 0 c) := ⟨.inr ⟨p, rfl, hx⟩⟩
theorem BSl.each {w : World} {xs : List Int} {c : Nat} {M : (v : Value) → BSl w xs c v → Prop} (full : ∀ (g o : Nat) (hg : g < w.heap.size) (hc : xs.length ≤ c) (h : ∀ i, i < xs.length → w.cell? ⟨g, o + i, none⟩ = some (.int .u8 (xs.getD i 0))), M (.slice (some ⟨g, o, none⟩) xs.length c) (BSl.full g o hg hc h)) (void : ∀ (p : Option Addr) (hx : xs = []), M (.slice p 0 c) (BSl.void p hx)) {v : Value} (h : BSl w xs c v) : M v h := by
  rcases h with ⟨⟨g, o, rfl, hg, hc, h⟩ | ⟨p, rfl, hx⟩⟩
  · exact full g o hg hc h
  · exact void p hx
theorem BSl.below {w w' : World} {xs : List Int} {c : Nat} {v : Value} (h : BSl w xs c v) (hb : Below w.heap.size w w') : BSl w' xs c v := by
  cases h using BSl.each with
  | full g o hg hc h => exact .full g o (Nat.lt_of_lt_of_le hg hb.size) hc (fun i hi => by rw [hb.cell (p := ⟨g, o + i, none⟩) hg]; exact h i hi)
  | void p hx => exact .void p hx
theorem BSl.alloc {w : World} {xs : List Int} {c : Nat} {v : Value} (h : BSl w xs c v) (o : Obj) : BSl (w.alloc o) xs c v := h.below ((Below.refl _ _).alloc (Nat.le_refl _) _)
theorem BSl.text {w : World} {xs : List Int} {c : Nat} {v : Value} (h : BSl w xs c v) : (convert 63 9 v).run Tryz.prog w = .ok (.string (strOfNums xs)) w := by
  cases h using BSl.each with
  | full g o hg hc h => exact run_convert_bytes_arg (P := Tryz.prog) w 63 5 (by kernel_rfl) (by kernel_rfl) g o xs.length c xs rfl h 9 (by kernel_rfl)
  | void p hx =>
    subst hx
    cases p with
    | none => exact run_convert_bytes_nil (P := Tryz.prog) w 63 5 (by kernel_rfl) (by kernel_rfl) 0 c 9 (by kernel_rfl)
    | some a =>
      have hl : (loadCells a 0).run Tryz.prog w = .ok (([] : List Int).map (Value.int .u8)).toArray w := by simpa using run_loadCells_list (P := Tryz.prog) w a [] (by simp)
      rw [run_convert_bytes_string w 63 9 5 _ 0 c (by kernel_rfl) (by kernel_rfl) (by kernel_rfl), run_bytesToString w _ 0 c [] hl, foldl_push_bytes]
      rfl
def Row8 (w : World) (g n : Nat) (f : Nat → Int) : Prop := ∀ j, j < n → w.cell? ⟨g, j, none⟩ = some (.int .u8 (f j)) ∧ w.frozen? ⟨g, j, none⟩ = false
theorem Row8.below {wr w1 : World} {g n : Nat} {f : Nat → Int} (h : Row8 wr g n f) {B : Nat} (hb : Below B wr w1) (hg : g < B) : Row8 w1 g n f :=
  fun j hj => ⟨by rw [hb.cell (p := ⟨g, j, none⟩) hg]; exact (h j hj).1, by rw [hb.frozen (p := ⟨g, j, none⟩) hg]; exact (h j hj).2⟩
theorem Row8.alloc {wr : World} {g n : Nat} {f : Nat → Int} (h : Row8 wr g n f) (hg : g < wr.heap.size) (o : Obj) : Row8 (wr.alloc o) g n f :=
  h.below ((Below.refl _ _).alloc (Nat.le_refl _) o) hg
theorem BSl.row {w : World} {g n : Nat} {f : Nat → Int} (hg : g < w.heap.size) (hr : ∀ j, j < n → w.cell? ⟨g, j, none⟩ = some (.int .u8 (f j))) (c : Nat) (hc : n ≤ c) : BSl w ((List.range n).map f) c (.slice (some ⟨g, 0, none⟩) n c) := by
  have h : BSl w ((List.range n).map f) c (.slice (some ⟨g, 0, none⟩) ((List.range n).map f).length c) := .full g 0 hg (by simpa using hc) (fun i hi => by
    have hi' : i < n := by simpa using hi
    rw [Nat.zero_add, hr i hi']
    simp [hi'])
  simpa using h
section
variable {ρ : Operand → Value} {o : Oper} {x y : Operand} {a b k : Nat} {w : World}
end
/-- A hash, cell by cell. -/
def hs (m : Bool) (s r : Nat → Nat) (c : Nat) : List Value := .bool m :: (ints .u32 s 8 ++ (ints .u8 r 64 ++ [U c]))
set_option maxRecDepth 100000
/-- Eight numbers, as a row. -/
def ei (a b c d e f g h : Nat) (j : Nat) : Nat := [a, b, c, d, e, f, g, h].getD j 0
section
variable {ρ : Operand → Value} {o : Oper} {x y : Operand} {g off j n : Nat} {w : World}
end
/-- A number turned to the right. -/
def ro (x k : Nat) : Nat := ou (sl x (32 - k)) (sr x k)
def sA (x : Nat) : Nat := xo (xo (ro x 7) (ro x 18)) (sr x 3)
def sB' (x : Nat) : Nat := xo (xo (ro x 17) (ro x 19)) (sr x 10)
def gA (x : Nat) : Nat := xo (xo (ro x 2) (ro x 13)) (ro x 63)
def gB (x : Nat) : Nat := xo (xo (ro x 6) (ro x 11)) (ro x 25)
section
variable {ρ : Operand → Value} {o : Oper} {x y : Operand} {k : Nat} {w : World}
end
set_option maxRecDepth 100000
/-- The tables. -/
def kT (j : Nat) : Nat := [1116352408, 1899447441, 3049323471, 3921009573, 961987163, 1508970993, 2453635748, 2870763221, 3624381080, 310598401, 607225278, 1426881987, 1925078388, 2162078206, 2614888103, 3248222580, 3835390401, 4022224774, 264347078, 604807628, 770255983, 1249150122, 1555081692, 1996064986, 2554220882, 2821834349, 2952996808, 3210313671, 3336571891, 3584528711, 113926993, 338241895, 666307205, 773529912, 1294757372, 1396182291, 1695183700, 1986661051, 2177026350, 2456956037, 2730485921, 2820302411, 3259730800, 3345764771, 3516065817, 3600352804, 4094571909, 275423344, 430227734, 506948616, 659060556, 883997877, 958139571, 1322822218, 1537002063, 1747873779, 1955562222, 2024104815, 2227730452, 2361852424, 2428436474, 2756734187, 3204031479, 3329325298].getD j 0
def fT (j : Nat) : Nat := ei 1779033703 3144134277 1013904242 2773480762 1359893119 2600822924 528734635 1541459225 j
/-- The words of a block. -/
def wd (x : Nat → Nat) (t : Nat) : Nat := ou (ou (ou (sl (c32 (x (4 * t))) 24) (sl (c32 (x (4 * t + 1))) 16)) (sl (c32 (x (4 * t + 2))) 8)) (c32 (x (4 * t + 3)))
def w0 (x : Nat → Nat) : Nat → Nat → Nat
  | 0 => fun _ => 0
  | n + 1 => up (w0 x n) n (wd x n)
def ws (v : Nat → Nat) : Nat → Nat → Nat
  | 0 => v
  | n + 1 => up (ws v n) (16 + n) (ad (ad (ad (sB' (ws v n (16 + n - 2))) (ws v n (16 + n - 7))) (sA (ws v n (16 + n - 15)))) (ws v n (16 + n - 16)))
/-- The eight numbers on their way. -/
structure St where
  a : Nat
  b : Nat
  c : Nat
  d : Nat
  e : Nat
  f : Nat
  g : Nat
  h : Nat
def pp (K w : Nat) (s : St) : Nat := ad (ad (ad (ad s.h (gB s.e)) (xo (an s.e s.f) (an (nt s.e) s.g))) K) w
def qq (s : St) : Nat := ad (gA s.a) (xo (xo (an s.a s.b) (an s.a s.c)) (an s.b s.c))
def stp (K w : Nat) (s : St) : St := ⟨ad (pp K w s) (qq s), s.a, s.b, s.c, ad s.d (pp K w s), s.e, s.f, s.g⟩
def rn (s w : Nat → Nat) : Nat → St
  | 0 => ⟨s 0, s 1, s 2, s 3, s 4, s 5, s 6, s 7⟩
  | t + 1 => stp (kT t) (w t) (rn s w t)
def mw (s w : Nat → Nat) : Nat → Nat := ei (ad (s 0) (rn s w 64).a) (ad (s 1) (rn s w 64).b) (ad (s 2) (rn s w 64).c) (ad (s 3) (rn s w 64).d) (ad (s 4) (rn s w 64).e) (ad (s 5) (rn s w 64).f) (ad (s 6) (rn s w 64).g) (ad (s 7) (rn s w 64).h)
/-- The eight numbers with one more block. -/
def mx (s x : Nat → Nat) : Nat → Nat := mw s (ws (w0 x 16) 48)
set_option maxRecDepth 100000
/-- The eight bytes of a number, the highest first. -/
def e8 (x : Nat) : Nat → Nat → Nat
  | 0 => fun _ => 0
  | n + 1 => up (e8 x n) n (sr x (56 - 8 * n) % 256)
/-- The bytes of the eight numbers. -/
def bo (s : Nat → Nat) : Nat → Nat → Nat
  | 0 => fun _ => 0
  | n + 1 => up (up (up (up (bo s n) (4 * n) (sr (s n) 24 % 256)) (4 * n + 1) (sr (s n) 16 % 256)) (4 * n + 2) (sr (s n) 8 % 256)) (4 * n + 3) (s n % 256)
theorem rounds_in {P : Program} {c : Code} {Q : Exit → Act → World → Prop} {n : Nat} {a : Act} {w : World} (h : c.wp P (Exit.then (Code.rounds P c Q n) Q) a w) : Code.rounds P c Q (n + 1) a w := h
section
variable {ρ : Operand → Value} {o : Oper} {x y : Operand} {g : Nat} {f f' : Nat → Nat} {t : Bool} {w : World}
end
set_option maxRecDepth 100000
/-- Bytes put behind those that are there. -/
def pr8 (r : Nat → Nat) (k m : Nat) (F : Nat → Nat) : Nat → Nat := fun j => if k ≤ j ∧ j < k + m then F (j - k) else r j
/-- Bytes that can be read while block g changes. -/
structure Src (g gb o n : Nat) (f : Nat → Nat) (w : World) : Prop where
  lt : 0 < n → gb < w.heap.size
  ne : 0 < n → gb ≠ g
  at_ : ∀ i, i < n → w.cell? ⟨gb, o + i, none⟩ = some (Z8 (f i))
theorem Src.kp {g gb o n : Nat} {f : Nat → Nat} {w w' : World} (h : Src g gb o n f w) (k : Kp g w w') (i : Nat) (hi : i < n) : w'.cell? ⟨gb, o + i, none⟩ = some (Z8 (f i)) := by
  have e := k.block gb (h.lt (by omega)) (h.ne (by omega))
  rw [World.cell?_of_block (w := w) (a := ⟨gb, o + i, none⟩) e]
  exact h.at_ i hi
section
variable {ρ : Operand → Value} {o : Oper} {x y : Operand} {g off k l n c : Nat} {w : World}
end
set_option maxRecDepth 100000
def cl (r : Nat → Nat) (k : Nat) : Nat → Nat := fun j => if k ≤ j then 0 else r j
section
variable {ρ : Operand → Value} {o : Oper} {x : Operand} {g k c : Nat} {w : World}
end
/-- The digest that a hash comes to. -/
def fz (s r : Nat → Nat) (c : Nat) : Nat → Nat := if c % 64 < 56 then bo (mx s (pr8 (cl (up r (c % 64) 128) ((c % 64) + 1)) 56 8 (e8 (c64 (8 * c)) 8))) 8 else if c % 64 < 63 then bo (mx (mx s (cl (up r (c % 64) 128) ((c % 64) + 1))) (pr8 (fun _ => 0) 56 8 (e8 (c64 (8 * c)) 8))) 8 else bo (mx (mx s (up r (c % 64) 128)) (pr8 (fun _ => 0) 56 8 (e8 (c64 (8 * c)) 8))) 8
set_option maxRecDepth 100000
/-- A text of n letters. -/
def st (f : Nat → Nat) (n : Nat) : ByteArray := strOfNums ((List.range n).map fun j => (f j : Int))
section
variable {ρ : Operand → Value} {o : Oper} {x y : Operand} {g j a b : Nat} {f : Nat → Nat} {w : World}
end
set_option maxRecDepth 100000
section
variable {ρ : Operand → Value} {o : Oper} {x y : Operand} {j a b n : Nat} {f : Nat → Nat} {w : World}
end
set_option maxRecDepth 100000
section
variable {ρ : Operand → Value} {o : Oper} {x y : Operand} {g off m c j k n : Nat} {f : Nat → Nat} {w : World}
end
/-- A word's bytes, one by one. -/
def iw (v : Nat → Nat) (t : Nat) (y : Nat → Nat) : Nat → Nat → Nat
  | 0 => v
  | i + 1 => up (iw v t y i) t (ou (sl (iw v t y i t) 8) (c32 (y i)))
/-- The words of a block, as the document makes them. -/
def dw (P : Nat → Nat) (ap : Nat) : Nat → Nat → Nat
  | 0 => fun _ => 0
  | k + 1 => if k < 16 then iw (dw P ap k) k (fun i => P ((ap + (4 * k)) + i)) 4 else up (dw P ap k) k (ad (ad (ad (sB' (dw P ap k (k - 2))) (dw P ap k (k - 7))) (sA (dw P ap k (k - 15)))) (dw P ap k (k - 16)))
def xp (K W : Nat) (x : Nat → Nat) : Nat := ad (ad (ad (ad (x 7) (gB (x 4))) (xo (an (x 4) (x 5)) (an (nt (x 4)) (x 6)))) K) W
def xq (x : Nat → Nat) : Nat := ad (gA (x 0)) (xo (xo (an (x 0) (x 1)) (an (x 0) (x 2))) (an (x 1) (x 2)))
def xs (h K W : Nat → Nat) : Nat → Nat → Nat
  | 0 => h
  | k + 1 => ei (ad (xp (K k) (W k) (xs h K W k)) (xq (xs h K W k))) (xs h K W k 0) (xs h K W k 1) (xs h K W k 2) (ad (xs h K W k 3) (xp (K k) (W k) (xs h K W k))) (xs h K W k 4) (xs h K W k 5) (xs h K W k 6)
def hv (h x : Nat → Nat) : Nat → Nat → Nat
  | 0 => h
  | k + 1 => up (hv h x k) k (ad (hv h x k k) (x k))
/-- The eight numbers behind a block, as the document has it. -/
def db (h K P : Nat → Nat) (ap : Nat) : Nat → Nat := hv h (xs h K (dw P ap 64) 64) 8
set_option maxRecDepth 100000
section
variable {w w1 w2 : World} {B n : Nat} {l : List (Nat × List Value)} {vv : Value} {P P' : Nat → Nat}
end
section
variable {ρ : Operand → Value} {o : Oper} {x y : Operand} {a : Nat} {w w2 : World} {vv sv v' : Value}
end
/-- A number's bytes, the highest first. -/
def b8 (x : Nat) (j : Nat) : Nat := sr x (56 - 8 * j) % 256
set_option maxRecDepth 100000
section
variable {ρ : Operand → Value} {o : Oper} {x y : Operand} {a b : Nat} {w : World}
end
/-- Bytes at an address. -/
structure Ra (a : Addr) (n : Nat) (f : Nat → Nat) (w : World) : Prop where
  lt : 0 < n → a.block < w.heap.size
  at_ : ∀ j, j < n → w.cell? (a.add j) = some (Z8 (f j))
theorem add_block (a : Addr) (j : Nat) : (a.add j).block = a.block := by unfold Addr.add; split <;> rfl
theorem Ra.below {a : Addr} {n : Nat} {f : Nat → Nat} {w w' : World} (h : Ra a n f w) (hb : Below w.heap.size w w') : Ra a n f w' :=
  ⟨fun hn => Nat.lt_of_lt_of_le (h.lt hn) hb.size, fun j hj => by rw [hb.cell (p := a.add j) (by rw [add_block]; exact h.lt (by omega))]; exact h.at_ j hj⟩
/-- The message with its ending, as the document has it. -/
def zc (n : Nat) : Nat := (120 - (n + 1) % 64) % 64
def pn (n : Nat) : Nat := n + 1 + zc n + 8
def nb (n : Nat) : Nat := pn n / 64
def pz (f : Nat → Nat) (n : Nat) : Nat → Nat := fun j => if j < n then f j else if j = n then 128 else 0
def pd (f : Nat → Nat) (n : Nat) : Nat → Nat := ct (pz f n) (n + 1 + zc n) (b8 (c64 (8 * c64 n)))
def hd (P : Nat → Nat) : Nat → Nat → Nat
  | 0 => fT
  | k + 1 => db (hd P k) kT P (64 * k)
def ob (h : Nat → Nat) : Nat → Nat → Nat
  | 0 => fun _ => 0
  | i + 1 => up (ob h i) i (sr (h (i / 4)) (24 - (8 * (i % 4))) % 256)
/-- The digest of n bytes, as the document has it. -/
def ds (f : Nat → Nat) (n : Nat) : Nat → Nat := ob (hd (pd f n) (nb n)) 32
set_option maxRecDepth 100000
theorem _root_.Go.Proofs.YtjadelfdhhjkdaaGreatDoor.Rg.Mm.rs {w : World} {l : List (Nat × List Value)} {f : Nat → Nat} {g m n : Nat} (h : Mm w l) (k : Nat) (hk : l[k]? = some (g, ints .u8 f m)) (hn : n ≤ m) : Rs g 0 n f w := by
  have hb := h.blk _ (List.mem_of_getElem? hk)
  exact ⟨fun _ => hb.1, fun i hi => by rw [Nat.zero_add]; exact (hb.2 i _ (ints_get .u8 f (by omega))).1⟩
theorem Bv.start (gb o n cp : Nat) : Bv gb o n cp 0 (.slice (some ⟨gb, o, none⟩) n cp) := ⟨fun _ => rfl, fun h => ⟨some ⟨gb, o, none⟩, cp, by rw [← h]⟩⟩
set_option maxRecDepth 100000
theorem _root_.Go.Proofs.YtjadelfdhhjkdaaGreatDoor.Rg.Kp.join {g : Nat} {a b c : World} (h : Kp g a b) (k : Kp g b c) : Kp g a c :=
  ⟨k.os.trans h.os, k.tape.trans h.tape, k.output.trans h.output, Nat.le_trans h.size k.size, fun i hi hg => (k.block i (Nat.lt_of_lt_of_le hi h.size) hg).trans (h.block i hi hg)⟩
theorem Src.void (g gb o : Nat) (f : Nat → Nat) (w : World) : Src g gb o 0 f w := ⟨fun h => absurd h (by decide), fun h => absurd h (by decide), fun i hi => absurd hi (by omega)⟩
theorem Bv.void (gb o cp : Nat) (p : Option Addr) (c : Nat) : Bv gb o 0 cp 0 (.slice p 0 c) := ⟨fun h => absurd h (by decide), fun _ => ⟨p, c, rfl⟩⟩
set_option maxRecDepth 100000
theorem _root_.Go.Proofs.YtjadelfdhhjkdaaGreatDoor.Rg.Mm.over {u w : World} {l : List (Nat × List Value)} {g : Nat} {cs : List Value} (h0 : Mm u l) (hge : u.heap.size ≤ g) (h1 : Mm w l) (hb : Blk w g cs) (hlt : g < w.heap.size) : Mm w ((g, cs) :: l) :=
  h1.cons hb hlt (fun p hp => by have := (h0.blk p hp).1; omega)
theorem Rs.void (g o : Nat) (f : Nat → Nat) (w : World) : Rs g o 0 f w := ⟨fun h => absurd h (by decide), fun i hi => absurd hi (by omega)⟩
section
variable {ρ : Operand → Value} {o : Oper} {x y : Operand} {g : Nat} {w : World}
end
set_option maxRecDepth 100000
/-- The numbers of a list that is handed in. -/
def Cz (p : Option Addr) (zs : List Int) (w : World) : Prop := ∀ g o, p = some ⟨g, o, none⟩ → ∀ i, i < zs.length → g < w.heap.size ∧ w.cell? ⟨g, o + i, none⟩ = some (.int .i64 (zs.getD i 0))
theorem Cz.below {p : Option Addr} {zs : List Int} {w w' : World} (h : Cz p zs w) (hb : Below w.heap.size w w') : Cz p zs w' := fun g o e i hi => by
  obtain ⟨h1, h2⟩ := h g o e i hi
  exact ⟨Nat.lt_of_lt_of_le h1 hb.size, by rw [hb.cell (p := ⟨g, o + i, none⟩) h1]; exact h2⟩
section
variable {ρ : Operand → Value} {o : Oper} {x y : Operand} {g off m c j : Nat} {w : World}
end
set_option maxRecDepth 100000
/-- A part handed in: its slice, and where its bytes lie. -/
structure Pt8 where
  gb : Nat
  o : Nat
  n : Nat
  cp : Nat
  p : Option Addr
  f : Nat → Nat
/-- m parts lie in the list that pl begins. -/
def Ls (pl : Option Addr) (P : Nat → Pt8) (m : Nat) (w : World) : Prop := ∀ g o, pl = some ⟨g, o, none⟩ → ∀ i, i < m → g < w.heap.size ∧ w.cell? ⟨g, o + i, none⟩ = some (.slice (P i).p (P i).n (P i).cp) ∧ Rs (P i).gb (P i).o (P i).n (P i).f w
theorem Ls.below {pl : Option Addr} {P : Nat → Pt8} {m : Nat} {w w' : World} (h : Ls pl P m w) (hb : Below w.heap.size w w') : Ls pl P m w' := fun g o e i hi => by
  obtain ⟨h1, h2, h3⟩ := h g o e i hi
  exact ⟨Nat.lt_of_lt_of_le h1 hb.size, by rw [hb.cell h1]; exact h2, h3.below hb⟩
section
variable {ρ : Operand → Value} {o : Oper} {x y : Operand} {g off m c j : Nat} {w : World}
end
set_option maxRecDepth 100000
section
variable {ρ : Operand → Value} {o : Oper} {x y : Operand} {g off j n a b c : Nat} {w : World}
/-- Bytes, bit by bit: unlike. -/
def x8 (a b : Nat) : Nat := (a ^^^ b) % 256
end
set_option maxRecDepth 100000
/-- A block, each byte xor x. -/
def mk8 (K : Nat → Nat) (x : Nat) : Nat → Nat := fun j => x8 (K j) x
set_option maxRecDepth 100000
/-- How many bytes k parts have. -/
def tn (P : Nat → Pt8) : Nat → Nat
  | 0 => 0
  | k + 1 => tn P k + (P k).n
/-- What a list of parts wants: where it lies, and each part's slice. -/
structure Lw (pl : Option Addr) (P : Nat → Pt8) (m : Nat) : Prop where
  p2 : 0 < m → ∃ g o, pl = some ⟨g, o, none⟩
  bv : ∀ i, i < m → Bv (P i).gb (P i).o (P i).n (P i).cp 0 (.slice (P i).p (P i).n (P i).cp) ∧ (P i).n ≤ (P i).cp
  tl : ∀ i, i < m → 64 + tn P i + (P i).n < 4611686018427387904
  ml : m ≤ 1048576
theorem Ls.mk {w : World} {l : List (Nat × List Value)} {gs : Nat} {vs : List Value} {P : Nat → Pt8} {m : Nat} (h : Mm w l) (k : Nat) (hk : l[k]? = some (gs, vs)) (hv : ∀ i, i < m → vs[i]? = some (.slice (P i).p (P i).n (P i).cp)) (hr : ∀ i, i < m → Rs (P i).gb (P i).o (P i).n (P i).f w) : Ls (some ⟨gs, 0, none⟩) P m w := fun g o e i hi => by
  injection e with e
  injection e with e1 e2
  subst e1 e2
  have hb := h.blk _ (List.mem_of_getElem? hk)
  exact ⟨hb.1, by rw [Nat.zero_add]; exact (hb.2 i _ (hv i hi)).1, hr i hi⟩
theorem Ls.one {w : World} {l : List (Nat × List Value)} {gs : Nat} {q : Pt8} (h : Mm w l) (k : Nat) (hk : l[k]? = some (gs, [.slice q.p q.n q.cp])) (hr : Rs q.gb q.o q.n q.f w) : Ls (some ⟨gs, 0, none⟩) (fun _ => q) 1 w :=
  Ls.mk h k hk (fun i hi => by
    obtain rfl : i = 0 := by omega
    rfl) (fun _ _ => hr)
/-- A part that is a whole row. -/
def pw (g n : Nat) (f : Nat → Nat) : Pt8 := ⟨g, 0, n, n, some ⟨g, 0, none⟩, f⟩
theorem pw_bv (g n : Nat) (f : Nat → Nat) : Bv (pw g n f).gb (pw g n f).o (pw g n f).n (pw g n f).cp 0 (.slice (pw g n f).p (pw g n f).n (pw g n f).cp) ∧ (pw g n f).n ≤ (pw g n f).cp := ⟨Bv.start _ _ _ _, Nat.le_refl _⟩
theorem Lw.one (gs g n : Nat) (f : Nat → Nat) (hn : n ≤ 1048576) : Lw (some ⟨gs, 0, none⟩) (fun _ => pw g n f) 1 :=
  ⟨fun _ => ⟨gs, 0, rfl⟩, fun _ _ => pw_bv g n f, fun i hi => by
    obtain rfl : i = 0 := by omega
    show 64 + 0 + n < _
    omega, by decide⟩
section
variable {ρ : Operand → Value} {o : Oper} {x : Operand} {w : World}
end
set_option maxRecDepth 100000
/-- A part handed in is a slice. -/
structure Pok (q : Pt8) : Prop where
  bv : Bv q.gb q.o q.n q.cp 0 (.slice q.p q.n q.cp)
  le : q.n ≤ q.cp
abbrev Pt8.rs (q : Pt8) (w : World) : Prop := Rs q.gb q.o q.n q.f w
theorem Lw.of (gs : Nat) {q : Pt8} (h : Pok q) (hn : q.n ≤ 1048576) : Lw (some ⟨gs, 0, none⟩) (fun _ => q) 1 :=
  ⟨fun _ => ⟨gs, 0, rfl⟩, fun _ _ => ⟨h.bv, h.le⟩, fun i hi => by
    obtain rfl : i = 0 := by omega
    show 64 + 0 + q.n < _
    omega, by decide⟩
theorem Pok.at {q : Pt8} (h : Pok q) (hn : 0 < q.n) : q.p = some ⟨q.gb, q.o, none⟩ := by
  have e := h.bv.1 hn
  injection e
section
variable {ρ : Operand → Value} {o : Oper} {x y : Operand} {g off m c j a : Nat} {w : World}
end
set_option maxRecDepth 100000
/-- A part that can be read, while nothing old is changed. -/
structure Bq (q : Pt8) (w w' : World) : Prop where
  b : Below w.heap.size w w'
  r : q.rs w'
theorem Bq.grow {q : Pt8} {w w1 w2 : World} (h : Bq q w w1) (hb : Below w1.heap.size w1 w2) : Bq q w w2 := ⟨h.b.trans (hb.mono h.b.size), h.r.below hb⟩
theorem Bq.size {q : Pt8} {w w1 : World} (h : Bq q w w1) : w.heap.size ≤ w1.heap.size := h.b.size
section
variable {ρ : Operand → Value} {o : Oper} {x y z : Operand} {a c : Nat} {w : World}
end
set_option maxRecDepth 100000
theorem Zo.blk {w w1 : World} {B n g cap : Nat} {l : List (Nat × List Value)} {P : Nat → Nat} (h : Zo w B l (.slice (some ⟨g, 0, none⟩) n cap) n P w1) : B ≤ g ∧ g < w1.heap.size ∧ n ≤ cap ∧ Blk w1 g (ints .u8 P n) := by
  have hl := World.ownsRow.lt h.own g rfl
  refine ⟨hl.1, hl.2, ?_, fun j v hj => ?_⟩
  · rcases h.own.2 with ⟨h1, _⟩ | ⟨g', cap', cur, h1, _, _, h2, _⟩
    · cases h1
    · injection h1 with _ _ e
      rw [e]
      exact h2
  · have hjn : j < n := by
      have := (List.getElem?_eq_some_iff.1 hj).1
      rwa [ints_len] at this
    refine ⟨?_, World.ownsRow.frozenAt h.own j⟩
    rw [World.ownsRow.cellAt h.own j (by omega)]
    exact hj
section
variable {ρ : Operand → Value} {o : Oper} {x y : Operand} {z : Int} {w : World}
end
set_option maxRecDepth 100000
section
variable {ρ : Operand → Value} {o : Oper} {x y : Operand} {a b : Nat} {w : World}
end
set_option maxRecDepth 100000
set_option maxRecDepth 100000
section
variable {ρ : Operand → Value} {o : Oper} {x y : Operand} {a b : Nat} {w : World}
end
set_option maxRecDepth 100000
def Dv (v : Value) (n : Nat) (f : Nat → Nat) (w : World) : Prop := (v = .slice none 0 0 ∧ n = 0) ∨ ∃ a cp, v = .slice (some a) n cp ∧ Ra a n f w
theorem Dv.below {v : Value} {n : Nat} {f : Nat → Nat} {w w' : World} (h : Dv v n f w) (hb : Below w.heap.size w w') : Dv v n f w' := by
  rcases h with h | ⟨a, cp, e, h⟩
  · exact .inl h
  · exact .inr ⟨a, cp, e, h.below hb⟩
set_option maxRecDepth 100000
/-- Two slices of the call's own, beside blocks l. -/
structure Z2 (w : World) (B : Nat) (l : List (Nat × List Value)) (v1 : Value) (n1 : Nat) (P1 : Nat → Nat) (v2 : Value) (n2 : Nat) (P2 : Nat → Nat) (w' : World) : Prop where
  b : Below w.heap.size w w'
  lo : w.heap.size ≤ B
  hi : B ≤ w'.heap.size
  m : Mm w' l
  lt : ∀ p ∈ l, p.1 < B
  o1 : w'.ownsRow B 5 1 v1 n1 (ints .u8 P1 n1)
  o2 : w'.ownsRow B 5 1 v2 n2 (ints .u8 P2 n2)
  ne : v1.ownBlock = none ∨ v1.ownBlock ≠ v2.ownBlock
theorem own_step {w1 w2 : World} {B n : Nat} {vv : Value} {P : Nat → Nat} (h : w1.ownsRow B 5 1 vv n (ints .u8 P n)) (hb : Below w1.heap.size w1 w2) : w2.ownsRow B 5 1 vv n (ints .u8 P n) := by
  refine ⟨h.1, ?_⟩
  rcases h.2 with ⟨h1, h2⟩ | ⟨g, cap, cur, h1, h2, h3, h4⟩
  · exact .inl ⟨h1, h2⟩
  · refine .inr ⟨g, cap, cur, h1, h2, ?_, h4⟩
    rw [hb.block g (Array.getElem?_eq_some_iff.1 h3).1]
    exact h3
section
variable {w w1 w2 : World} {B n1 n2 : Nat} {l : List (Nat × List Value)} {v1 v2 : Value} {P1 P2 P' : Nat → Nat}
theorem Z2.size (h : Z2 w B l v1 n1 P1 v2 n2 P2 w1) : w.heap.size ≤ w1.heap.size := h.b.size
theorem Z2.step (h : Z2 w B l v1 n1 P1 v2 n2 P2 w1) (hb : Below w1.heap.size w1 w2) : Z2 w B l v1 n1 P1 v2 n2 P2 w2 :=
  ⟨h.b.trans (hb.mono h.b.size), h.lo, Nat.le_trans h.hi hb.size, h.m.below hb, h.lt, own_step h.o1 hb, own_step h.o2 hb, h.ne⟩
theorem Z2.nil (hm : Mm w1 l) (hb : Below w.heap.size w w1) (P1 P2 : Nat → Nat) : Z2 w w1.heap.size l (.slice none 0 0) 0 P1 (.slice none 0 0) 0 P2 w1 :=
  ⟨hb, hb.size, Nat.le_refl _, hm, fun p hp => (hm.blk p hp).1, World.ownsRow_nil _ _ _ _, World.ownsRow_nil _ _ _ _, .inl rfl⟩
end
/-- A slice of the call's own, apart from the blocks L. -/
structure Ow (w : World) (L : List Nat) (vv : Value) (n : Nat) (P : Nat → Nat) (w' : World) : Prop where
  b : Below w.heap.size w w'
  own : w'.ownsRow w.heap.size 5 1 vv n (ints .u8 P n)
  ne : ∀ g ∈ L, some g ≠ vv.ownBlock
section
variable {w w1 w2 : World} {B n n2 : Nat} {L : List Nat} {l : List (Nat × List Value)} {vv v2 : Value} {P P' P2 : Nat → Nat}
theorem Ow.size (h : Ow w L vv n P w1) : w.heap.size ≤ w1.heap.size := h.b.size
theorem Ow.step (h : Ow w L vv n P w1) (hb : Below w1.heap.size w1 w2) : Ow w L vv n P w2 := ⟨h.b.trans (hb.mono h.b.size), own_step h.own hb, h.ne⟩
theorem Ow.alloc (h : Ow w L vv n P w1) (o : Obj) : Ow w (w1.heap.size :: L) vv n P (w1.alloc o) :=
  ⟨h.b.trans (((Below.refl _ _).alloc (Nat.le_refl _) _).mono h.b.size), own_step h.own ((Below.refl _ _).alloc (Nat.le_refl _) _), fun g hg e => by
    rcases List.mem_cons.1 hg with rfl | hg
    · have := (World.ownsRow.lt h.own _ e.symm).2
      omega
    · exact h.ne g hg e⟩
theorem Ow.put (h : Ow w L vv n P w1) {g off : Nat} {vs : List Value} (hg : g ∈ L) (ho : w.heap.size ≤ g) : Ow w L vv n P (w1.setCells g off vs) := by
  refine ⟨below_setCells _ ho _ _ _ h.b, ⟨h.own.1, ?_⟩, h.ne⟩
  rcases h.own.2 with h1 | ⟨k, cap, cur, h1, h2, h3, h4⟩
  · exact .inl h1
  · refine .inr ⟨k, cap, cur, h1, h2, ?_, h4⟩
    have hk : k ≠ g := fun e => h.ne g hg (by rw [h1, ← e]; rfl)
    rw [heap_setCells0 g k hk]
    exact h3
end
/-- A key's block, as the document fills it. -/
def kz (f : Nat → Nat) (n : Nat) : Nat → Nat := fun j => if j < n then f j else 0
set_option maxRecDepth 100000
/-- A key's block, as the document has it. -/
def kd (f : Nat → Nat) (n : Nat) : Nat → Nat := if 64 < n then kz (ds f n) 32 else kz f n
set_option maxRecDepth 100000
abbrev Pt8.bs (a : Pt8) (xs : List Int) (w : World) : Prop := BSl w xs a.cp (.slice a.p a.n a.cp) ∧ a.rs w
theorem Pt8.bs.below {a : Pt8} {xs : List Int} {w w' : World} (h : a.bs xs w) (hb : Below w.heap.size w w') : a.bs xs w' := ⟨BSl.below h.1 hb, Rs.below h.2 hb⟩
section
variable {ρ : Operand → Value} {o : Oper} {x y : Operand} {t : Bool} {w : World}
end
set_option maxRecDepth 100000
theorem Ow.nil (P : Nat → Nat) (w : World) : Ow w [] (.slice none 0 0) 0 P w := ⟨Below.refl _ _, World.ownsRow_nil _ _ _ _, fun g hg => by cases hg⟩
theorem Ow.rs {w w1 : World} {L : List Nat} {n g c : Nat} {P : Nat → Nat} (h : Ow w L (.slice (some ⟨g, 0, none⟩) n c) n P w1) : Rs g 0 n P w1 := by
  refine ⟨fun _ => (World.ownsRow.lt h.own g rfl).2, fun i hi => ?_⟩
  have := World.ownsRow.cells h.own (g := g) rfl i _ (ints_get .u8 P hi)
  rw [show (⟨g, 0, none⟩ : Addr).add i = ⟨g, 0 + i, none⟩ by unfold Addr.add; split <;> simp_all] at this
  exact this
/-- The outer slice, and a part that can be read. -/
structure Oq (q : Pt8) (w : World) (vv : Value) (n : Nat) (P : Nat → Nat) (w' : World) : Prop where
  o : Ow w [] vv n P w'
  r : q.rs w'
theorem Oq.step {q : Pt8} {w w1 w2 : World} {vv : Value} {n : Nat} {P : Nat → Nat} (h : Oq q w vv n P w1) (hb : Below w1.heap.size w1 w2) : Oq q w vv n P w2 := ⟨h.o.step hb, h.r.below hb⟩
theorem Oq.size {q : Pt8} {w w1 : World} {vv : Value} {n : Nat} {P : Nat → Nat} (h : Oq q w vv n P w1) : w.heap.size ≤ w1.heap.size := h.o.b.size
section
variable {ρ : Operand → Value} {o : Oper} {x y : Operand} {a : Nat} {w : World}
end
set_option maxRecDepth 100000
def setO (j : Nat) (v : Value) : Obj → Obj
  | .cells c elem frozen => .cells (c.setIfInBounds j v) elem frozen
  | o => o
theorem heap_set {w : World} {g j : Nat} {v : Value} {o : Obj} (h : w.heap[g]? = some o) : (w.setCells g j [v]).heap[g]? = some (setO j v o) := by
  show (World.setCell w ⟨g, j, none⟩ v).heap[g]? = _
  unfold World.setCell
  show (Array.modify _ _ _)[g]? = _
  rw [Array.getElem?_modify, if_pos rfl, h]
  cases o <;> rfl
/-- Two blocks alike but in their first c cells. -/
def Sm (c : Nat) (o o' : Obj) : Prop := o' = o ∨ ∃ cur cur' t fz, o = .cells cur t fz ∧ o' = .cells cur' t fz ∧ cur'.size = cur.size ∧ ∀ j, c ≤ j → cur'[j]? = cur[j]?
theorem Sm.trans {c : Nat} {a b d : Obj} (h : Sm c a b) (k : Sm c b d) : Sm c a d := by
  rcases h with rfl | ⟨x, y, t, fz, rfl, rfl, h1, h2⟩
  · exact k
  · rcases k with rfl | ⟨x2, y2, t2, fz2, e, rfl, h3, h4⟩
    · exact .inr ⟨x, y, t, fz, rfl, rfl, h1, h2⟩
    · injection e with e1 e2 e3
      subst e1 e2 e3
      exact .inr ⟨x, y2, _, _, rfl, rfl, h3.trans h1, fun j hj => (h4 j hj).trans (h2 j hj)⟩
/-- Block g may have changed, in its first c cells alone. -/
structure Ov (c g : Nat) (w w' : World) : Prop where
  k : Kp g w w'
  lt : g < w.heap.size
  ob : ∀ o, w.heap[g]? = some o → ∃ o', w'.heap[g]? = some o' ∧ Sm c o o'
theorem Ov.refl {c g : Nat} {w : World} (h : g < w.heap.size) : Ov c g w w := ⟨Kp.refl g w, h, fun o e => ⟨o, e, .inl rfl⟩⟩
theorem Ov.size {c g : Nat} {w w' : World} (h : Ov c g w w') : w.heap.size ≤ w'.heap.size := h.k.size
theorem Ov.grow {c g : Nat} {w w1 w2 : World} (h : Ov c g w w1) (hb : Below w1.heap.size w1 w2) : Ov c g w w2 :=
  ⟨h.k.trans hb, h.lt, fun o e => by
    obtain ⟨o', e', h1⟩ := h.ob o e
    exact ⟨o', by rw [hb.block g (Nat.lt_of_lt_of_le h.lt h.k.size)]; exact e', h1⟩⟩
theorem Ov.join {c g : Nat} {w w1 w2 : World} (h : Ov c g w w1) (k : Ov c g w1 w2) : Ov c g w w2 :=
  ⟨h.k.join k.k, h.lt, fun o e => by
    obtain ⟨o', e', h1⟩ := h.ob o e
    obtain ⟨o2, e2, h2⟩ := k.ob o' e'
    exact ⟨o2, e2, h1.trans h2⟩⟩
theorem Ov.put {c g j : Nat} {v : Value} {w w1 : World} (h : Ov c g w w1) (hj : j < c) : Ov c g w (w1.setCells g j [v]) :=
  ⟨h.k.put (Or.inl rfl), h.lt, fun o e => by
    obtain ⟨o', e', h1⟩ := h.ob o e
    refine ⟨_, heap_set e', h1.trans ?_⟩
    cases o' with
    | cells cur t fz => exact .inr ⟨cur, _, t, fz, rfl, rfl, by simp, fun i hi => by rw [Array.getElem?_setIfInBounds, if_neg (by omega)]⟩
    | _ => exact .inl rfl⟩
section
variable {ρ : Operand → Value} {o : Oper} {x y : Operand} {n c : Nat} {w : World} {p : Option Addr}
end
set_option maxRecDepth 100000
/-- A slice that may lie apart: where, how long, its room, the bytes of all its room. -/
structure Ap where
  p : Option Addr
  g : Nat
  n : Nat
  c : Nat
  f : Nat → Nat
def Ap.pt (q : Ap) : Pt8 := ⟨q.g, 0, q.c, q.c, q.p, q.f⟩
structure Ap.Ok (q : Ap) : Prop where
  at_ : q.p = some ⟨q.g, 0, none⟩ ∨ (q.p = none ∧ q.n = 0 ∧ q.c = 0)
  le : q.n ≤ q.c
  mx : q.c ≤ 1048576
  by_ : ∀ j, q.f j < 256
def Ap.row (q : Ap) (f : Nat → Nat) (w : World) : Prop := q.p = none ∨ Mm w [(q.g, ints .u8 f q.c)]
theorem Ap.Ok.nil {q : Ap} (h : q.Ok) : q.pt.p = none → q.pt.cp = 0 := fun e => by
  rcases h.at_ with e2 | ⟨_, _, e2⟩
  · exact absurd (e2.symm.trans e) (by simp)
  · exact e2
theorem Ap.row.rs {q : Ap} (h : q.Ok) {w : World} (hr : q.row q.f w) : q.pt.rs w := by
  rcases hr with e | hm
  · rcases h.at_ with e2 | ⟨_, _, e2⟩
    · exact absurd (e2.symm.trans e) (by simp)
    · show Rs q.g 0 q.c q.f w
      rw [e2]
      exact Rs.void _ _ _ _
  · exact hm.rs 0 rfl (Nat.le_refl _)
theorem Ap.row.below {q : Ap} {f : Nat → Nat} {w w' : World} (h : q.row f w) (hb : Below w.heap.size w w') : q.row f w' := by
  rcases h with h | h
  · exact .inl h
  · exact .inr (h.below hb)
/-- Slices in a list. -/
def apl (A : Nat → Ap) (m : Nat) : List Value := (List.range m).map fun i => .slice (A i).p (A i).n (A i).c
structure Al (gl : Nat) (A : Nat → Ap) (m : Nat) (w : World) : Prop where
  ls : Mm w [(gl, apl A m)]
  row : ∀ i, i < m → (A i).row (A i).f w
theorem Al.below {gl : Nat} {A : Nat → Ap} {m : Nat} {w w' : World} (h : Al gl A m w) (hb : Below w.heap.size w w') : Al gl A m w' := ⟨h.ls.below hb, fun i hi => (h.row i hi).below hb⟩
structure Aw (gl : Nat) (A : Nat → Ap) (m : Nat) : Prop where
  ok : ∀ i, i < m → (A i).Ok
  ne : ∀ i j, i < m → j < m → i ≠ j → (A i).p ≠ none → (A j).p ≠ none → (A i).g ≠ (A j).g
  nl : ∀ i, i < m → (A i).p ≠ none → (A i).g ≠ gl
  ml : m ≤ 1048576
theorem rmap_get {F : Nat → Value} {m k : Nat} (h : k < m) : ((List.range m).map F)[0 + k]? = some (F k) := by
  rw [Nat.zero_add, List.getElem?_map, List.getElem?_range h]
  rfl
/-- The copies, k of them. -/
def wl (A : Nat → Ap) (G : Nat → Nat × Nat) (k m : Nat) : List Value := (List.range m).map fun j => if j < k then .slice (some ⟨(G j).1, 0, none⟩) (A j).c ((A j).c + (G j).2) else .slice none 0 0
theorem wl_len (A : Nat → Ap) (G : Nat → Nat × Nat) (k m : Nat) : (wl A G k m).length = m := by simp [wl]
theorem wl_zero (A : Nat → Ap) (G : Nat → Nat × Nat) (m : Nat) : wl A G 0 m = List.replicate m (.slice none 0 0) := by
  apply List.ext_getElem?
  intro j
  unfold wl
  by_cases h : j < m
  · have e := rmap_get (F := fun j => if j < 0 then .slice (some ⟨(G j).1, 0, none⟩) (A j).c ((A j).c + (G j).2) else .slice none 0 0) h
    rw [Nat.zero_add] at e
    rw [e, List.getElem?_replicate, if_pos h, if_neg (Nat.not_lt_zero _)]
  · rw [List.getElem?_eq_none (by simp; omega), List.getElem?_replicate, if_neg h]
def uG (G : Nat → Nat × Nat) (k : Nat) (v : Nat × Nat) : Nat → Nat × Nat := fun j => if j = k then v else G j
theorem wl_put (A : Nat → Ap) (G : Nat → Nat × Nat) (k m g x : Nat) (h : k < m) : patch (wl A G k m) (0 + k) [.slice (some ⟨g, 0, none⟩) (A k).c ((A k).c + x)] = wl A (uG G k (g, x)) (k + 1) m := by
  apply List.ext_getElem?
  intro j
  rw [patch_get _ _ _ (by rw [wl_len]; simp; omega)]
  by_cases hj : j < m
  · have e1 : (wl A G k m)[j]? = some (if j < k then .slice (some ⟨(G j).1, 0, none⟩) (A j).c ((A j).c + (G j).2) else .slice none 0 0) := by
      have := rmap_get (F := fun j => if j < k then .slice (some ⟨(G j).1, 0, none⟩) (A j).c ((A j).c + (G j).2) else .slice none 0 0) hj
      rw [Nat.zero_add] at this
      exact this
    have e2 : (wl A (uG G k (g, x)) (k + 1) m)[j]? = some (if j < k + 1 then .slice (some ⟨(uG G k (g, x) j).1, 0, none⟩) (A j).c ((A j).c + (uG G k (g, x) j).2) else .slice none 0 0) := by
      have := rmap_get (F := fun j => if j < k + 1 then .slice (some ⟨(uG G k (g, x) j).1, 0, none⟩) (A j).c ((A j).c + (uG G k (g, x) j).2) else .slice none 0 0) hj
      rw [Nat.zero_add] at this
      exact this
    rw [e1, e2]
    unfold uG
    by_cases h1 : j = k
    · subst h1
      rw [if_pos (by simp), if_pos (by omega), if_pos rfl, show j - (0 + j) = 0 by omega]
      rfl
    · rw [if_neg (by simp; omega), if_neg h1]
      by_cases h2 : j < k
      · rw [if_pos h2, if_pos (by omega)]
      · rw [if_neg h2, if_neg (by omega)]
  · rw [if_neg (by simp; omega), List.getElem?_eq_none (by rw [wl_len]; omega), List.getElem?_eq_none (by rw [wl_len]; omega)]
structure Wq (w : World) (gw : Nat) (A : Nat → Ap) (m k : Nat) (G : Nat → Nat × Nat) (w' : World) : Prop where
  b : Below w.heap.size w w'
  lo : w.heap.size ≤ gw
  m_ : Mm w' [(gw, wl A G k m)]
  cp : ∀ j, j < k → gw < (G j).1 ∧ Mm w' [((G j).1, ints .u8 (A j).f (A j).c)]
def Wk (w : World) (gw : Nat) (A : Nat → Ap) (m k : Nat) (w' : World) : Prop := ∃ G, Wq w gw A m k G w'
section
variable {w w1 w2 : World} {gw gl m k i : Nat} {A : Nat → Ap} {G : Nat → Nat × Nat}
theorem Wq.step (h : Wq w gw A m k G w1) (hb : Below w1.heap.size w1 w2) : Wq w gw A m k G w2 := ⟨h.b.trans (hb.mono h.b.size), h.lo, h.m_.below hb, fun j hj => ⟨(h.cp j hj).1, (h.cp j hj).2.below hb⟩⟩
theorem Wq.size (h : Wq w gw A m k G w1) : w.heap.size ≤ w1.heap.size := h.b.size
theorem Wk.step (h : Wk w gw A m k w1) (hb : Below w1.heap.size w1 w2) : Wk w gw A m k w2 := let ⟨G, h⟩ := h; ⟨G, h.step hb⟩
theorem Wk.b (h : Wk w gw A m k w1) : Below w.heap.size w w1 := let ⟨_, h⟩ := h; h.b
theorem Wk.size (h : Wk w gw A m k w1) : w.heap.size ≤ w1.heap.size := h.b.size
theorem Wk.lt (h : Wk w gw A m k w1) : gw < w1.heap.size := let ⟨_, h⟩ := h; (h.m_.blk _ (List.mem_singleton.2 rfl)).1
theorem Wk.start (hb : Below w.heap.size w w1) (A : Nat → Ap) (m : Nat) (t : TypeId) : Wk w w1.heap.size A m 0 (w1.alloc (.cells (List.replicate m (.slice none 0 0) : List Value).toArray t)) :=
  ⟨fun _ => (0, 0), hb.alloc hb.size _, hb.size, by rw [wl_zero]; exact (Mm.nil w1).alloc _ t rfl, fun j hj => absurd hj (Nat.not_lt_zero _)⟩
theorem _root_.Go.Proofs.YtjadelfdhhjkdaaGreatDoor.Rg.Mm.kp {w w' : World} {g k : Nat} {cs : List Value} (h : Mm w [(g, cs)]) (hk : Kp k w w') (hne : g ≠ k) : Mm w' [(g, cs)] := by
  refine ⟨fun p hp => ?_, List.pairwise_singleton _ _⟩
  rw [List.mem_singleton.1 hp]
  have hb := h.blk _ (List.mem_singleton.2 rfl)
  have hblk := hk.block g hb.1 hne
  refine ⟨Nat.lt_of_lt_of_le hb.1 hk.size, fun j v hj => ?_⟩
  rw [World.cell?_of_block (a := ⟨g, j, none⟩) hblk, World.frozen?_of_block (a := ⟨g, j, none⟩) hblk]
  exact hb.2 j v hj
theorem _root_.Go.Proofs.YtjadelfdhhjkdaaGreatDoor.Rg.Mm.other {w : World} {g g' off : Nat} {cs vs : List Value} (h : Mm w [(g, cs)]) (hg : g ≠ g') : Mm (w.setCells g' off vs) [(g, cs)] := h.kp ((Kp.refl g' w).put (Or.inl rfl)) hg
theorem Wq.store (h : Wq w gw A m k G w1) (hk : k < m) {g x : Nat} (hg : gw < g) (hm : Mm w1 [(g, ints .u8 (A k).f (A k).c)]) : Wk w gw A m (k + 1) (w1.setCells gw (0 + k) [.slice (some ⟨g, 0, none⟩) (A k).c ((A k).c + x)]) := by
  refine ⟨uG G k (g, x), below_setCells _ h.lo _ _ _ h.b, h.lo, ?_, fun j hj => ?_⟩
  · have := h.m_.put 0 (off := 0 + k) (vs := [.slice (some ⟨g, 0, none⟩) (A k).c ((A k).c + x)]) rfl (by rw [wl_len]; simp; omega)
    rw [wl_put A G k m g x hk] at this
    exact this
  · unfold uG
    by_cases e : j = k
    · subst e
      rw [if_pos rfl]
      exact ⟨hg, hm.other (by omega)⟩
    · rw [if_neg e]
      have hc := h.cp j (by omega)
      exact ⟨hc.1, hc.2.other (by omega)⟩
/-- One of the slices is written over. -/
structure Wo (w : World) (gw : Nat) (A : Nat → Ap) (m i : Nat) (G : Nat → Nat × Nat) (w' : World) : Prop where
  lo : w.heap.size ≤ gw
  sz : w.heap.size ≤ w'.heap.size
  m_ : Mm w' [(gw, wl A G m m)]
  cp : ∀ j, j < m → gw < (G j).1 ∧ Mm w' [((G j).1, ints .u8 (A j).f (A j).c)]
  ov : ((A i).p = none ∧ Below w.heap.size w w') ∨ ((A i).p ≠ none ∧ Ov (A i).c (A i).g w w' ∧ Mm w' [((A i).g, ints .u8 (mk8 (A i).f 90) (A i).c)])
theorem Wo.step (h : Wo w gw A m i G w1) (hb : Below w1.heap.size w1 w2) : Wo w gw A m i G w2 :=
  ⟨h.lo, Nat.le_trans h.sz hb.size, h.m_.below hb, fun j hj => ⟨(h.cp j hj).1, (h.cp j hj).2.below hb⟩, by
    rcases h.ov with ⟨e, h1⟩ | ⟨e, h1, h2⟩
    · exact .inl ⟨e, h1.trans (hb.mono h.sz)⟩
    · exact .inr ⟨e, h1.grow hb, h2.below hb⟩⟩
theorem Wo.size (h : Wo w gw A m i G w1) : w.heap.size ≤ w1.heap.size := h.sz
theorem Wq.nil (h : Wq w gw A m m G w1) (hp : (A i).p = none) (hb : Below w1.heap.size w1 w2) : Wo w gw A m i G w2 :=
  let h' := h.step hb
  ⟨h'.lo, h'.b.size, h'.m_, h'.cp, .inl ⟨hp, h'.b⟩⟩
theorem Wq.over (h : Wq w gw A m m G w1) (hp : (A i).p ≠ none) (hlt : (A i).g < w.heap.size) (hm : Mm w2 [((A i).g, ints .u8 (mk8 (A i).f 90) (A i).c)]) (ho : Ov (A i).c (A i).g w1 w2) : Wo w gw A m i G w2 := by
  have hlo := h.lo
  refine ⟨h.lo, Nat.le_trans h.b.size ho.size, h.m_.kp ho.k (by omega), fun j hj => ⟨(h.cp j hj).1, (h.cp j hj).2.kp ho.k (by have := (h.cp j hj).1; omega)⟩, .inr ⟨hp, ((Ov.refl hlt).grow h.b).join ho, hm⟩⟩
/-- The list, and the other slices, meanwhile. -/
theorem Wo.ls (h : Wo w gw A m i G w1) (hA : Al gl A m w) (hW : Aw gl A m) (hi : i < m) : Mm w1 [(gl, apl A m)] := by
  rcases h.ov with ⟨_, h1⟩ | ⟨e, h1, _⟩
  · exact hA.ls.below h1
  · exact hA.ls.kp h1.k (Ne.symm (hW.nl i hi e))
theorem Wo.row (h : Wo w gw A m i G w1) (hA : Al gl A m w) (hW : Aw gl A m) (hi : i < m) (hk : k < m) (hne : k ≠ i) : (A k).row (A k).f w1 := by
  rcases h.ov with ⟨_, h1⟩ | ⟨e, h1, _⟩
  · exact (hA.row k hk).below h1
  · rcases hA.row k hk with e2 | hm
    · exact .inl e2
    · by_cases e3 : (A k).p = none
      · exact .inl e3
      · exact .inr (hm.kp h1.k (hW.ne k i hk hi hne e3 e))
/-- Written over twice, nothing has changed. -/
theorem Wo.nil (h : Wo w gw A m i G w1) (hp : (A i).p = none) (hb : Below w1.heap.size w1 w2) : Below w.heap.size w w2 := by
  rcases h.ov with ⟨_, h1⟩ | ⟨e, _⟩
  · exact h1.trans (hb.mono h.sz)
  · exact absurd hp e
end
section
variable {ρ : Operand → Value} {o : Oper} {x y : Operand} {g off n c m : Nat} {w : World} {p : Option Addr}
end
set_option maxRecDepth 100000
set_option maxRecDepth 100000
/-- What holds of a world, and stays, while nothing old is changed. -/
structure Bk (w : World) (F : World → Prop) (w' : World) : Prop where
  b : Below w.heap.size w w'
  st : ∀ {x y : World}, Below x.heap.size x y → F x → F y
  r : F w'
theorem Bk.step {w w1 w2 : World} {F : World → Prop} (h : Bk w F w1) (hb : Below w1.heap.size w1 w2) : Bk w F w2 := ⟨h.b.trans (hb.mono h.b.size), h.st, h.st hb h.r⟩
theorem Bk.size {w w1 : World} {F : World → Prop} (h : Bk w F w1) : w.heap.size ≤ w1.heap.size := h.b.size
theorem Bk.of {w w1 w2 : World} {xs : List Int} {c : Nat} {v : Value} (h : Below w.heap.size w w1) (hb : Below w1.heap.size w1 w2) (h2 : BSl w2 xs c v) : Bk w (fun u => BSl u xs c v) w2 := ⟨h.trans (hb.mono h.size), fun hb h => BSl.below h hb, h2⟩
theorem Bk.and {w w1 w2 : World} {F : World → Prop} {xs : List Int} {c : Nat} {v : Value} (h : Bk w F w1) (hb : Below w1.heap.size w1 w2) (h2 : BSl w2 xs c v) : Bk w (fun u => F u ∧ BSl u xs c v) w2 := ⟨h.b.trans (hb.mono h.b.size), fun hb h' => ⟨h.st hb h'.1, BSl.below h'.2 hb⟩, h.st hb h.r, h2⟩
def ap (g n c : Nat) (f : Nat → Nat) : Ap := ⟨some ⟨g, 0, none⟩, g, n, c, f⟩
section
variable {ρ : Operand → Value} {o : Oper} {x0 x1 x2 x3 x4 : Operand} {w : World}
end
set_option maxRecDepth 100000
/-- A call of a hash: its kind, its bytes. -/
structure Ac where
  kd : Nat
  q : Pt8
  xs : List Int
/-- Acts in a list. -/
def Lc (pl : Option Addr) (X : Nat → Ac) (m : Nat) (w : World) : Prop := ∀ g o, pl = some ⟨g, o, none⟩ → ∀ i, i < m → g < w.heap.size ∧ w.cell? ⟨g, o + 2 * i, none⟩ = some (Z8 (X i).kd) ∧ w.cell? ⟨g, o + 2 * i + 1, none⟩ = some (.slice (X i).q.p (X i).q.n (X i).q.cp) ∧ (X i).q.bs (X i).xs w
theorem Lc.below {pl : Option Addr} {X : Nat → Ac} {m : Nat} {w w' : World} (h : Lc pl X m w) (hb : Below w.heap.size w w') : Lc pl X m w' := fun g o e i hi => by
  obtain ⟨h1, h2, h3, h4⟩ := h g o e i hi
  exact ⟨Nat.lt_of_lt_of_le h1 hb.size, by rw [hb.cell h1]; exact h2, by rw [hb.cell h1]; exact h3, h4.below hb⟩
section
variable {ρ : Operand → Value} {o : Oper} {x y : Operand} {g off m c j a b : Nat} {w : World} {p : Option Addr}
end
/-- What the object of a slice's own block is. -/
def Eo (n : Nat) (f : Nat → Nat) (o : Obj) (x : Nat) : Prop := ∃ cur, o = .cells cur 5 (0, 0) ∧ n + x ≤ maxLen ∧ cur.size = (n + x) * 1 ∧ cur.toList.take (n * 1) = ints .u8 f n
theorem Eo.own {n g x B : Nat} {f : Nat → Nat} {w : World} (h : ∃ o, w.heap[g]? = some o ∧ Eo n f o x) (hB : B ≤ g) : w.ownsRow B 5 1 (.slice (some ⟨g, 0, none⟩) n (n + x)) n (ints .u8 f n) := by
  obtain ⟨o, h1, cur, rfl, h2, h3, h4⟩ := h
  exact ⟨by rw [ints_len, Nat.mul_one], .inr ⟨g, n + x, cur, rfl, hB, h1, Nat.le_add_right _ _, h2, h3, h4⟩⟩
/-- Two parts that can be read, apart from blocks L that may change. -/
structure Sr (w : World) (L : List Nat) (q0 q1 : Pt8) (w' : World) : Prop where
  b : Below w.heap.size w w'
  r0 : q0.rs w'
  r1 : q1.rs w'
  a0 : 0 < q0.n → q0.gb ∉ L
  a1 : 0 < q1.n → q1.gb ∉ L
section
variable {w w1 w2 : World} {L : List Nat} {q0 q1 q : Pt8} {g : Nat}
theorem Rs.kpx {g gb o n : Nat} {f : Nat → Nat} {w w' : World} (h : Rs gb o n f w) (k : Kp g w w') (ne : 0 < n → gb ≠ g) : Rs gb o n f w' := by
  refine ⟨fun hn => Nat.lt_of_lt_of_le (h.lt hn) k.size, fun i hi => ?_⟩
  have e := k.block gb (h.lt (by omega)) (ne (by omega))
  rw [World.cell?_of_block (w := w) (a := ⟨gb, o + i, none⟩) e]
  exact h.at_ i hi
theorem Sr.size (h : Sr w L q0 q1 w1) : w.heap.size ≤ w1.heap.size := h.b.size
theorem Sr.step (h : Sr w L q0 q1 w1) (hb : Below w1.heap.size w1 w2) : Sr w L q0 q1 w2 := ⟨h.b.trans (hb.mono h.b.size), h.r0.below hb, h.r1.below hb, h.a0, h.a1⟩
theorem Sr.kp (h : Sr w L q0 q1 w1) (hk : Kp g w1 w2) (hg : g ∈ L) (ho : w.heap.size ≤ g) : Sr w L q0 q1 w2 :=
  ⟨Below.kp h.b hk ho h.b.size, h.r0.kpx hk (fun hn e => h.a0 hn (e ▸ hg)), h.r1.kpx hk (fun hn e => h.a1 hn (e ▸ hg)), h.a0, h.a1⟩
theorem Sr.put {off : Nat} {vs : List Value} (h : Sr w L q0 q1 w1) (hg : g ∈ L) (ho : w.heap.size ≤ g) : Sr w L q0 q1 (w1.setCells g off vs) := h.kp ((Kp.refl g w1).put (Or.inl rfl)) hg ho
theorem Sr.more (h : Sr w L q0 q1 w1) (h0 : 0 < q0.n → q0.gb < g) (h1 : 0 < q1.n → q1.gb < g) : Sr w (g :: L) q0 q1 w1 :=
  ⟨h.b, h.r0, h.r1, fun hn hm => by
    rcases List.mem_cons.1 hm with e | e
    · have := h0 hn; omega
    · exact h.a0 hn e, fun hn hm => by
    rcases List.mem_cons.1 hm with e | e
    · have := h1 hn; omega
    · exact h.a1 hn e⟩
end
end Wi
end Rg
end Go.Proofs.YtjadelfdhhjkdaaGreatDoor
end
section
namespace Go.Proofs.YtjadelfdhhjkdaaGreatDoor
open Go.RowKit
namespace Rg
namespace Wi
set_option maxRecDepth 100000
section
variable {P : Program} {full : Array Oper} {Q : Exit → Act → World → Prop} {a : Act} {w : World}
theorem sq_start {id : Nat} {l : List Nat} (h : List.range full.size = l) (hw : wpOps P full Q l a w) : (Code.region id full false).wp P Q a w := wp_region (by rw [h]; exact hw)
theorem sq_startW {id : Nat} {l : List Nat} (h : List.range full.size = l) (hw : ∀ u, u = w → wpOps P full Q l a u) : (Code.region id full false).wp P Q a w := sq_start h (hw w rfl)
theorem rest_gone1 {i d : Nat} {r : List Nat} {o : Oper} (ho : full[i]? = some o) (hd : o.dst = some d) (hw : Region.wanted o (yielded full a.tmps) = false) (h : wpOps P full Q r (a.put (some d) undef) w) : wpOps P full Q (i :: r) a w := rest_gone ho hw (by rw [hd]; exact h)
end
/-- A slice without its first k, and its first k. -/
def sdrop : Value → Nat → Value
  | .slice p m c, k => .slice (if c = k then p else p.map (·.add k)) (m - k) (c - k)
  | v, _ => v
section
variable {ρ : Operand → Value} {o : Oper} {x y z : Operand} {t : TypeId} {g off : Nat} {v : Value} {w : World}
end
/-! A slice of which the first i are gone. -/
theorem sdrop_slice (p : Option Addr) (m c k : Nat) : sdrop (.slice p m c) k = .slice (if c = k then p else p.map (·.add k)) (m - k) (c - k) := rfl
theorem Bv.slice {gb o n cp i : Nat} {v : Value} (h : Bv gb o n cp i v) (hi : i ≤ n) : ∃ p c, v = .slice p (n - i) c ∧ n - i ≤ c + (n - cp) := by
  rcases Nat.lt_or_eq_of_le hi with e | e
  · exact ⟨_, _, h.1 e, by omega⟩
  · obtain ⟨p, c, h2⟩ := h.2 e
    exact ⟨p, c, by rw [h2, e, Nat.sub_self], by omega⟩
theorem Bv.drop {gb o n cp i k : Nat} {v : Value} (h : Bv gb o n cp i v) (hle : n ≤ cp) (_hk : i + k ≤ n) : Bv gb o n cp (i + k) (sdrop v k) := by
  refine ⟨fun hlt => ?_, fun he => ?_⟩
  · rw [h.1 (by omega)]
    rw [sdrop_slice]
    rw [if_neg (by omega), Option.map_some, show (⟨gb, o + i, none⟩ : Addr).add k = ⟨gb, o + (i + k), none⟩ by unfold Addr.add; split <;> simp_all [Nat.add_assoc], Nat.sub_sub, Nat.sub_sub]
  · rcases Nat.lt_or_eq_of_le (show i ≤ n by omega) with e | e
    · rw [h.1 e]
      rw [sdrop_slice]
      exact ⟨_, _, by rw [show n - i - k = 0 by omega]⟩
    · obtain ⟨p, c, h2⟩ := h.2 e
      rw [h2]
      rw [sdrop_slice]
      exact ⟨_, _, by rw [Nat.zero_sub]⟩
end Wi
end Rg
end Go.Proofs.YtjadelfdhhjkdaaGreatDoor
end
section
namespace Go.Proofs.YtjadelfdhhjkdaaGreatDoor
open Go.RowKit
namespace Rg
namespace Wi
set_option maxRecDepth 100000
set_option maxHeartbeats 2000000 in
theorem work_n (w : World) : Calls Tryz.prog 18 #[.pointer none] w fun e w' => e = .returned (.bool false) ∧ w' = w := by
  go_enter Tryz.func18, Tryz.ntmps18
  go_wp2
  go_ret
  exact ⟨rfl, rfl⟩
set_option maxHeartbeats 2000000 in
theorem work_z (g : Nat) (w : World) (h : w.cell? ⟨g, 0, none⟩ = some (.slice none 0 0)) : Calls Tryz.prog 18 #[.pointer (some ⟨g, 0, none⟩)] w fun e w' => e = .returned (.bool false) ∧ w' = w := by
  go_enter Tryz.func18, Tryz.ntmps18
  go_wp2
  go_ret
  exact ⟨rfl, rfl⟩
theorem al_old (u : World) (o : Obj) {p : Addr} (hp : p.block < u.heap.size) : (u.alloc o).cell? p = u.cell? p := ((Below.refl _ u).alloc (Nat.le_refl _) o).cell hp
set_option maxHeartbeats 4000000 in
theorem bcount_n (a b c : Value) (D : Array Value) (w : World) : Calls Tryz.prog 7 #[.pointer none, a, b, c, .agg D] w fun e w' => e = .returned (.int .i64 0) ∧ Below w.heap.size w w' := by
  go_enter Tryz.func7, Tryz.ntmps7
  go_wp2_with (first
    | (go_at_call 18; refine (work_n _).mono ?_; rintro e w1 ⟨rfl, rfl⟩)
    | fail)
  go_ret
  first
    | exact ⟨rfl, Below.refl _ _⟩
    | exact ⟨rfl, (Below.refl _ _).alloc (Nat.le_refl _) _⟩
set_option maxHeartbeats 4000000 in
theorem bcount_z (g : Nat) (a b c : Value) (D : Array Value) (w : World) (h : w.cell? ⟨g, 0, none⟩ = some (.slice none 0 0)) (hg : g < w.heap.size) : Calls Tryz.prog 7 #[.pointer (some ⟨g, 0, none⟩), a, b, c, .agg D] w fun e w' => e = .returned (.int .i64 0) ∧ Below w.heap.size w w' := by
  go_enter Tryz.func7, Tryz.ntmps7
  go_wp2_with (first
    | (go_at_call 18; refine (work_z g _ (by first | exact h | exact (al_old _ _ hg).trans h)).mono ?_; rintro e w1 ⟨rfl, rfl⟩)
    | fail)
  go_ret
  first
    | exact ⟨rfl, Below.refl _ _⟩
    | exact ⟨rfl, (Below.refl _ _).alloc (Nat.le_refl _) _⟩
set_option maxHeartbeats 4000000 in
theorem bdoub_n (w : World) : Calls Tryz.prog 8 #[.pointer none] w fun e w' => e = .returned (.slice none 0 0) ∧ Below w.heap.size w w' := by
  go_enter Tryz.func8, Tryz.ntmps8
  go_wp2_with (first
    | (go_at_call 18; refine (work_n _).mono ?_; rintro e w1 ⟨rfl, rfl⟩)
    | fail)
  go_ret
  first
    | exact ⟨rfl, Below.refl _ _⟩
    | exact ⟨rfl, (Below.refl _ _).alloc (Nat.le_refl _) _⟩
set_option maxHeartbeats 4000000 in
theorem bdoub_z (g : Nat) (w : World) (h : w.cell? ⟨g, 0, none⟩ = some (.slice none 0 0)) (hg : g < w.heap.size) : Calls Tryz.prog 8 #[.pointer (some ⟨g, 0, none⟩)] w fun e w' => e = .returned (.slice none 0 0) ∧ Below w.heap.size w w' := by
  go_enter Tryz.func8, Tryz.ntmps8
  go_wp2_with (first
    | (go_at_call 18; refine (work_z g _ (by first | exact h | exact (al_old _ _ hg).trans h)).mono ?_; rintro e w1 ⟨rfl, rfl⟩)
    | fail)
  go_ret
  first
    | exact ⟨rfl, Below.refl _ _⟩
    | exact ⟨rfl, (Below.refl _ _).alloc (Nat.le_refl _) _⟩
set_option maxHeartbeats 4000000 in
theorem bdrop_n (k : Int) (w : World) : Calls Tryz.prog 9 #[.pointer none, .int .i64 k] w fun e w' => e = .returned (.int .i64 0) ∧ Below w.heap.size w w' := by
  go_enter Tryz.func9, Tryz.ntmps9
  go_wp2_with (first
    | (go_at_call 18; refine (work_n _).mono ?_; rintro e w1 ⟨rfl, rfl⟩)
    | fail)
  go_ret
  first
    | exact ⟨rfl, Below.refl _ _⟩
    | exact ⟨rfl, (Below.refl _ _).alloc (Nat.le_refl _) _⟩
set_option maxHeartbeats 4000000 in
theorem bdrop_z (g : Nat) (k : Int) (w : World) (h : w.cell? ⟨g, 0, none⟩ = some (.slice none 0 0)) (hg : g < w.heap.size) : Calls Tryz.prog 9 #[.pointer (some ⟨g, 0, none⟩), .int .i64 k] w fun e w' => e = .returned (.int .i64 0) ∧ Below w.heap.size w w' := by
  go_enter Tryz.func9, Tryz.ntmps9
  go_wp2_with (first
    | (go_at_call 18; refine (work_z g _ (by first | exact h | exact (al_old _ _ hg).trans h)).mono ?_; rintro e w1 ⟨rfl, rfl⟩)
    | fail)
  go_ret
  first
    | exact ⟨rfl, Below.refl _ _⟩
    | exact ⟨rfl, (Below.refl _ _).alloc (Nat.le_refl _) _⟩
set_option maxHeartbeats 4000000 in
theorem blen_n (w : World) : Calls Tryz.prog 10 #[.pointer none] w fun e w' => e = .returned (.int .i64 0) ∧ Below w.heap.size w w' := by
  go_enter Tryz.func10, Tryz.ntmps10
  go_wp2_with (first
    | (go_at_call 18; refine (work_n _).mono ?_; rintro e w1 ⟨rfl, rfl⟩)
    | fail)
  go_ret
  first
    | exact ⟨rfl, Below.refl _ _⟩
    | exact ⟨rfl, (Below.refl _ _).alloc (Nat.le_refl _) _⟩
set_option maxHeartbeats 4000000 in
theorem blen_z (g : Nat) (w : World) (h : w.cell? ⟨g, 0, none⟩ = some (.slice none 0 0)) (hg : g < w.heap.size) : Calls Tryz.prog 10 #[.pointer (some ⟨g, 0, none⟩)] w fun e w' => e = .returned (.int .i64 0) ∧ Below w.heap.size w w' := by
  go_enter Tryz.func10, Tryz.ntmps10
  go_wp2_with (first
    | (go_at_call 18; refine (work_z g _ (by first | exact h | exact (al_old _ _ hg).trans h)).mono ?_; rintro e w1 ⟨rfl, rfl⟩)
    | fail)
  go_ret
  first
    | exact ⟨rfl, Below.refl _ _⟩
    | exact ⟨rfl, (Below.refl _ _).alloc (Nat.le_refl _) _⟩
set_option maxHeartbeats 4000000 in
theorem badd_n (D : Array Value) (w : World) : Calls Tryz.prog 6 #[.pointer none, .agg D] w fun e w' => e = .returned (.int .i64 1) ∧ Below w.heap.size w w' := by
  go_enter Tryz.func6, Tryz.ntmps6
  go_wp2_with (first
    | (go_at_call 18; refine (work_n _).mono ?_; rintro e w1 ⟨rfl, rfl⟩)
    | fail)
  go_ret
  first
    | exact ⟨rfl, Below.refl _ _⟩
    | exact ⟨rfl, (Below.refl _ _).alloc (Nat.le_refl _) _⟩
set_option maxHeartbeats 4000000 in
theorem badd_z (g : Nat) (D : Array Value) (w : World) (h : w.cell? ⟨g, 0, none⟩ = some (.slice none 0 0)) (hg : g < w.heap.size) : Calls Tryz.prog 6 #[.pointer (some ⟨g, 0, none⟩), .agg D] w fun e w' => e = .returned (.int .i64 1) ∧ Below w.heap.size w w' := by
  go_enter Tryz.func6, Tryz.ntmps6
  go_wp2_with (first
    | (go_at_call 18; refine (work_z g _ (by first | exact h | exact (al_old _ _ hg).trans h)).mono ?_; rintro e w1 ⟨rfl, rfl⟩)
    | fail)
  go_ret
  first
    | exact ⟨rfl, Below.refl _ _⟩
    | exact ⟨rfl, (Below.refl _ _).alloc (Nat.le_refl _) _⟩
end Wi
end Rg
end Go.Proofs.YtjadelfdhhjkdaaGreatDoor
end
