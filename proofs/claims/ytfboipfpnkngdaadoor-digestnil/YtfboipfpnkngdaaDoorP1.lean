/- Texts of the proof, joined. -/
import Derived.Orders
import Derived.RegionTactic
import Derived.Below
import Derived.Laws.IdiomCopy
import Derived.Laws.NewBlocks
import Derived.Test.YtfboipfpnkngdaaDoorProg
import Derived.Laws.BytesArg
import Derived.Laws.Bits64b
import Derived.Laws.Shifts
import Derived.Laws.Unary
import Derived.ChangeKeysEq
import Derived.Laws.Build
import Derived.Laws.Pointers
import Derived.LoopN
import Derived.Deep.OwnRows
import Derived.Deep.RegionHeld3
import Derived.WalkKit
import Derived.WalkSmall
import Derived.WalkSpells
import Derived.BigQuiet
import Derived.Lib.Walk
import Derived.Lib.Small
import Derived.Lib.Slices
import Derived.Lib.Strings
import Derived.LaidMore
import Derived.Stop.Joined
import Derived.Lib.LaidTab
import Derived.ProofKit
import Derived.OpenShut
import Derived.ChangeSlices
import Derived.Test.YtfboipfpnkngdaaDoorRows
import Derived.Test.YtfboipfpnkngdaaDoorTie
section
namespace Go.Proofs.YtfboipfpnkngdaaDoor
open Go.RowKit
/-- What an operation of the region is: it tells a value and leaves the world; its guard shuts it out; it calls, and the answer is a value; it makes a block of these cells; it lays these cells into the block that operation j made of those. -/
def Kind : Type := ((Value)) ⊕ (Unit) ⊕ ((Value)) ⊕ ((List Value) × (TypeId)) ⊕ ((Nat) × (List Value) × (List Value))
abbrev Kind.quiet (v : Value) : Kind := Sum.inl v
abbrev Kind.gone : Kind := Sum.inr (Sum.inl ())
abbrev Kind.call (v : Value) : Kind := Sum.inr (Sum.inr (Sum.inl v))
abbrev Kind.made (zs : List Value) (t : TypeId) : Kind := Sum.inr (Sum.inr (Sum.inr (Sum.inl (zs, t))))
abbrev Kind.laid (j : Nat) (zs : List Value) (cs : List Value) : Kind := Sum.inr (Sum.inr (Sum.inr (Sum.inr (j, zs, cs))))
theorem Kind.each {M : Kind → Prop} (quiet : ∀ (v : Value), M (Kind.quiet v)) (gone : M Kind.gone) (call : ∀ (v : Value), M (Kind.call v)) (made : ∀ (zs : List Value) (t : TypeId), M (Kind.made zs t)) (laid : ∀ (j : Nat) (zs : List Value) (cs : List Value), M (Kind.laid j zs cs)) (k : Kind) : M k := by
  rcases k with v | _ | v | ⟨x0, x1⟩ | ⟨x0, x1, x2⟩
  · exact quiet _
  · exact gone
  · exact call _
  · exact made _ _
  · exact laid _ _ _
theorem Kind.madeInj {zs zs' : List Value} {t t' : TypeId} (h : Kind.made zs t = Kind.made zs' t') : zs = zs' ∧ t = t' := by
  have h' := Sum.inl.inj (Sum.inr.inj (Sum.inr.inj (Sum.inr.inj h)))
  exact ⟨congrArg (fun x => x.1) h', congrArg (fun x => x.2) h'⟩
theorem Kind.laidInj {j j' : Nat} {zs zs' : List Value} {cs cs' : List Value} (h : Kind.laid j zs cs = Kind.laid j' zs' cs') : j = j' ∧ zs = zs' ∧ cs = cs' := by
  have h' := Sum.inr.inj (Sum.inr.inj (Sum.inr.inj (Sum.inr.inj h)))
  exact ⟨congrArg (fun x => x.1) h', congrArg (fun x => x.2.1) h', congrArg (fun x => x.2.2) h'⟩
/-- What lies in its slot behind it; γ i: the block that operation i made. -/
def Kind.val (γ : Nat → Nat) (i : Nat) : Kind → Value
  | (Sum.inl v) => v
  | (Sum.inr (Sum.inl ())) => undef
  | (Sum.inr (Sum.inr (Sum.inl v))) => v
  | (Sum.inr (Sum.inr (Sum.inr (Sum.inl (_, _))))) => .pointer (some ⟨γ i, 0, none⟩)
  | (Sum.inr (Sum.inr (Sum.inr (Sum.inr (_, _, _))))) => undef
/-- The frame behind the region. -/
def fill (γ : Nat → Nat) : Nat → List Oper → List Kind → Act → Act
  | i, o :: os, k :: ks, a => fill γ (i + 1) os ks (a.put o.dst (k.val γ i))
  | _, _, _, a => a
theorem put_size (a : Act) (d : Option Tmp) (v : Value) : (a.put d v).tmps.size = a.tmps.size := by
  cases d <;> simp [Act.put]
theorem put_defers' (a : Act) (d : Option Tmp) (v : Value) : (a.put d v).defers = a.defers := by
  cases d <;> rfl
theorem put_other (a : Act) (x : Option Tmp) (v : Value) (d : Tmp) (h : x ≠ some d) : (a.put x v).tmps[d]? = a.tmps[d]? := by
  cases x with
  | none => rfl
  | some e => exact Array.getElem?_setIfInBounds_ne (fun he => h (by rw [he]))
theorem put_same (a : Act) (v : Value) (d : Tmp) (h : d < a.tmps.size) : (a.put (some d) v).tmps[d]? = some v := by
  simp [Act.put, h]
theorem fill_defers (γ : Nat → Nat) : ∀ (i : Nat) (os : List Oper) (ks : List Kind) (a : Act), (fill γ i os ks a).defers = a.defers
  | _, [], _, _ => rfl
  | _, _ :: _, [], _ => rfl
  | i, o :: os, k :: ks, a => by
    unfold fill
    rw [fill_defers γ (i + 1) os ks, put_defers']
theorem fill_other (γ : Nat → Nat) (d : Tmp) : ∀ (i : Nat) (os : List Oper) (ks : List Kind) (a : Act), (∀ o ∈ os, o.dst ≠ some d) → (fill γ i os ks a).tmps[d]? = a.tmps[d]?
  | _, [], _, _, _ => rfl
  | _, _ :: _, [], _, _ => rfl
  | i, o :: os, k :: ks, a, h => by
    unfold fill
    rw [fill_other γ d (i + 1) os ks _ (fun o' ho => h o' (List.mem_cons_of_mem _ ho)), put_other _ _ _ _ (h o (List.mem_cons_self ..))]
theorem fill_at (γ : Nat → Nat) (d : Tmp) (o : Oper) (k : Kind) (hd : o.dst = some d) : ∀ (j i : Nat) (os : List Oper) (ks : List Kind) (a : Act), os[j]? = some o → ks[j]? = some k → d < a.tmps.size →
    (∀ j' o', j < j' → os[j']? = some o' → o'.dst ≠ some d) → (fill γ i os ks a).tmps[d]? = some (k.val γ (i + j))
  | _, _, [], _, _, h, _, _, _ => by simp at h
  | _, _, _ :: _, [], _, _, h, _, _ => by simp at h
  | 0, i, o' :: os, k' :: ks, a, ho, hk, hs, hl => by
    simp at ho hk
    subst ho hk
    unfold fill
    rw [fill_other γ d (i + 1) os ks _ (fun o2 ho2 => ?_), hd, put_same _ _ _ hs]
    · rfl
    · obtain ⟨m, hm, e⟩ := List.getElem_of_mem ho2
      exact hl (m + 1) o2 (by omega) (by rw [List.getElem?_cons_succ, List.getElem?_eq_getElem hm, e])
  | j + 1, i, o' :: os, k' :: ks, a, ho, hk, hs, hl => by
    unfold fill
    rw [fill_at γ d o k hd j (i + 1) os ks _ (by simpa using ho) (by simpa using hk) (by rw [put_size]; exact hs) (fun j' o2 h1 h2 => hl (j' + 1) o2 (by omega) (by simpa using h2))]
    rw [show i + 1 + j = i + (j + 1) by omega]
/-- Block g of w holds these cells, and they may be written. -/
def Blk (w : World) (g : Nat) (cs : List Value) : Prop := ∀ j v, cs[j]? = some v → w.cell? ⟨g, j, none⟩ = some v ∧ w.frozen? ⟨g, j, none⟩ = false
theorem Blk.below {w w' : World} {B g : Nat} {cs : List Value} (h : Blk w g cs) (hb : Below B w w') (hg : g < B) : Blk w' g cs := fun j v hv =>
  ⟨by rw [hb.cell (p := ⟨g, j, none⟩) hg]; exact (h j v hv).1, by rw [hb.frozen (p := ⟨g, j, none⟩) hg]; exact (h j v hv).2⟩
theorem Blk.alloc {w : World} {g : Nat} {cs : List Value} (h : Blk w g cs) (hg : g < w.heap.size) (o : Obj) : Blk (w.alloc o) g cs := fun j v hv =>
  ⟨by rw [World.cell?_alloc_past _ _ _ hg]; exact (h j v hv).1, by rw [World.frozen?_alloc_past _ _ _ hg]; exact (h j v hv).2⟩
theorem Blk.new (w : World) (cs : List Value) (t : TypeId) : Blk (w.alloc (.cells cs.toArray t)) w.heap.size cs := fun j v hv =>
  ⟨by rw [World.cell?_alloc_at _ _ _ _ rfl]; simpa using hv, World.frozen?_alloc_at _ _ _ _ rfl⟩
theorem Blk.laid {w : World} {g : Nat} {zs cs : List Value} (h : Blk w g zs) (hl : zs.length = cs.length) : Blk (w.setCells g 0 cs) g cs := fun j v hv => by
  obtain ⟨hj, e⟩ := List.getElem?_eq_some_iff.1 hv
  have hz : zs[j]? = some (zs[j]'(by omega)) := List.getElem?_eq_getElem _
  refine ⟨?_, by rw [World.frozen?_setCells]; exact (h j _ hz).2⟩
  have := World.cell?_setCells_in g cs 0 w (fun i hi => by
    have := (h i _ (List.getElem?_eq_getElem (show i < zs.length by omega))).1
    rw [Nat.zero_add, this]; rfl) j hj
  rw [Nat.zero_add] at this
  rw [this, e]
theorem Blk.other {w : World} {g g' : Nat} {cs cs' : List Value} (h : Blk w g cs) (hg : g ≠ g') : Blk (w.setCells g' 0 cs') g cs := fun j v hv =>
  ⟨by rw [World.cell?_setCells_out g' cs' 0 w _ (fun e => absurd e hg)]; exact (h j v hv).1, by rw [World.frozen?_setCells]; exact (h j v hv).2⟩
theorem size_setCells (g : Nat) : ∀ (cs : List Value) (o : Nat) (w : World), (w.setCells g o cs).heap.size = w.heap.size
  | [], _, _ => rfl
  | v :: r, o, w => by rw [World.setCells, size_setCells g r, World.size_setCell]
theorem below_setCells {B : Nat} {w0 : World} (g : Nat) (hg : B ≤ g) : ∀ (cs : List Value) (o : Nat) (w : World), Below B w0 w → Below B w0 (w.setCells g o cs)
  | [], _, _, h => h
  | v :: r, o, w, h => by
    rw [World.setCells]
    exact below_setCells g hg r (o + 1) _ (h.setCell (p := ⟨g, o, none⟩) hg v)
section
variable {P : Program} {ops : Array Oper} {ks : List Kind} {a₀ : Act} {w₀ : World} {Q : Exit → Act → World → Prop}
/-- What is known of the memory when the operations l have come up. -/
structure Mem (ks : List Kind) (w₀ : World) (l : Array Bool) (γ : Nat → Nat) (w : World) : Prop where
  below : Below w₀.heap.size w₀ w
  made : ∀ i zs t, ks[i]? = some (.made zs t) → l.getD i false = true → w₀.heap.size ≤ γ i ∧ γ i < w.heap.size
  raw : ∀ i zs t, ks[i]? = some (.made zs t) → l.getD i false = true → (∀ s zs' cs, ks[s]? = some (.laid i zs' cs) → l.getD s false = false) → Blk w (γ i) zs
  full : ∀ s i zs cs, ks[s]? = some (.laid i zs cs) → l.getD s false = true → Blk w (γ i) cs ∧ γ i < w.heap.size
  order : ∀ s i zs cs, ks[s]? = some (.laid i zs cs) → l.getD s false = true → l.getD i false = true
  apart : ∀ i j zs t zs' t', ks[i]? = some (.made zs t) → ks[j]? = some (.made zs' t') → l.getD i false = true → l.getD j false = true → i ≠ j → γ i ≠ γ j
/-- What is to be shown of an operation. -/
def KindOk (P : Program) (ops : Array Oper) (S : World → Prop) (F : (Nat → Nat) → Act) (o : Oper) : Kind → Prop
  | (Sum.inl v) => ∀ γ, Region.wanted o (yielded ops (F γ).tmps) = true ∧ ∀ w, S w → (execOp (F γ).eval o).run P w = .ok (.value v) w
  | (Sum.inr (Sum.inl ())) => ∀ γ, Region.wanted o (yielded ops (F γ).tmps) = false
  | (Sum.inr (Sum.inr (Sum.inl v))) => ∀ γ, Region.wanted o (yielded ops (F γ).tmps) = true ∧ ∀ w, S w → ∃ f args, (execOp (F γ).eval o).run P w = .ok (.enter f args) w ∧ Calls P f args w (fun e w' => e = .returned v ∧ Below w.heap.size w w')
  | (Sum.inr (Sum.inr (Sum.inr (Sum.inl (zs, t))))) => ∀ γ, Region.wanted o (yielded ops (F γ).tmps) = true ∧ ∀ w, (execOp (F γ).eval o).run P w = .ok (.value (.pointer (some ⟨w.heap.size, 0, none⟩))) (w.alloc (.cells zs.toArray t))
  | (Sum.inr (Sum.inr (Sum.inr (Sum.inr (j, zs, cs))))) => ∀ γ, Region.wanted o (yielded ops (F γ).tmps) = true ∧ o.dst = none ∧ zs.length = cs.length ∧ ∀ w, Blk w (γ j) zs → (execOp (F γ).eval o).run P w = .ok .skip (w.setCells (γ j) 0 cs)
def AllOk (P : Program) (ops : Array Oper) (S : World → Prop) (F : (Nat → Nat) → Act) : List Oper → List Kind → Prop
  | o :: os, k :: ks => KindOk P ops S F o k ∧ AllOk P ops S F os ks
  | _, _ => True
theorem AllOk.at {S : World → Prop} {F : (Nat → Nat) → Act} : ∀ {os : List Oper} {ks : List Kind}, AllOk P ops S F os ks → ∀ {i : Nat} {o : Oper} {k : Kind}, os[i]? = some o → ks[i]? = some k → KindOk P ops S F o k
  | [], _, _, _, _, _, h, _ => by simp at h
  | _ :: _, [], _, _, _, _, _, h => by simp at h
  | o' :: os, k' :: ks, h, 0, o, k, ho, hk => by simp at ho hk; subst ho hk; exact h.1
  | o' :: os, k' :: ks, h, i + 1, o, k, ho, hk => AllOk.at (os := os) (ks := ks) h.2 (by simpa using ho) (by simpa using hk)
/-- Who waits for operation j. -/
def waits (o : Oper) (j : Nat) : Bool := o.after.any fun e => Region.binds .any e && e.on == j
def eachOp (ops : Array Oper) (p : Nat → Oper → Bool) : Bool := (List.range ops.size).all fun i => match ops[i]? with | none => true | some o => p i o
theorem eachOp_spec {p : Nat → Oper → Bool} (h : eachOp ops p = true) {i : Nat} {o : Oper} (ho : ops[i]? = some o) : p i o = true := by
  have hi : i < ops.size := (Array.getElem?_eq_some_iff.1 ho).1
  have := List.all_eq_true.1 h i (List.mem_range.2 hi)
  rw [ho] at this
  exact this
/-- The region is such that what it says of the order suffices: nobody waits for a later one; every slot is there; who looks at a slot waits for all that write it; no slot is written twice; who lays cells waits for the block's maker, and nobody else lays there. -/
def orderly (ops : Array Oper) (ks : List Kind) (n : Nat) : Bool :=
  Region.noSelect ops && ks.length == ops.size &&
  eachOp ops (fun i o => o.after.all fun e => !Region.binds .any e || decide (e.on < i)) &&
  eachOp ops (fun _ o => match o.dst with | none => true | some d => decide (d < n)) &&
  eachOp ops (fun _ o => (o.looksAt ops).all fun d => eachOp ops fun j oj => oj.dst != some d || waits o j) &&
  eachOp ops (fun i o => match o.dst with | none => true | some d => eachOp ops fun j oj => j == i || oj.dst != some d) &&
  eachOp ops (fun i o => match ks[i]? with | some ((Sum.inr (Sum.inr (Sum.inr (Sum.inr (j, _, _)))))) => waits o j && eachOp ops fun s _ => s == i || (match ks[s]? with | some ((Sum.inr (Sum.inr (Sum.inr (Sum.inr (j', _, _)))))) => j' != j | _ => true) | _ => true)
structure Orderly (ops : Array Oper) (ks : List Kind) (n : Nat) : Prop where
  noSelect : Region.noSelect ops = true
  size : ks.length = ops.size
  up : ∀ {i : Nat} {o : Oper}, ops[i]? = some o → ∀ e ∈ o.after, Region.binds .any e = true → e.on < i
  dst : ∀ {i : Nat} {o : Oper} {d : Tmp}, ops[i]? = some o → o.dst = some d → d < n
  looks : ∀ {i : Nat} {o : Oper} {d : Tmp} {j : Nat} {oj : Oper}, ops[i]? = some o → d ∈ o.looksAt ops → ops[j]? = some oj → oj.dst = some d → waits o j = true
  once : ∀ {i : Nat} {o : Oper} {d : Tmp} {j : Nat} {oj : Oper}, ops[i]? = some o → o.dst = some d → ops[j]? = some oj → oj.dst = some d → j = i
  laid : ∀ {i : Nat} {o : Oper} {j : Nat} {zs cs : List Value}, ops[i]? = some o → ks[i]? = some (.laid j zs cs) → waits o j = true
  lone : ∀ {i : Nat} {o : Oper} {j : Nat} {zs cs : List Value} {s : Nat} {zs' cs' : List Value}, ops[i]? = some o → ks[i]? = some (.laid j zs cs) → ks[s]? = some (.laid j zs' cs') → s = i
theorem Orderly.of {n : Nat} (h : orderly ops ks n = true) : Orderly ops ks n := by
  unfold orderly at h
  simp only [Bool.and_eq_true] at h
  obtain ⟨⟨⟨⟨⟨⟨h1, h2⟩, h3⟩, h4⟩, h5⟩, h6⟩, h7⟩ := h
  have hsz : ks.length = ops.size := by simpa using h2
  refine ⟨h1, hsz, ?_, ?_, ?_, ?_, ?_, ?_⟩
  · intro i o ho e he hb
    have := eachOp_spec h3 ho
    have := Array.all_eq_true_iff_forall_mem.1 this e he
    simpa [hb] using this
  · intro i o d ho hd
    have := eachOp_spec h4 ho
    rw [hd] at this
    simpa using this
  · intro i o d j oj ho hd hj hdj
    have := eachOp_spec (List.all_eq_true.1 (eachOp_spec h5 ho) d hd) hj
    simpa [hdj] using this
  · intro i o d j oj ho hd hj hdj
    have := eachOp_spec h6 ho
    rw [hd] at this
    have := eachOp_spec this hj
    simpa [hdj] using this
  · intro i o j zs cs ho hk
    have := eachOp_spec h7 ho
    rw [hk] at this
    simp only [Bool.and_eq_true] at this
    exact this.1
  · intro i o j zs cs s zs' cs' ho hk hs
    have := eachOp_spec h7 ho
    rw [hk] at this
    simp only [Bool.and_eq_true] at this
    have hlt : s < ops.size := by rw [← hsz]; exact (List.getElem?_eq_some_iff.1 hs).1
    have := eachOp_spec this.2 (Array.getElem?_eq_getElem hlt)
    rw [hs] at this
    simpa using this
def LaidOk (all : List Kind) : List Kind → Prop
  | [] => True
  | (Sum.inr (Sum.inr (Sum.inr (Sum.inr (j, zs, _))))) :: r => (∃ t, all[j]? = some (.made zs t)) ∧ LaidOk all r
  | _ :: r => LaidOk all r
theorem LaidOk.at {all : List Kind} : ∀ {r : List Kind}, LaidOk all r → ∀ {s j : Nat} {zs cs : List Value}, r[s]? = some (.laid j zs cs) → ∃ t, all[j]? = some (.made zs t)
  | [], _, _, _, _, _, h => by simp at h
  | k :: r, hl, 0, j, zs, cs, h => by
    simp at h
    subst h
    exact hl.1
  | k :: r, hl, s + 1, j, zs, cs, h => by
    have hr : LaidOk all r := by
      cases k using Kind.each <;> first | exact hl | exact hl.2
    exact hr.at (s := s) (by simpa using h)
theorem waits_spec {o : Oper} {j : Nat} (h : waits o j = true) {l : Array Bool} (hl : ∀ e ∈ o.after, Region.binds .any e = true → l.getD e.on false = true) : l.getD j false = true := by
  unfold waits at h
  obtain ⟨e, he, hb⟩ := Array.any_eq_true'.1 h
  simp only [Bool.and_eq_true, beq_iff_eq] at hb
  rw [← hb.2]
  exact hl e he hb.1
structure Agree (ops : Array Oper) (ks : List Kind) (a₀ : Act) (l : Array Bool) (γ : Nat → Nat) (a : Act) : Prop where
  defers : a.defers = a₀.defers
  size : a.tmps.size = a₀.tmps.size
  slots : ∀ d, (∀ i o, ops[i]? = some o → o.dst = some d → l.getD i false = true) → a.tmps[d]? = (fill γ 0 ops.toList ks a₀).tmps[d]?
theorem kind_at {n : Nat} (hO : Orderly ops ks n) {i : Nat} {o : Oper} (ho : ops[i]? = some o) : ∃ k, ks[i]? = some k := by
  have hi : i < ops.size := (Array.getElem?_eq_some_iff.1 ho).1
  exact ⟨_, List.getElem?_eq_getElem (by rw [hO.size]; exact hi)⟩
theorem fill_one {n : Nat} (hO : Orderly ops ks n) (hn : n = a₀.tmps.size) (γ : Nat → Nat) {i : Nat} {o : Oper} {k : Kind} {d : Tmp} (ho : ops[i]? = some o) (hk : ks[i]? = some k) (hd : o.dst = some d) :
    (fill γ 0 ops.toList ks a₀).tmps[d]? = some (k.val γ i) := by
  have := fill_at γ d o k hd i 0 ops.toList ks a₀ (by simpa using ho) hk (by rw [← hn]; exact hO.dst ho hd) (fun j' o' hlt ho' hd' => by
    have := hO.once ho hd (by simpa using ho' : ops[j']? = some o') hd'
    omega)
  rw [Nat.zero_add] at this
  exact this
theorem Agree.step {n : Nat} (hO : Orderly ops ks n) (hn : n = a₀.tmps.size) {l : Array Bool} {γ γ' : Nat → Nat} {a : Act} (h : Agree ops ks a₀ l γ a) {i : Nat} {o : Oper} {k : Kind} (ho : ops[i]? = some o) (hk : ks[i]? = some k)
    (hγ : ∀ j, j ≠ i → γ' j = γ j) : Agree ops ks a₀ (l.setIfInBounds i true) γ' (a.put o.dst (k.val γ' i)) := by
  refine ⟨by rw [put_defers']; exact h.defers, by rw [put_size]; exact h.size, fun d hd => ?_⟩
  by_cases e : o.dst = some d
  · rw [fill_one hO hn γ' ho hk e, e, put_same _ _ _ (by rw [h.size, ← hn]; exact hO.dst ho e)]
  · rw [put_other _ _ _ _ e, h.slots d (fun j oj hj hdj => by
      have hne : i ≠ j := fun he => by subst he; rw [ho] at hj; injection hj with hj; subst hj; exact e hdj
      have := hd j oj hj hdj
      rw [getD_set_ne false hne] at this
      exact this)]
    by_cases hw : ∃ (j : Nat) (oj : Oper), ops[j]? = some oj ∧ oj.dst = some d
    · obtain ⟨j, oj, hj, hdj⟩ := hw
      obtain ⟨kj, hkj⟩ := kind_at hO hj
      have hne : j ≠ i := fun he => by subst he; rw [ho] at hj; injection hj with hj; subst hj; exact e hdj
      rw [fill_one hO hn γ hj hkj hdj, fill_one hO hn γ' hj hkj hdj]
      cases kj using Kind.each <;> first | rfl | (show some (Value.pointer _) = some (Value.pointer _); rw [hγ j hne])
    · have hno : ∀ o' ∈ ops.toList, o'.dst ≠ some d := fun o' ho' hd' => by
        obtain ⟨j, hj, ej⟩ := List.getElem_of_mem ho'
        exact hw ⟨j, o', by rw [← Array.getElem?_toList, List.getElem?_eq_getElem hj, ej], hd'⟩
      rw [fill_other γ d 0 _ _ _ hno, fill_other γ' d 0 _ _ _ hno]
/-- An operation that may come up sees what it will have seen in the end. -/
theorem Agree.sees {n : Nat} (hO : Orderly ops ks n) {l : Array Bool} {γ : Nat → Nat} {a : Act} (h : Agree ops ks a₀ l γ a) {i : Nat} {o : Oper} (ho : ops[i]? = some o)
    (hl : ∀ e ∈ o.after, Region.binds .any e = true → l.getD e.on false = true) :
    execOp a.eval o = execOp (fill γ 0 ops.toList ks a₀).eval o ∧ Region.wanted o (yielded ops a.tmps) = Region.wanted o (yielded ops (fill γ 0 ops.toList ks a₀).tmps) := by
  have hs : ∀ d ∈ o.looksAt ops, a.tmps[d]? = (fill γ 0 ops.toList ks a₀).tmps[d]? := fun d hd =>
    h.slots d (fun j oj hj hdj => waits_spec (hO.looks ho hd hj hdj) hl)
  refine ⟨execOp_congr o (fun cs b => Region.noSelect_spec hO.noSelect i o cs b ho) (fun x hx => ?_), ?_⟩
  · cases x with
    | tmp t =>
      have := hs t (List.mem_append_left _ (List.mem_filterMap.2 ⟨.tmp t, by simpa using hx, rfl⟩))
      simp only [Act.eval, Array.getD_eq_getD_getElem?, this]
    | _ => rfl
  · unfold Region.wanted
    cases hg : o.guard with
    | none => rfl
    | some gw =>
      obtain ⟨g, want⟩ := gw
      have hy : yielded ops a.tmps g = yielded ops (fill γ 0 ops.toList ks a₀).tmps g := by
        unfold yielded
        cases ht : (ops[g]?).bind (·.dst) with
        | none => rfl
        | some t =>
          have := hs t (by simp [Oper.looksAt, hg, ht])
          simp only [Option.bind_some, this]
      simp only [hy]
theorem Agree.whole {l : Array Bool} {γ : Nat → Nat} {a : Act} (h : Agree ops ks a₀ l γ a) (hl : ∀ i, i < ops.size → l.getD i false = true) : a = fill γ 0 ops.toList ks a₀ := by
  have ht : a.tmps = (fill γ 0 ops.toList ks a₀).tmps := Array.ext_getElem? fun d =>
    h.slots d (fun i o ho _ => hl i (Array.getElem?_eq_some_iff.1 ho).1)
  have hd : a.defers = (fill γ 0 ops.toList ks a₀).defers := by rw [h.defers, fill_defers]
  cases a
  cases hf : fill γ 0 ops.toList ks a₀
  rw [hf] at ht hd
  simp only at ht hd
  rw [ht, hd]
/-! The memory, step by step. -/
theorem getD_true {l : Array Bool} {i j : Nat} (h : l.getD j false = true) : (l.setIfInBounds i true).getD j false = true := by
  by_cases e : i = j
  · subst e
    have hi : i < l.size := by
      rcases Nat.lt_or_ge i l.size with h' | h'
      · exact h'
      · simp [Array.getElem?_eq_none h'] at h
    simp [hi]
  · rw [getD_set_ne false e]; exact h
theorem getD_same {l : Array Bool} {i : Nat} (h : l.getD i true = false) : l.getD i false = false ∧ (l.setIfInBounds i true).getD i false = true := by
  rcases Nat.lt_or_ge i l.size with h' | h'
  · simp [h'] at h
    simp [h', h]
  · simp [Array.getElem?_eq_none h'] at h
theorem Mem.still {l : Array Bool} {γ : Nat → Nat} {w w' : World} (h : Mem ks w₀ l γ w) (hb : Below w.heap.size w w') {i : Nat} {k : Kind} (hk : ks[i]? = some k) (h1 : ∀ zs t, k ≠ .made zs t) (h2 : ∀ j zs cs, k ≠ .laid j zs cs) :
    Mem ks w₀ (l.setIfInBounds i true) γ w' := by
  have ne1 : ∀ j zs t, ks[j]? = some (.made zs t) → i ≠ j := fun j zs t hj he => by subst he; rw [hk] at hj; injection hj with hj; exact h1 _ _ hj
  have ne2 : ∀ s j zs cs, ks[s]? = some (.laid j zs cs) → i ≠ s := fun s j zs cs hj he => by subst he; rw [hk] at hj; injection hj with hj; exact h2 _ _ _ hj
  refine ⟨h.below.trans (hb.mono h.below.size), ?_, ?_, ?_, ?_, ?_⟩
  · intro j zs t hj hl
    rw [getD_set_ne false (ne1 j zs t hj)] at hl
    obtain ⟨x, y⟩ := h.made j zs t hj hl
    exact ⟨x, Nat.lt_of_lt_of_le y hb.size⟩
  · intro j zs t hj hl hs
    rw [getD_set_ne false (ne1 j zs t hj)] at hl
    exact (h.raw j zs t hj hl (fun s zs' cs hs' => by have := hs s zs' cs hs'; rwa [getD_set_ne false (ne2 s j zs' cs hs')] at this)).below hb (h.made j zs t hj hl).2
  · intro s j zs cs hs hl
    rw [getD_set_ne false (ne2 s j zs cs hs)] at hl
    exact ⟨(h.full s j zs cs hs hl).1.below hb (h.full s j zs cs hs hl).2, Nat.lt_of_lt_of_le (h.full s j zs cs hs hl).2 hb.size⟩
  · intro s j zs cs hs hl
    rw [getD_set_ne false (ne2 s j zs cs hs)] at hl
    exact getD_true (h.order s j zs cs hs hl)
  · intro x y zs t zs' t' hx hy hlx hly hne
    rw [getD_set_ne false (ne1 x zs t hx)] at hlx
    rw [getD_set_ne false (ne1 y zs' t' hy)] at hly
    exact h.apart x y zs t zs' t' hx hy hlx hly hne
theorem Mem.make {l : Array Bool} {γ : Nat → Nat} {w : World} (h : Mem ks w₀ l γ w) {i : Nat} {zs : List Value} {t : TypeId} (hk : ks[i]? = some (.made zs t)) (hun : l.getD i true = false) :
    Mem ks w₀ (l.setIfInBounds i true) (fun j => if j = i then w.heap.size else γ j) (w.alloc (.cells zs.toArray t)) := by
  obtain ⟨hf, _⟩ := getD_same hun
  have ne2 : ∀ s j zs cs, ks[s]? = some (.laid j zs cs) → i ≠ s := fun s j zs cs hj he => by subst he; rw [hk] at hj; injection hj with hj; cases hj
  have hsz := h.below.size
  refine ⟨h.below.alloc hsz _, ?_, ?_, ?_, ?_, ?_⟩
  · intro j zs' t' hj hl
    by_cases e : j = i
    · subst e
      simp only [if_pos, World.size_alloc]
      omega
    · rw [getD_set_ne false (Ne.symm e)] at hl
      have := h.made j zs' t' hj hl
      simp only [if_neg e, World.size_alloc]
      omega
  · intro j zs' t' hj hl hs
    by_cases e : j = i
    · subst e
      rw [hk] at hj
      injection hj with hj
      obtain ⟨hj, _⟩ := Kind.madeInj hj
      subst hj
      simp only [if_pos]
      exact Blk.new w zs t
    · rw [getD_set_ne false (Ne.symm e)] at hl
      simp only [if_neg e]
      exact (h.raw j zs' t' hj hl (fun s z c hs' => by have := hs s z c hs'; rwa [getD_set_ne false (ne2 s j z c hs')] at this)).alloc (h.made j zs' t' hj hl).2 _
  · intro s j z c hs hl
    rw [getD_set_ne false (ne2 s j z c hs)] at hl
    have e : j ≠ i := fun he => by have := h.order s j z c hs hl; rw [he, hf] at this; cases this
    have := h.full s j z c hs hl
    simp only [if_neg e, World.size_alloc]
    exact ⟨this.1.alloc this.2 _, by omega⟩
  · intro s j z c hs hl
    rw [getD_set_ne false (ne2 s j z c hs)] at hl
    exact getD_true (h.order s j z c hs hl)
  · intro x y zs1 t1 zs2 t2 hx hy hlx hly hne
    by_cases ex : x = i
    · have ey : y ≠ i := fun he => hne (by rw [ex, he])
      rw [getD_set_ne false (Ne.symm ey)] at hly
      have := h.made y zs2 t2 hy hly
      simp only [if_pos ex, if_neg ey]
      omega
    · rw [getD_set_ne false (Ne.symm ex)] at hlx
      by_cases ey : y = i
      · have := h.made x zs1 t1 hx hlx
        simp only [if_pos ey, if_neg ex]
        omega
      · rw [getD_set_ne false (Ne.symm ey)] at hly
        simp only [if_neg ex, if_neg ey]
        exact h.apart x y zs1 t1 zs2 t2 hx hy hlx hly hne
theorem Mem.lay {n : Nat} (hO : Orderly ops ks n) (hL : LaidOk ks ks) {l : Array Bool} {γ : Nat → Nat} {w : World} (h : Mem ks w₀ l γ w) {s i : Nat} {o : Oper} {zs cs : List Value} (ho : ops[s]? = some o) (hk : ks[s]? = some (.laid i zs cs)) (hlen : zs.length = cs.length)
    (hun : l.getD s true = false) (hli : l.getD i false = true) : Blk w (γ i) zs ∧ Mem ks w₀ (l.setIfInBounds s true) γ (w.setCells (γ i) 0 cs) := by
  obtain ⟨hf, hset⟩ := getD_same hun
  obtain ⟨t, hmi⟩ := hL.at hk
  have ne1 : ∀ j zs t, ks[j]? = some (.made zs t) → s ≠ j := fun j zs t hj he => by subst he; rw [hk] at hj; injection hj with hj; cases hj
  have hraw : Blk w (γ i) zs := h.raw i zs t hmi hli (fun s' z c hs' => by rw [hO.lone ho hk hs']; exact hf)
  refine ⟨hraw, below_setCells _ (h.made i zs t hmi hli).1 _ _ _ h.below, ?_, ?_, ?_, ?_, ?_⟩
  · intro j zs' t' hj hl
    rw [getD_set_ne false (ne1 j zs' t' hj)] at hl
    rw [size_setCells]
    exact h.made j zs' t' hj hl
  · intro j zs' t' hj hl hs
    rw [getD_set_ne false (ne1 j zs' t' hj)] at hl
    have e : j ≠ i := fun he => by
      subst he
      have := hs s zs cs hk
      rw [hset] at this
      cases this
    refine (h.raw j zs' t' hj hl (fun s' z c hs' => ?_)).other (h.apart j i zs' t' zs t hj hmi hl hli e)
    have := hs s' z c hs'
    cases hb : l.getD s' false with
    | false => rfl
    | true => rw [getD_true hb] at this; exact this
  · intro s' j z c hs' hl
    rw [size_setCells]
    by_cases e : s' = s
    · subst e
      rw [hk] at hs'
      injection hs' with hs'
      obtain ⟨e1, e2, e3⟩ := Kind.laidInj hs'
      subst e1 e2 e3
      exact ⟨hraw.laid hlen, (h.made i zs t hmi hli).2⟩
    · rw [getD_set_ne false (Ne.symm e)] at hl
      have hj : j ≠ i := fun he => by
        subst he
        exact e (hO.lone ho hk hs')
      obtain ⟨t', hmj⟩ := hL.at hs'
      have := h.full s' j z c hs' hl
      exact ⟨this.1.other (h.apart j i z t' zs t hmj hmi (h.order s' j z c hs' hl) hli hj), this.2⟩
  · intro s' j z c hs' hl
    by_cases e : s' = s
    · subst e
      rw [hk] at hs'
      injection hs' with hs'
      obtain ⟨e1, _, _⟩ := Kind.laidInj hs'
      subst e1
      exact getD_true hli
    · rw [getD_set_ne false (Ne.symm e)] at hl
      exact getD_true (h.order s' j z c hs' hl)
  · intro x y zs1 t1 zs2 t2 hx hy hlx hly hne
    rw [getD_set_ne false (ne1 x zs1 t1 hx)] at hlx
    rw [getD_set_ne false (ne1 y zs2 t2 hy)] at hly
    exact h.apart x y zs1 t1 zs2 t2 hx hy hlx hly hne
end
end Go.Proofs.YtfboipfpnkngdaaDoor
end
section
namespace Go.Proofs.YtfboipfpnkngdaaDoor
open Go.RowKit
namespace Rg
/-- What an operation of the region is: it tells a value and leaves the world; its guard shuts it out; it calls, and the answer is a value; it makes a block of these cells; it lays these cells into the block that operation j made of those; it calls, and the answer bears a new block of these cells. -/
def Kind : Type := ((Value)) ⊕ (Unit) ⊕ ((Value)) ⊕ ((List Value) × (TypeId)) ⊕ ((Nat) × (List Value) × (List Value)) ⊕ ((Nat → Value) × (List Value)) ⊕ ((Value) × (Nat) × (List Value)) ⊕ ((Nat → Nat → Nat → Value) × (List Value))
abbrev Kind.quiet (v : Value) : Kind := Sum.inl v
abbrev Kind.gone : Kind := Sum.inr (Sum.inl ())
abbrev Kind.call (v : Value) : Kind := Sum.inr (Sum.inr (Sum.inl v))
abbrev Kind.made (zs : List Value) (t : TypeId) : Kind := Sum.inr (Sum.inr (Sum.inr (Sum.inl (zs, t))))
abbrev Kind.laid (j : Nat) (zs : List Value) (cs : List Value) : Kind := Sum.inr (Sum.inr (Sum.inr (Sum.inr (Sum.inl (j, zs, cs)))))
abbrev Kind.born (v : Nat → Value) (cs : List Value) : Kind := Sum.inr (Sum.inr (Sum.inr (Sum.inr (Sum.inr (Sum.inl (v, cs))))))
abbrev Kind.over (v : Value) (j : Nat) (cs : List Value) : Kind := Sum.inr (Sum.inr (Sum.inr (Sum.inr (Sum.inr (Sum.inr (Sum.inl (v, j, cs)))))))
abbrev Kind.bornX (v : Nat → Nat → Nat → Value) (cs : List Value) : Kind := Sum.inr (Sum.inr (Sum.inr (Sum.inr (Sum.inr (Sum.inr (Sum.inr (v, cs)))))))
theorem Kind.each {M : Kind → Prop} (quiet : ∀ (v : Value), M (Kind.quiet v)) (gone : M Kind.gone) (call : ∀ (v : Value), M (Kind.call v)) (made : ∀ (zs : List Value) (t : TypeId), M (Kind.made zs t)) (laid : ∀ (j : Nat) (zs : List Value) (cs : List Value), M (Kind.laid j zs cs)) (born : ∀ (v : Nat → Value) (cs : List Value), M (Kind.born v cs)) (over : ∀ (v : Value) (j : Nat) (cs : List Value), M (Kind.over v j cs)) (bornX : ∀ (v : Nat → Nat → Nat → Value) (cs : List Value), M (Kind.bornX v cs)) (k : Kind) : M k := by
  rcases k with v | _ | v | ⟨x0, x1⟩ | ⟨x0, x1, x2⟩ | ⟨x0, x1⟩ | ⟨x0, x1, x2⟩ | ⟨x0, x1⟩
  · exact quiet _
  · exact gone
  · exact call _
  · exact made _ _
  · exact laid _ _ _
  · exact born _ _
  · exact over _ _ _
  · exact bornX _ _
theorem Kind.laidInj {j j' : Nat} {zs zs' : List Value} {cs cs' : List Value} (h : Kind.laid j zs cs = Kind.laid j' zs' cs') : j = j' ∧ zs = zs' ∧ cs = cs' := by
  have h' := Sum.inl.inj (Sum.inr.inj (Sum.inr.inj (Sum.inr.inj (Sum.inr.inj h))))
  exact ⟨congrArg (fun x => x.1) h', congrArg (fun x => x.2.1) h', congrArg (fun x => x.2.2) h'⟩
/-- What lies in its slot behind it; γ i: the block that operation i made. -/
def Kind.val (γ : Nat → Nat) (i : Nat) : Kind → Value
  | (Sum.inl v) => v
  | (Sum.inr (Sum.inl ())) => undef
  | (Sum.inr (Sum.inr (Sum.inl v))) => v
  | (Sum.inr (Sum.inr (Sum.inr (Sum.inl (_, _))))) => .pointer (some ⟨γ i, 0, none⟩)
  | (Sum.inr (Sum.inr (Sum.inr (Sum.inr (Sum.inl (_, _, _)))))) => undef
  | (Sum.inr (Sum.inr (Sum.inr (Sum.inr (Sum.inr (Sum.inl (v, _))))))) => v (γ i)
  | (Sum.inr (Sum.inr (Sum.inr (Sum.inr (Sum.inr (Sum.inr (Sum.inl (v, _, _)))))))) => v
  | (Sum.inr (Sum.inr (Sum.inr (Sum.inr (Sum.inr (Sum.inr (Sum.inr (v, _)))))))) => v (γ i) (γ (i + 65536)) (γ (i + 131072))
/-- The cells of a block that it makes. -/
def Kind.cells : Kind → Option (List Value)
  | (Sum.inr (Sum.inr (Sum.inr (Sum.inl (zs, _))))) => some zs
  | (Sum.inr (Sum.inr (Sum.inr (Sum.inr (Sum.inr (Sum.inl (_, cs))))))) => some cs
  | (Sum.inr (Sum.inr (Sum.inr (Sum.inr (Sum.inr (Sum.inr (Sum.inr (_, cs)))))))) => some cs
  | _ => none
def fresh (ks : List Kind) (i : Nat) : Option (List Value) := (ks[i]?).bind Kind.cells
/-- The frame behind the region. -/
def fill (γ : Nat → Nat) : Nat → List Oper → List Kind → Act → Act
  | i, o :: os, k :: ks, a => fill γ (i + 1) os ks (a.put o.dst (k.val γ i))
  | _, _, _, a => a
theorem fill_defers (γ : Nat → Nat) : ∀ (i : Nat) (os : List Oper) (ks : List Kind) (a : Act), (fill γ i os ks a).defers = a.defers
  | _, [], _, _ => rfl
  | _, _ :: _, [], _ => rfl
  | i, o :: os, k :: ks, a => by
    unfold fill
    rw [fill_defers γ (i + 1) os ks, put_defers']
theorem fill_other (γ : Nat → Nat) (d : Tmp) : ∀ (i : Nat) (os : List Oper) (ks : List Kind) (a : Act), (∀ o ∈ os, o.dst ≠ some d) → (fill γ i os ks a).tmps[d]? = a.tmps[d]?
  | _, [], _, _, _ => rfl
  | _, _ :: _, [], _, _ => rfl
  | i, o :: os, k :: ks, a, h => by
    unfold fill
    rw [fill_other γ d (i + 1) os ks _ (fun o' ho => h o' (List.mem_cons_of_mem _ ho)), put_other _ _ _ _ (h o (List.mem_cons_self ..))]
theorem fill_at (γ : Nat → Nat) (d : Tmp) (o : Oper) (k : Kind) (hd : o.dst = some d) : ∀ (j i : Nat) (os : List Oper) (ks : List Kind) (a : Act), os[j]? = some o → ks[j]? = some k → d < a.tmps.size →
    (∀ j' o', j < j' → os[j']? = some o' → o'.dst ≠ some d) → (fill γ i os ks a).tmps[d]? = some (k.val γ (i + j))
  | _, _, [], _, _, h, _, _, _ => by simp at h
  | _, _, _ :: _, [], _, _, h, _, _ => by simp at h
  | 0, i, o' :: os, k' :: ks, a, ho, hk, hs, hl => by
    simp at ho hk
    subst ho hk
    unfold fill
    rw [fill_other γ d (i + 1) os ks _ (fun o2 ho2 => ?_), hd, put_same _ _ _ hs]
    · rfl
    · obtain ⟨m, hm, e⟩ := List.getElem_of_mem ho2
      exact hl (m + 1) o2 (by omega) (by rw [List.getElem?_cons_succ, List.getElem?_eq_getElem hm, e])
  | j + 1, i, o' :: os, k' :: ks, a, ho, hk, hs, hl => by
    unfold fill
    rw [fill_at γ d o k hd j (i + 1) os ks _ (by simpa using ho) (by simpa using hk) (by rw [put_size]; exact hs) (fun j' o2 h1 h2 => hl (j' + 1) o2 (by omega) (by simpa using h2))]
    rw [show i + 1 + j = i + (j + 1) by omega]
section
variable {P : Program} {ops : Array Oper} {ks : List Kind} {a₀ : Act} {w₀ : World} {Q : Exit → Act → World → Prop}
/-- What is known of the memory when the operations l have come up. -/
structure Mem (ks : List Kind) (w₀ : World) (l : Array Bool) (γ : Nat → Nat) (w : World) : Prop where
  below : Below w₀.heap.size w₀ w
  made : ∀ i zs, fresh ks i = some zs → l.getD i false = true → w₀.heap.size ≤ γ i ∧ γ i < w.heap.size
  raw : ∀ i zs, fresh ks i = some zs → l.getD i false = true → (∀ s zs' cs, ks[s]? = some (.laid i zs' cs) → l.getD s false = false) → Blk w (γ i) zs
  full : ∀ s i zs cs, ks[s]? = some (.laid i zs cs) → l.getD s false = true → Blk w (γ i) cs ∧ γ i < w.heap.size
  order : ∀ s i zs cs, ks[s]? = some (.laid i zs cs) → l.getD s false = true → l.getD i false = true
  apart : ∀ i j zs zs', fresh ks i = some zs → fresh ks j = some zs' → l.getD i false = true → l.getD j false = true → i ≠ j → γ i ≠ γ j
/-- What is to be shown of an operation. -/
def KindOk (P : Program) (ops : Array Oper) (S : World → Prop) (F : (Nat → Nat) → Act) (o : Oper) : Kind → Prop
  | (Sum.inl v) => ∀ γ, Region.wanted o (yielded ops (F γ).tmps) = true ∧ ∀ w, S w → (execOp (F γ).eval o).run P w = .ok (.value v) w
  | (Sum.inr (Sum.inl ())) => ∀ γ, Region.wanted o (yielded ops (F γ).tmps) = false
  | (Sum.inr (Sum.inr (Sum.inl v))) => ∀ γ, Region.wanted o (yielded ops (F γ).tmps) = true ∧ ∀ w, S w → ∃ f args, (execOp (F γ).eval o).run P w = .ok (.enter f args) w ∧ Calls P f args w (fun e w' => e = .returned v ∧ Below w.heap.size w w')
  | (Sum.inr (Sum.inr (Sum.inr (Sum.inl (zs, t))))) => ∀ γ, Region.wanted o (yielded ops (F γ).tmps) = true ∧ ∀ w, (execOp (F γ).eval o).run P w = .ok (.value (.pointer (some ⟨w.heap.size, 0, none⟩))) (w.alloc (.cells zs.toArray t))
  | (Sum.inr (Sum.inr (Sum.inr (Sum.inr (Sum.inr (Sum.inl (v, cs))))))) => ∀ γ, Region.wanted o (yielded ops (F γ).tmps) = true ∧ ∀ w, S w → ∃ f args, (execOp (F γ).eval o).run P w = .ok (.enter f args) w ∧ Calls P f args w (fun e w' => Below w.heap.size w w' ∧ ∃ g, e = .returned (v g) ∧ w.heap.size ≤ g ∧ g < w'.heap.size ∧ Blk w' g cs)
  | (Sum.inr (Sum.inr (Sum.inr (Sum.inr (Sum.inr (Sum.inr (Sum.inr (v, cs)))))))) => ∀ γ, Region.wanted o (yielded ops (F γ).tmps) = true ∧ ∀ w, S w → ∃ f args, (execOp (F γ).eval o).run P w = .ok (.enter f args) w ∧ Calls P f args w (fun e w' => Below w.heap.size w w' ∧ ∃ g x y, e = .returned (v g x y) ∧ w.heap.size ≤ g ∧ g < w'.heap.size ∧ Blk w' g cs)
  | (Sum.inr (Sum.inr (Sum.inr (Sum.inr (Sum.inr (Sum.inr (Sum.inl (v, j, cs)))))))) => ∀ γ, Region.wanted o (yielded ops (F γ).tmps) = true ∧ ∀ u w, S u → u.heap.size ≤ γ j → S w → Blk w (γ j) cs → γ j < w.heap.size → ∃ f args, (execOp (F γ).eval o).run P w = .ok (.enter f args) w ∧ Calls P f args w (fun e w' => e = .returned v ∧ Below w.heap.size w w')
  | (Sum.inr (Sum.inr (Sum.inr (Sum.inr (Sum.inl (j, zs, cs)))))) => ∀ γ, Region.wanted o (yielded ops (F γ).tmps) = true ∧ o.dst = none ∧ zs.length = cs.length ∧ ∀ w, Blk w (γ j) zs → (execOp (F γ).eval o).run P w = .ok .skip (w.setCells (γ j) 0 cs)
def AllOk (P : Program) (ops : Array Oper) (S : World → Prop) (F : (Nat → Nat) → Act) : List Oper → List Kind → Prop
  | o :: os, k :: ks => KindOk P ops S F o k ∧ AllOk P ops S F os ks
  | _, _ => True
theorem AllOk.at {S : World → Prop} {F : (Nat → Nat) → Act} : ∀ {os : List Oper} {ks : List Kind}, AllOk P ops S F os ks → ∀ {i : Nat} {o : Oper} {k : Kind}, os[i]? = some o → ks[i]? = some k → KindOk P ops S F o k
  | [], _, _, _, _, _, h, _ => by simp at h
  | _ :: _, [], _, _, _, _, _, h => by simp at h
  | o' :: os, k' :: ks, h, 0, o, k, ho, hk => by simp at ho hk; subst ho hk; exact h.1
  | o' :: os, k' :: ks, h, i + 1, o, k, ho, hk => AllOk.at (os := os) (ks := ks) h.2 (by simpa using ho) (by simpa using hk)
/-- The region is such that what it says of the order suffices: nobody waits for a later one; every slot is there; who looks at a slot waits for all that write it; no slot is written twice; who lays cells waits for the block's maker, and nobody else lays there. -/
def orderly (ops : Array Oper) (ks : List Kind) (n : Nat) : Bool :=
  decide (ops.size ≤ 65536) && Region.noSelect ops && ks.length == ops.size &&
  eachOp ops (fun i o => o.after.all fun e => !Region.binds .any e || decide (e.on < i)) &&
  eachOp ops (fun _ o => match o.dst with | none => true | some d => decide (d < n)) &&
  eachOp ops (fun _ o => (o.looksAt ops).all fun d => eachOp ops fun j oj => oj.dst != some d || waits o j) &&
  eachOp ops (fun i o => match o.dst with | none => true | some d => eachOp ops fun j oj => j == i || oj.dst != some d) &&
  eachOp ops (fun i o => match ks[i]? with | some ((Sum.inr (Sum.inr (Sum.inr (Sum.inr (Sum.inl (j, _, _))))))) => waits o j && eachOp ops fun s _ => s == i || (match ks[s]? with | some ((Sum.inr (Sum.inr (Sum.inr (Sum.inr (Sum.inl (j', _, _))))))) => j' != j | _ => true) | some ((Sum.inr (Sum.inr (Sum.inr (Sum.inr (Sum.inr (Sum.inr (Sum.inl (_, j, _))))))))) => waits o j | _ => true)
structure Orderly (ops : Array Oper) (ks : List Kind) (n : Nat) : Prop where
  small : ops.size ≤ 65536
  noSelect : Region.noSelect ops = true
  size : ks.length = ops.size
  up : ∀ {i : Nat} {o : Oper}, ops[i]? = some o → ∀ e ∈ o.after, Region.binds .any e = true → e.on < i
  dst : ∀ {i : Nat} {o : Oper} {d : Tmp}, ops[i]? = some o → o.dst = some d → d < n
  looks : ∀ {i : Nat} {o : Oper} {d : Tmp} {j : Nat} {oj : Oper}, ops[i]? = some o → d ∈ o.looksAt ops → ops[j]? = some oj → oj.dst = some d → waits o j = true
  once : ∀ {i : Nat} {o : Oper} {d : Tmp} {j : Nat} {oj : Oper}, ops[i]? = some o → o.dst = some d → ops[j]? = some oj → oj.dst = some d → j = i
  laid : ∀ {i : Nat} {o : Oper} {j : Nat} {zs cs : List Value}, ops[i]? = some o → ks[i]? = some (.laid j zs cs) → waits o j = true
  over : ∀ {i : Nat} {o : Oper} {v : Value} {j : Nat} {cs : List Value}, ops[i]? = some o → ks[i]? = some (.over v j cs) → waits o j = true
  lone : ∀ {i : Nat} {o : Oper} {j : Nat} {zs cs : List Value} {s : Nat} {zs' cs' : List Value}, ops[i]? = some o → ks[i]? = some (.laid j zs cs) → ks[s]? = some (.laid j zs' cs') → s = i
theorem Orderly.of {n : Nat} (h : orderly ops ks n = true) : Orderly ops ks n := by
  unfold orderly at h
  simp only [Bool.and_eq_true] at h
  obtain ⟨⟨⟨⟨⟨⟨⟨h0, h1⟩, h2⟩, h3⟩, h4⟩, h5⟩, h6⟩, h7⟩ := h
  have hsz : ks.length = ops.size := by simpa using h2
  refine ⟨of_decide_eq_true h0, h1, hsz, ?_, ?_, ?_, ?_, ?_, ?_, ?_⟩
  · intro i o ho e he hb
    have := eachOp_spec h3 ho
    have := Array.all_eq_true_iff_forall_mem.1 this e he
    simpa [hb] using this
  · intro i o d ho hd
    have := eachOp_spec h4 ho
    rw [hd] at this
    simpa using this
  · intro i o d j oj ho hd hj hdj
    have := eachOp_spec (List.all_eq_true.1 (eachOp_spec h5 ho) d hd) hj
    simpa [hdj] using this
  · intro i o d j oj ho hd hj hdj
    have := eachOp_spec h6 ho
    rw [hd] at this
    have := eachOp_spec this hj
    simpa [hdj] using this
  · intro i o j zs cs ho hk
    have := eachOp_spec h7 ho
    rw [hk] at this
    simp only [Bool.and_eq_true] at this
    exact this.1
  · intro i o v j cs ho hk
    have := eachOp_spec h7 ho
    rw [hk] at this
    exact this
  · intro i o j zs cs s zs' cs' ho hk hs
    have := eachOp_spec h7 ho
    rw [hk] at this
    simp only [Bool.and_eq_true] at this
    have hlt : s < ops.size := by rw [← hsz]; exact (List.getElem?_eq_some_iff.1 hs).1
    have := eachOp_spec this.2 (Array.getElem?_eq_getElem hlt)
    rw [hs] at this
    simpa using this
def bornAt : Option Kind → Option (List Value × Nat)
  | some ((Sum.inr (Sum.inr (Sum.inr (Sum.inr (Sum.inr (Sum.inl (_, cs)))))))) => some (cs, 0)
  | some ((Sum.inr (Sum.inr (Sum.inr (Sum.inr (Sum.inr (Sum.inr (Sum.inr (_, cs))))))))) => some (cs, 1)
  | _ => none
theorem bornAt_cells {o : Option Kind} {cs : List Value} {c : Nat} (h : bornAt o = some (cs, c)) : o.bind Kind.cells = some cs := by
  cases o with
  | none => cases h
  | some k =>
    cases k using Kind.each <;> first | cases h | skip
    · rfl
    · rfl
def LaidOk (all : List Kind) : List Kind → Prop
  | [] => True
  | (Sum.inr (Sum.inr (Sum.inr (Sum.inr (Sum.inl (j, zs, _)))))) :: r => (∃ t, all[j]? = some (.made zs t)) ∧ LaidOk all r
  | (Sum.inr (Sum.inr (Sum.inr (Sum.inr (Sum.inr (Sum.inr (Sum.inl (_, j, cs)))))))) :: r => (∃ c, bornAt all[j]? = some (cs, c)) ∧ LaidOk all r
  | _ :: r => LaidOk all r
theorem LaidOk.at {all : List Kind} : ∀ {r : List Kind}, LaidOk all r → ∀ {s j : Nat} {zs cs : List Value}, r[s]? = some (.laid j zs cs) → ∃ t, all[j]? = some (.made zs t)
  | [], _, _, _, _, _, h => by simp at h
  | k :: r, hl, 0, j, zs, cs, h => by
    simp at h
    subst h
    exact hl.1
  | k :: r, hl, s + 1, j, zs, cs, h => by
    have hr : LaidOk all r := by
      cases k using Kind.each <;> first | exact hl | exact hl.2
    exact hr.at (s := s) (by simpa using h)
theorem LaidOk.over {all : List Kind} : ∀ {r : List Kind}, LaidOk all r → ∀ {s j : Nat} {v : Value} {cs : List Value}, r[s]? = some (.over v j cs) → ∃ c, bornAt all[j]? = some (cs, c)
  | [], _, _, _, _, _, h => by simp at h
  | k :: r, hl, 0, j, v, cs, h => by
    simp at h
    subst h
    exact hl.1
  | k :: r, hl, s + 1, j, v, cs, h => by
    have hr : LaidOk all r := by
      cases k using Kind.each <;> first | exact hl | exact hl.2
    exact hr.over (s := s) (by simpa using h)
structure Agree (ops : Array Oper) (ks : List Kind) (a₀ : Act) (l : Array Bool) (γ : Nat → Nat) (a : Act) : Prop where
  defers : a.defers = a₀.defers
  size : a.tmps.size = a₀.tmps.size
  slots : ∀ d, (∀ i o, ops[i]? = some o → o.dst = some d → l.getD i false = true) → a.tmps[d]? = (fill γ 0 ops.toList ks a₀).tmps[d]?
theorem kind_at {n : Nat} (hO : Orderly ops ks n) {i : Nat} {o : Oper} (ho : ops[i]? = some o) : ∃ k, ks[i]? = some k := by
  have hi : i < ops.size := (Array.getElem?_eq_some_iff.1 ho).1
  exact ⟨_, List.getElem?_eq_getElem (by rw [hO.size]; exact hi)⟩
theorem fill_one {n : Nat} (hO : Orderly ops ks n) (hn : n = a₀.tmps.size) (γ : Nat → Nat) {i : Nat} {o : Oper} {k : Kind} {d : Tmp} (ho : ops[i]? = some o) (hk : ks[i]? = some k) (hd : o.dst = some d) :
    (fill γ 0 ops.toList ks a₀).tmps[d]? = some (k.val γ i) := by
  have := fill_at γ d o k hd i 0 ops.toList ks a₀ (by simpa using ho) hk (by rw [← hn]; exact hO.dst ho hd) (fun j' o' hlt ho' hd' => by
    have := hO.once ho hd (by simpa using ho' : ops[j']? = some o') hd'
    omega)
  rw [Nat.zero_add] at this
  exact this
theorem Agree.step {n : Nat} (hO : Orderly ops ks n) (hn : n = a₀.tmps.size) {l : Array Bool} {γ γ' : Nat → Nat} {a : Act} (h : Agree ops ks a₀ l γ a) {i : Nat} {o : Oper} {k : Kind} (ho : ops[i]? = some o) (hk : ks[i]? = some k)
    (hγ : ∀ j, j ≠ i → j ≠ i + 65536 → j ≠ i + 131072 → γ' j = γ j) : Agree ops ks a₀ (l.setIfInBounds i true) γ' (a.put o.dst (k.val γ' i)) := by
  have hi6 : i < 65536 := Nat.lt_of_lt_of_le (Array.getElem?_eq_some_iff.1 ho).1 hO.small
  refine ⟨by rw [put_defers']; exact h.defers, by rw [put_size]; exact h.size, fun d hd => ?_⟩
  by_cases e : o.dst = some d
  · rw [fill_one hO hn γ' ho hk e, e, put_same _ _ _ (by rw [h.size, ← hn]; exact hO.dst ho e)]
  · rw [put_other _ _ _ _ e, h.slots d (fun j oj hj hdj => by
      have hne : i ≠ j := fun he => by subst he; rw [ho] at hj; injection hj with hj; subst hj; exact e hdj
      have := hd j oj hj hdj
      rw [getD_set_ne false hne] at this
      exact this)]
    by_cases hw : ∃ (j : Nat) (oj : Oper), ops[j]? = some oj ∧ oj.dst = some d
    · obtain ⟨j, oj, hj, hdj⟩ := hw
      obtain ⟨kj, hkj⟩ := kind_at hO hj
      have hne : j ≠ i := fun he => by subst he; rw [ho] at hj; injection hj with hj; subst hj; exact e hdj
      rw [fill_one hO hn γ hj hkj hdj, fill_one hO hn γ' hj hkj hdj]
      have hj6 : j < 65536 := Nat.lt_of_lt_of_le (Array.getElem?_eq_some_iff.1 hj).1 hO.small
      unfold Kind.val
      rw [hγ j hne (by omega) (by omega), hγ (j + 65536) (by omega) (by omega) (by omega), hγ (j + 131072) (by omega) (by omega) (by omega)]
    · have hno : ∀ o' ∈ ops.toList, o'.dst ≠ some d := fun o' ho' hd' => by
        obtain ⟨j, hj, ej⟩ := List.getElem_of_mem ho'
        exact hw ⟨j, o', by rw [← Array.getElem?_toList, List.getElem?_eq_getElem hj, ej], hd'⟩
      rw [fill_other γ d 0 _ _ _ hno, fill_other γ' d 0 _ _ _ hno]
/-- An operation that may come up sees what it will have seen in the end. -/
theorem Agree.sees {n : Nat} (hO : Orderly ops ks n) {l : Array Bool} {γ : Nat → Nat} {a : Act} (h : Agree ops ks a₀ l γ a) {i : Nat} {o : Oper} (ho : ops[i]? = some o)
    (hl : ∀ e ∈ o.after, Region.binds .any e = true → l.getD e.on false = true) :
    execOp a.eval o = execOp (fill γ 0 ops.toList ks a₀).eval o ∧ Region.wanted o (yielded ops a.tmps) = Region.wanted o (yielded ops (fill γ 0 ops.toList ks a₀).tmps) := by
  have hs : ∀ d ∈ o.looksAt ops, a.tmps[d]? = (fill γ 0 ops.toList ks a₀).tmps[d]? := fun d hd =>
    h.slots d (fun j oj hj hdj => waits_spec (hO.looks ho hd hj hdj) hl)
  refine ⟨execOp_congr o (fun cs b => Region.noSelect_spec hO.noSelect i o cs b ho) (fun x hx => ?_), ?_⟩
  · cases x with
    | tmp t =>
      have := hs t (List.mem_append_left _ (List.mem_filterMap.2 ⟨.tmp t, by simpa using hx, rfl⟩))
      simp only [Act.eval, Array.getD_eq_getD_getElem?, this]
    | _ => rfl
  · unfold Region.wanted
    cases hg : o.guard with
    | none => rfl
    | some gw =>
      obtain ⟨g, want⟩ := gw
      have hy : yielded ops a.tmps g = yielded ops (fill γ 0 ops.toList ks a₀).tmps g := by
        unfold yielded
        cases ht : (ops[g]?).bind (·.dst) with
        | none => rfl
        | some t =>
          have := hs t (by simp [Oper.looksAt, hg, ht])
          simp only [Option.bind_some, this]
      simp only [hy]
theorem Agree.whole {l : Array Bool} {γ : Nat → Nat} {a : Act} (h : Agree ops ks a₀ l γ a) (hl : ∀ i, i < ops.size → l.getD i false = true) : a = fill γ 0 ops.toList ks a₀ := by
  have ht : a.tmps = (fill γ 0 ops.toList ks a₀).tmps := Array.ext_getElem? fun d =>
    h.slots d (fun i o ho _ => hl i (Array.getElem?_eq_some_iff.1 ho).1)
  have hd : a.defers = (fill γ 0 ops.toList ks a₀).defers := by rw [h.defers, fill_defers]
  cases a
  cases hf : fill γ 0 ops.toList ks a₀
  rw [hf] at ht hd
  simp only at ht hd
  rw [ht, hd]
/-! The memory, step by step. -/
theorem fresh_of {ks : List Kind} {i : Nat} {k : Kind} (hk : ks[i]? = some k) : fresh ks i = k.cells := by unfold fresh; rw [hk]; rfl
theorem Mem.still {l : Array Bool} {γ : Nat → Nat} {w w' : World} (h : Mem ks w₀ l γ w) (hb : Below w.heap.size w w') {i : Nat} {k : Kind} (hk : ks[i]? = some k) (h1 : k.cells = none) (h2 : ∀ j zs cs, k ≠ .laid j zs cs) :
    Mem ks w₀ (l.setIfInBounds i true) γ w' := by
  have ne1 : ∀ j zs, fresh ks j = some zs → i ≠ j := fun j zs hj he => by subst he; rw [fresh_of hk, h1] at hj; cases hj
  have ne2 : ∀ s j zs cs, ks[s]? = some (.laid j zs cs) → i ≠ s := fun s j zs cs hj he => by subst he; rw [hk] at hj; injection hj with hj; exact h2 _ _ _ hj
  refine ⟨h.below.trans (hb.mono h.below.size), ?_, ?_, ?_, ?_, ?_⟩
  · intro j zs hj hl
    rw [getD_set_ne false (ne1 j zs hj)] at hl
    obtain ⟨x, y⟩ := h.made j zs hj hl
    exact ⟨x, Nat.lt_of_lt_of_le y hb.size⟩
  · intro j zs hj hl hs
    rw [getD_set_ne false (ne1 j zs hj)] at hl
    exact (h.raw j zs hj hl (fun s zs' cs hs' => by have := hs s zs' cs hs'; rwa [getD_set_ne false (ne2 s j zs' cs hs')] at this)).below hb (h.made j zs hj hl).2
  · intro s j zs cs hs hl
    rw [getD_set_ne false (ne2 s j zs cs hs)] at hl
    exact ⟨(h.full s j zs cs hs hl).1.below hb (h.full s j zs cs hs hl).2, Nat.lt_of_lt_of_le (h.full s j zs cs hs hl).2 hb.size⟩
  · intro s j zs cs hs hl
    rw [getD_set_ne false (ne2 s j zs cs hs)] at hl
    exact getD_true (h.order s j zs cs hs hl)
  · intro x y zs zs' hx hy hlx hly hne
    rw [getD_set_ne false (ne1 x zs hx)] at hlx
    rw [getD_set_ne false (ne1 y zs' hy)] at hly
    exact h.apart x y zs zs' hx hy hlx hly hne
theorem Mem.make {l : Array Bool} {γ : Nat → Nat} {w w' : World} (h : Mem ks w₀ l γ w) {i : Nat} {k : Kind} {zs : List Value} (hk : ks[i]? = some k) (hc : k.cells = some zs) (h2 : ∀ j zs cs, k ≠ .laid j zs cs) (hun : l.getD i true = false)
    (hb : Below w.heap.size w w') {g : Nat} (hg1 : w.heap.size ≤ g) (hg2 : g < w'.heap.size) (hg3 : Blk w' g zs) :
    Mem ks w₀ (l.setIfInBounds i true) (fun j => if j = i then g else γ j) w' := by
  obtain ⟨hf, _⟩ := getD_same hun
  have ne2 : ∀ s j zs cs, ks[s]? = some (.laid j zs cs) → i ≠ s := fun s j zs cs hj he => by subst he; rw [hk] at hj; injection hj with hj; exact h2 _ _ _ hj
  have hsz := h.below.size
  have hsz2 := hb.size
  refine ⟨h.below.trans (hb.mono h.below.size), ?_, ?_, ?_, ?_, ?_⟩
  · intro j zs' hj hl
    by_cases e : j = i
    · simp only [if_pos e]; omega
    · rw [getD_set_ne false (Ne.symm e)] at hl
      have := h.made j zs' hj hl
      simp only [if_neg e]
      omega
  · intro j zs' hj hl hs
    by_cases e : j = i
    · subst e
      rw [fresh_of hk, hc] at hj
      injection hj with hj
      subst hj
      simp only [if_pos]
      exact hg3
    · rw [getD_set_ne false (Ne.symm e)] at hl
      simp only [if_neg e]
      exact (h.raw j zs' hj hl (fun s z c hs' => by have := hs s z c hs'; rwa [getD_set_ne false (ne2 s j z c hs')] at this)).below hb (h.made j zs' hj hl).2
  · intro s j z c hs hl
    rw [getD_set_ne false (ne2 s j z c hs)] at hl
    have e : j ≠ i := fun he => by have := h.order s j z c hs hl; rw [he, hf] at this; cases this
    have := h.full s j z c hs hl
    simp only [if_neg e]
    exact ⟨this.1.below hb this.2, by omega⟩
  · intro s j z c hs hl
    rw [getD_set_ne false (ne2 s j z c hs)] at hl
    exact getD_true (h.order s j z c hs hl)
  · intro x y zs1 zs2 hx hy hlx hly hne
    by_cases ex : x = i
    · have ey : y ≠ i := fun he => hne (by rw [ex, he])
      rw [getD_set_ne false (Ne.symm ey)] at hly
      have := h.made y zs2 hy hly
      simp only [if_pos ex, if_neg ey]
      omega
    · rw [getD_set_ne false (Ne.symm ex)] at hlx
      by_cases ey : y = i
      · have := h.made x zs1 hx hlx
        simp only [if_pos ey, if_neg ex]
        omega
      · rw [getD_set_ne false (Ne.symm ey)] at hly
        simp only [if_neg ex, if_neg ey]
        exact h.apart x y zs1 zs2 hx hy hlx hly hne
theorem Mem.lay {n : Nat} (hO : Orderly ops ks n) (hL : LaidOk ks ks) {l : Array Bool} {γ : Nat → Nat} {w : World} (h : Mem ks w₀ l γ w) {s i : Nat} {o : Oper} {zs cs : List Value} (ho : ops[s]? = some o) (hk : ks[s]? = some (.laid i zs cs)) (hlen : zs.length = cs.length)
    (hun : l.getD s true = false) (hli : l.getD i false = true) : Blk w (γ i) zs ∧ Mem ks w₀ (l.setIfInBounds s true) γ (w.setCells (γ i) 0 cs) := by
  obtain ⟨hf, hset⟩ := getD_same hun
  obtain ⟨t, hmi0⟩ := hL.at hk
  have hmi : fresh ks i = some zs := fresh_of hmi0
  have ne1 : ∀ j zs, fresh ks j = some zs → s ≠ j := fun j zs hj he => by subst he; rw [fresh_of hk] at hj; cases hj
  have hraw : Blk w (γ i) zs := h.raw i zs hmi hli (fun s' z c hs' => by rw [hO.lone ho hk hs']; exact hf)
  refine ⟨hraw, below_setCells _ (h.made i zs hmi hli).1 _ _ _ h.below, ?_, ?_, ?_, ?_, ?_⟩
  · intro j zs' hj hl
    rw [getD_set_ne false (ne1 j zs' hj)] at hl
    rw [size_setCells]
    exact h.made j zs' hj hl
  · intro j zs' hj hl hs
    rw [getD_set_ne false (ne1 j zs' hj)] at hl
    have e : j ≠ i := fun he => by
      subst he
      have := hs s zs cs hk
      rw [hset] at this
      cases this
    refine (h.raw j zs' hj hl (fun s' z c hs' => ?_)).other (h.apart j i zs' zs hj hmi hl hli e)
    have := hs s' z c hs'
    cases hb : l.getD s' false with
    | false => rfl
    | true => rw [getD_true hb] at this; exact this
  · intro s' j z c hs' hl
    rw [size_setCells]
    by_cases e : s' = s
    · subst e
      rw [hk] at hs'
      injection hs' with hs'
      obtain ⟨e1, e2, e3⟩ := Kind.laidInj hs'
      subst e1 e2 e3
      exact ⟨hraw.laid hlen, (h.made i zs hmi hli).2⟩
    · rw [getD_set_ne false (Ne.symm e)] at hl
      have hj : j ≠ i := fun he => by
        subst he
        exact e (hO.lone ho hk hs')
      obtain ⟨t', hmj0⟩ := hL.at hs'
      have hmj : fresh ks j = some z := fresh_of hmj0
      have := h.full s' j z c hs' hl
      exact ⟨this.1.other (h.apart j i z zs hmj hmi (h.order s' j z c hs' hl) hli hj), this.2⟩
  · intro s' j z c hs' hl
    by_cases e : s' = s
    · subst e
      rw [hk] at hs'
      injection hs' with hs'
      obtain ⟨e1, _, _⟩ := Kind.laidInj hs'
      subst e1
      exact getD_true hli
    · rw [getD_set_ne false (Ne.symm e)] at hl
      exact getD_true (h.order s' j z c hs' hl)
  · intro x y zs1 zs2 hx hy hlx hly hne
    rw [getD_set_ne false (ne1 x zs1 hx)] at hlx
    rw [getD_set_ne false (ne1 y zs2 hy)] at hly
    exact h.apart x y zs1 zs2 hx hy hlx hly hne
theorem Mem.congr {l : Array Bool} {γ γ' : Nat → Nat} {w : World} (h : Mem ks w₀ l γ w) (hL : LaidOk ks ks) (hs : ks.length ≤ 65536) (e : ∀ j, j < 65536 → γ' j = γ j) : Mem ks w₀ l γ' w := by
  have hlt : ∀ {i : Nat} {zs : List Value}, fresh ks i = some zs → γ' i = γ i := fun {i zs} hf => by
    unfold fresh at hf
    cases hk : ks[i]? with
    | none => rw [hk] at hf; cases hf
    | some k => exact e i (by have := (List.getElem?_eq_some_iff.1 hk).1; omega)
  refine ⟨h.below, ?_, ?_, ?_, h.order, ?_⟩
  · intro i zs hf hl
    rw [hlt hf]; exact h.made i zs hf hl
  · intro i zs hf hl hn
    rw [hlt hf]; exact h.raw i zs hf hl hn
  · intro s i zs cs hk hl
    obtain ⟨t, ht⟩ := hL.at hk
    rw [e i (by have := (List.getElem?_eq_some_iff.1 ht).1; omega)]
    exact h.full s i zs cs hk hl
  · intro i j zs zs' hi hj hli hlj hne
    rw [hlt hi, hlt hj]; exact h.apart i j zs zs' hi hj hli hlj hne
/-- One of the first operations. -/
theorem kind_step {full : Array Oper} {n p : Nat} (hO : Orderly ops ks n) (hn : n = a₀.tmps.size) (hL : LaidOk ks ks) {S : World → Prop} (hS : ∀ w, Below w₀.heap.size w₀ w → S w)
    (hfull : ∀ i, i < p → full[i]? = ops[i]?) (hgd : ∀ {i : Nat} {o : Oper} {g : Nat} {b : Bool}, ops[i]? = some o → o.guard = some (g, b) → g < p)
    (hops : AllOk P ops S (fun γ => fill γ 0 ops.toList ks a₀) ops.toList ks) {K : Act → World → Prop} {l : Array Bool} {γ : Nat → Nat} {a : Act} {w : World} (hA : Agree ops ks a₀ l γ a) (hM : Mem ks w₀ l γ w)
    {i : Nat} {o : Oper} (hip : i < p) (ho : ops[i]? = some o) (hun : l.getD i true = false) (hedge : ∀ e ∈ o.after, Region.binds .any e = true → l.getD e.on false = true)
    (hnext : ∀ γ' a' w', Agree ops ks a₀ (l.setIfInBounds i true) γ' a' → Mem ks w₀ (l.setIfInBounds i true) γ' w' → K a' w') : wpOp P full Q i K a w := by
  obtain ⟨k, hk⟩ := kind_at hO ho
  have hok := hops.at (by simpa using ho) hk
  obtain ⟨he, hw0⟩ := hA.sees hO ho hedge
  have hy : ∀ ts, Region.wanted o (yielded full ts) = Region.wanted o (yielded ops ts) := fun ts => by
    unfold Region.wanted
    cases hg : o.guard with
    | none => rfl
    | some gw =>
      obtain ⟨g, want⟩ := gw
      have : yielded full ts g = yielded ops ts g := by unfold yielded; rw [hfull g (hgd ho hg)]
      simp only [this]
  have hw : Region.wanted o (yielded full a.tmps) = Region.wanted o (yielded ops (fill γ 0 ops.toList ks a₀).tmps) := by rw [hy, hw0]
  have next : ∀ (γ' : Nat → Nat) (w' : World), (∀ j, j ≠ i → j ≠ i + 65536 → j ≠ i + 131072 → γ' j = γ j) → Mem ks w₀ (l.setIfInBounds i true) γ' w' → K (a.put o.dst (k.val γ' i)) w' := fun γ' w' hγ hM' =>
    hnext γ' _ w' (hA.step hO hn ho hk hγ) hM'
  refine wpOp_step (by rw [hfull i hip]; exact ho) (fun K' hK => ?_)
  rw [hw]
  cases k using Kind.each with
  | quiet v =>
    obtain ⟨h1, h2⟩ := hok γ
    rw [if_pos h1]
    unfold Oper.wp
    rw [he, h2 w (hS w hM.below)]
    exact hK _ _ (next γ w (fun _ _ _ _ => rfl) (hM.still (Below.refl _ _) hk rfl (fun _ _ _ h => by cases h)))
  | gone =>
    rw [if_neg (by rw [hok γ]; decide)]
    exact hK _ _ (next γ w (fun _ _ _ _ => rfl) (hM.still (Below.refl _ _) hk rfl (fun _ _ _ h => by cases h)))
  | call v =>
    obtain ⟨h1, h2⟩ := hok γ
    rw [if_pos h1]
    obtain ⟨f, args, h3, h4⟩ := h2 w (hS w hM.below)
    unfold Oper.wp
    rw [he, h3]
    refine Calls.mono h4 ?_
    rintro e w' ⟨rfl, hb⟩
    exact hK _ _ (next γ w' (fun _ _ _ _ => rfl) (hM.still hb hk rfl (fun _ _ _ h => by cases h)))
  | over v j cs =>
    obtain ⟨h1, h2⟩ := hok γ
    rw [if_pos h1]
    obtain ⟨u, hu⟩ := hL.over hk
    have hw : l.getD j false = true := waits_spec (hO.over ho hk) hedge
    have hf : fresh ks j = some cs := bornAt_cells hu
    have hm := hM.made j cs hf hw
    have hb := hM.raw j cs hf hw (fun s zs' cs' hs => by obtain ⟨t, ht⟩ := hL.at hs; rw [ht] at hu; cases hu)
    obtain ⟨f, args, h3, h4⟩ := h2 w₀ w (hS w₀ (Below.refl _ _)) hm.1 (hS w hM.below) hb hm.2
    unfold Oper.wp
    rw [he, h3]
    refine Calls.mono h4 ?_
    rintro e w' ⟨rfl, hb⟩
    exact hK _ _ (next γ w' (fun _ _ _ _ => rfl) (hM.still hb hk rfl (fun _ _ _ h => by cases h)))
  | made zs t =>
    obtain ⟨h1, h2⟩ := hok γ
    rw [if_pos h1]
    unfold Oper.wp
    rw [he, h2 w]
    have := next _ _ (fun j hj _ _ => if_neg hj) (hM.make hk rfl (fun _ _ _ h => by cases h) hun ((Below.refl _ _).alloc (Nat.le_refl _) _) (Nat.le_refl _) (by simp) (Blk.new w zs t))
    simp only [Kind.val, if_pos] at this
    exact hK _ _ this
  | born v cs =>
    obtain ⟨h1, h2⟩ := hok γ
    rw [if_pos h1]
    obtain ⟨f, args, h3, h4⟩ := h2 w (hS w hM.below)
    unfold Oper.wp
    rw [he, h3]
    refine Calls.mono h4 ?_
    rintro e w' ⟨hb, g, rfl, hg1, hg2, hg3⟩
    have := next _ w' (fun j hj _ _ => if_neg hj) (hM.make hk rfl (fun _ _ _ h => by cases h) hun hb hg1 hg2 hg3)
    simp only [Kind.val, if_pos] at this
    exact hK _ _ this
  | bornX v cs =>
    obtain ⟨h1, h2⟩ := hok γ
    rw [if_pos h1]
    obtain ⟨f, args, h3, h4⟩ := h2 w (hS w hM.below)
    unfold Oper.wp
    rw [he, h3]
    refine Calls.mono h4 ?_
    rintro e w' ⟨hb, g, x, y, rfl, hg1, hg2, hg3⟩
    have hM1 : Mem ks w₀ l (fun j => if j = i + 65536 then x else if j = i + 131072 then y else γ j) w := hM.congr hL (by rw [hO.size]; exact hO.small) (fun j hj => by rw [if_neg (by omega), if_neg (by omega)])
    have := next _ w' (fun j hj hj2 hj3 => by rw [if_neg hj, if_neg hj2, if_neg hj3]) (hM1.make hk rfl (fun _ _ _ h => by cases h) hun hb hg1 hg2 hg3)
    simp only [Kind.val, if_pos] at this
    rw [if_neg (by omega), if_neg (by omega), if_neg (by omega)] at this
    exact hK _ _ this
  | laid j zs cs =>
    obtain ⟨h1, h2, h3, h4⟩ := hok γ
    rw [if_pos h1]
    have hli : l.getD j false = true := waits_spec (hO.laid ho hk) hedge
    obtain ⟨hr, hM'⟩ := hM.lay hO hL ho hk h3 hun hli
    unfold Oper.wp
    rw [he, h4 w hr]
    exact hK _ _ (next γ _ (fun _ _ _ _ => rfl) hM')
theorem whole_of {p : Nat} {l : Array Bool} {γ : Nat → Nat} {a : Act} (hp : ops.size = p) (h : Agree ops ks a₀ l γ a) (hl : ∀ i, i < p → l.getD i false = true) : a = fill γ 0 ops.toList ks a₀ := h.whole (fun i hi => hl i (by omega))
theorem first_seq {full : Array Oper} {n p : Nat} (hO : Orderly ops ks n) (hn : n = a₀.tmps.size) (hL : LaidOk ks ks) {S : World → Prop} (hS : ∀ w, Below w₀.heap.size w₀ w → S w)
    (hp : ops.size = p) (hpf : p ≤ full.size) (hfull : ∀ i, i < p → full[i]? = ops[i]?) (hgd : ∀ {i : Nat} {o : Oper} {g : Nat} {b : Bool}, ops[i]? = some o → o.guard = some (g, b) → g < p)
    (hops : AllOk P ops S (fun γ => fill γ 0 ops.toList ks a₀) ops.toList ks)
    (hend : ∀ γ w l, Mem ks w₀ l γ w → (∀ i, i < p → l.getD i false = true) → wpOps P full Q (List.range' p (full.size - p)) (fill γ 0 ops.toList ks a₀) w) :
    ∀ (m q : Nat) (l : Array Bool) (γ : Nat → Nat) (a : Act) (w : World), q + m = p → l.size = p → (∀ i, i < q → l.getD i false = true) → (∀ i, q ≤ i → i < p → l.getD i true = false) → Agree ops ks a₀ l γ a → Mem ks w₀ l γ w → wpOps P full Q (List.range' q (full.size - q)) a w := by
  intro m
  induction m with
  | zero =>
    intro q l γ a w hq hsz hl hu hA hM
    have hqp : q = p := by omega
    subst hqp
    rw [whole_of hp hA hl]
    exact hend γ w l hM hl
  | succ m ih =>
    intro q l γ a w hq hsz hl hu hA hM
    have hqs : q < ops.size := by omega
    have ho : ops[q]? = some ops[q] := Array.getElem?_eq_getElem hqs
    have hun := hu q (Nat.le_refl _) (by omega)
    obtain ⟨r, hr⟩ : ∃ r, full.size - q = r + 1 := ⟨full.size - q - 1, by omega⟩
    rw [hr, List.range'_succ, wpOps_cons]
    refine kind_step hO hn hL hS hfull hgd hops hA hM (by omega) ho hun (fun e he hb => hl _ (hO.up ho e he hb)) (fun γ' a' w' hA' hM' => ?_)
    have := ih (q + 1) _ γ' a' w' (by omega) (by simp [hsz]) (fun j hj => ?_) (fun j hj hj2 => ?_) hA' hM'
    · rwa [show full.size - (q + 1) = r by omega] at this
    · rcases Nat.lt_or_ge j q with h2 | h2
      · exact getD_true (hl j h2)
      · have : j = q := by omega
        subst this
        exact (getD_same hun).2
    · rw [getD_set_ne true (by omega)]
      exact hu j (by omega) hj2
def guarded (ops : Array Oper) (p : Nat) : Bool := eachOp ops (fun _ o => match o.guard with | some (g, _) => decide (g < p) | none => true)
theorem guarded_spec {ops : Array Oper} {p : Nat} (h : guarded ops p = true) {i : Nat} {o : Oper} {g : Nat} {b : Bool} (ho : ops[i]? = some o) (hg : o.guard = some (g, b)) : g < p := by
  have := eachOp_spec h ho
  simpa [hg] using this
theorem first_full {full : Array Oper} {p i : Nat} (h : i < p) : full[i]? = (full.extract 0 p)[i]? := by
  by_cases hi : i < full.size
  · rw [Array.getElem?_eq_getElem hi, Array.getElem?_eq_getElem (by simp; omega)]
    simp
  · rw [Array.getElem?_eq_none (by omega), Array.getElem?_eq_none (by simp; omega)]
theorem none_listed (n i : Nat) : (Array.replicate n false).getD i false = false := by
  rcases Nat.lt_or_ge i n with h | h <;> simp [h]
theorem none_listed' {n i : Nat} (h : i < n) : (Array.replicate n false).getD i true = false := by simp [h]
theorem start_agree {ops : Array Oper} {ks : List Kind} {a : Act} (n : Nat) (γ : Nat → Nat) : Agree ops ks a (Array.replicate n false) γ a := by
  refine ⟨rfl, rfl, fun d hd => ?_⟩
  have hno : ∀ o' ∈ ops.toList, o'.dst ≠ some d := fun o' ho' hd' => by
    obtain ⟨j, hj, ej⟩ := List.getElem_of_mem ho'
    have := hd j o' (by rw [← Array.getElem?_toList, List.getElem?_eq_getElem hj, ej]) hd'
    rw [none_listed] at this
    cases this
  rw [fill_other _ d 0 _ _ _ hno]
theorem start_mem {ks : List Kind} {w w' : World} (n : Nat) (γ : Nat → Nat) (h : Below w.heap.size w w') : Mem ks w (Array.replicate n false) γ w' := by
  refine ⟨h, ?_, ?_, ?_, ?_, ?_⟩
  · intro i zs _ h; rw [none_listed] at h; cases h
  · intro i zs _ h; rw [none_listed] at h; cases h
  · intro s i zs cs _ h; rw [none_listed] at h; cases h
  · intro s i zs cs _ h; rw [none_listed] at h; cases h
  · intro i j zs zs' _ _ h; rw [none_listed] at h; cases h
/-- **The law of a region that keeps its order.** -/
theorem region_seq {full : Array Oper} {id : Nat} {a : Act} {w : World} (p : Nat) (ks : List Kind) (S : World → Prop) (F : (Nat → Nat) → Act)
    (hF : ∀ γ, fill γ 0 (full.extract 0 p).toList ks a = F γ) (hor : (orderly (full.extract 0 p) ks a.tmps.size && guarded (full.extract 0 p) p && decide (p ≤ full.size)) = true) (hL : LaidOk ks ks) (hS : ∀ w', Below w.heap.size w w' → S w')
    (hops : AllOk P (full.extract 0 p) S F (full.extract 0 p).toList ks)
    (hend : ∀ γ w' l, Mem ks w l γ w' → (∀ i, i < p → l.getD i false = true) → wpOps P full Q (List.range' p (full.size - p)) (F γ) w') :
    (Code.region id full false).wp P Q a w := by
  obtain rfl : (fun γ => fill γ 0 (full.extract 0 p).toList ks a) = F := funext hF
  simp only [Bool.and_eq_true, decide_eq_true_eq] at hor
  obtain ⟨⟨h1, h2⟩, h4⟩ := hor
  refine wp_region ?_
  rw [List.range_eq_range']
  exact first_seq (Orderly.of h1) rfl hL hS (by simp; omega) h4 (fun i hi => first_full hi) (fun ho hg => guarded_spec h2 ho hg) hops hend p 0 (Array.replicate p false) (fun _ => 0) a w (by omega) (by simp) (fun i hi => by omega) (fun i _ hi => none_listed' hi) (start_agree _ _) (start_mem _ _ (Below.refl _ _))
end
/-! The rest, one by one. -/
section
variable {P : Program} {ops : Array Oper} {Q : Exit → Act → World → Prop} {a : Act} {w : World}
theorem rest_nil (h : Q .normal a w) : wpOps P ops Q [] a w := h
theorem rest_value {i : Nat} {r : List Nat} {o : Oper} {v : Value} {w' : World} (ho : ops[i]? = some o) (hw : Region.wanted o (yielded ops a.tmps) = true) (hx : (execOp a.eval o).run P w = .ok (.value v) w') (h : wpOps P ops Q r (a.put o.dst v) w') : wpOps P ops Q (i :: r) a w := by
  rw [wpOps_cons]
  refine wpOp_step ho (fun K' hK => ?_)
  rw [if_pos hw]
  unfold Oper.wp
  rw [hx]
  exact hK _ _ h
theorem rest_skip {i : Nat} {r : List Nat} {o : Oper} {w' : World} (ho : ops[i]? = some o) (hw : Region.wanted o (yielded ops a.tmps) = true) (hx : (execOp a.eval o).run P w = .ok .skip w') (h : wpOps P ops Q r (a.put o.dst undef) w') : wpOps P ops Q (i :: r) a w := by
  rw [wpOps_cons]
  refine wpOp_step ho (fun K' hK => ?_)
  rw [if_pos hw]
  unfold Oper.wp
  rw [hx]
  exact hK _ _ h
end
end Rg
end Go.Proofs.YtfboipfpnkngdaaDoor
end
section
namespace Go.Proofs.YtfboipfpnkngdaaDoor
open Go.RowKit
namespace Rg
/-- The blocks of the list are there, apart from each other, and hold these cells. -/
structure Mm (w : World) (l : List (Nat × List Value)) : Prop where
  blk : ∀ p ∈ l, p.1 < w.heap.size ∧ Blk w p.1 p.2
  nd : l.Pairwise (fun a b => a.1 ≠ b.1)
theorem Mm.nil (w : World) : Mm w [] := ⟨fun p h => absurd h (by simp), List.Pairwise.nil⟩
theorem Mm.below {w w1 : World} {l : List (Nat × List Value)} (h : Mm w l) (hb : Below w.heap.size w w1) : Mm w1 l :=
  ⟨fun p hp => ⟨Nat.lt_of_lt_of_le (h.blk p hp).1 hb.size, (h.blk p hp).2.below hb (h.blk p hp).1⟩, h.nd⟩
theorem Mm.cons {w : World} {l : List (Nat × List Value)} (h : Mm w l) {g : Nat} {cs : List Value} (hb : Blk w g cs) (hg : g < w.heap.size) (hn : ∀ p ∈ l, p.1 ≠ g) : Mm w ((g, cs) :: l) :=
  ⟨fun p hp => by
    rcases List.mem_cons.1 hp with e | hp
    · subst e; exact ⟨hg, hb⟩
    · exact h.blk p hp, List.Pairwise.cons (fun p hp => (hn p hp).symm) h.nd⟩
theorem Mm.alloc {w : World} {l : List (Nat × List Value)} (h : Mm w l) (cs : List Value) (t : TypeId) {g : Nat} (hg : g = w.heap.size) : Mm (w.alloc (.cells cs.toArray t)) ((g, cs) :: l) := by
  subst hg
  exact (h.below ((Below.refl _ _).alloc (Nat.le_refl _) _)).cons (Blk.new w cs t) (by simp) (fun p hp => by have := (h.blk p hp).1; omega)
theorem Mm.cell {w : World} {l : List (Nat × List Value)} (h : Mm w l) {g : Nat} {cs : List Value} (hm : (g, cs) ∈ l) {k : Nat} {v : Value} (hk : cs[k]? = some v) : w.cell? ⟨g, k, none⟩ = some v := ((h.blk _ hm).2 k v hk).1
theorem Mm.free {w : World} {l : List (Nat × List Value)} (h : Mm w l) {g : Nat} {cs : List Value} (hm : (g, cs) ∈ l) {k : Nat} {v : Value} (hk : cs[k]? = some v) : w.frozen? ⟨g, k, none⟩ = false := ((h.blk _ hm).2 k v hk).2
theorem Mm.lt {w : World} {l : List (Nat × List Value)} (h : Mm w l) {g : Nat} {cs : List Value} (hm : (g, cs) ∈ l) : g < w.heap.size := (h.blk _ hm).1
/-! What a region leaves. -/
def laidOn (i : Nat) : List Kind → Option (List Value)
  | [] => none
  | (Sum.inr (Sum.inr (Sum.inr (Sum.inr (Sum.inl (j, _, cs)))))) :: r => if j = i then some cs else laidOn i r
  | _ :: r => laidOn i r
def fin (ks : List Kind) (i : Nat) : List Value := match laidOn i ks with | some cs => cs | none => (fresh ks i).getD []
theorem laidOn_some {i : Nat} {cs : List Value} : ∀ {ks : List Kind}, laidOn i ks = some cs → ∃ (s : Nat) (zs : List Value), ks[s]? = some (.laid i zs cs)
  | [], h => by cases h
  | k :: r, h => by
    cases k using Kind.each with
    | laid j zs cs' =>
      unfold laidOn at h
      split at h
      · rename_i e
        injection h with h
        subst h e
        exact ⟨0, zs, rfl⟩
      · obtain ⟨s, z, hs⟩ := laidOn_some h
        exact ⟨s + 1, z, hs⟩
    | _ =>
      obtain ⟨s, z, hs⟩ := laidOn_some (ks := r) h
      exact ⟨s + 1, z, hs⟩
theorem laidOn_none {i : Nat} : ∀ {ks : List Kind}, laidOn i ks = none → ∀ (s : Nat) (zs cs : List Value), ks[s]? ≠ some (.laid i zs cs)
  | [], _ => fun _ _ _ h => by simp at h
  | k :: r, h => by
    intro s zs cs hs
    have hr : laidOn i r = none := by
      cases k using Kind.each with
      | laid j z c => unfold laidOn at h; split at h <;> first | cases h | exact h
      | _ => exact h
    cases s with
    | zero =>
      simp at hs
      subst hs
      unfold laidOn at h
      rw [if_pos rfl] at h
      cases h
    | succ s => exact laidOn_none hr s zs cs (by simpa using hs)
theorem Mem.fin {ks : List Kind} {w₀ w : World} {l : Array Bool} {γ : Nat → Nat} (h : Mem ks w₀ l γ w) {p : Nat} (hp : ks.length ≤ p) (hl : ∀ i, i < p → l.getD i false = true) {i : Nat} (hi : (fresh ks i).isSome = true) :
    Blk w (γ i) (fin ks i) ∧ w₀.heap.size ≤ γ i ∧ γ i < w.heap.size := by
  obtain ⟨zs, hz⟩ := Option.isSome_iff_exists.1 hi
  have hlt : ∀ (s : Nat) (k : Kind), ks[s]? = some k → l.getD s false = true := fun s k hs => hl s (by have := (List.getElem?_eq_some_iff.1 hs).1; omega)
  have hil : l.getD i false = true := by
    unfold fresh at hz
    cases hk : ks[i]? with
    | none => rw [hk] at hz; cases hz
    | some k => exact hlt i k hk
  refine ⟨?_, h.made i zs hz hil⟩
  unfold Rg.fin
  cases hL : laidOn i ks with
  | some cs =>
    obtain ⟨s, z, hs⟩ := laidOn_some hL
    exact (h.full s i z cs hs (hlt s _ hs)).1
  | none =>
    rw [hz]
    exact h.raw i zs hz hil (fun s z c hs => absurd hs (laidOn_none hL s z c))
/-- The blocks that a region made, beside those that were there. -/
theorem Mm.grow {ks : List Kind} {w₀ w : World} {l : Array Bool} {γ : Nat → Nat} {L : List (Nat × List Value)} (hm : Mm w₀ L) (h : Mem ks w₀ l γ w) {p : Nat} (hp : ks.length ≤ p) (hl : ∀ i, i < p → l.getD i false = true) :
    ∀ (is : List Nat), (is.all fun i => (fresh ks i).isSome) = true → is.Pairwise (· ≠ ·) → Mm w (is.map (fun i => (γ i, fin ks i)) ++ L)
  | [], _, _ => hm.below h.below
  | i :: is, ha, hn => by
    simp only [List.all_cons, Bool.and_eq_true] at ha
    have ih := Mm.grow hm h hp hl is ha.2 (List.Pairwise.of_cons hn)
    obtain ⟨h1, h2, h3⟩ := h.fin hp hl ha.1
    refine ih.cons h1 h3 (fun q hq => ?_)
    rcases List.mem_append.1 hq with hq | hq
    · obtain ⟨j, hj, e⟩ := List.mem_map.1 hq
      subst e
      have hjs := List.all_eq_true.1 ha.2 j hj
      obtain ⟨zi, hzi⟩ := Option.isSome_iff_exists.1 ha.1
      obtain ⟨zj, hzj⟩ := Option.isSome_iff_exists.1 hjs
      have hlist : ∀ {x : Nat} {z : List Value}, fresh ks x = some z → l.getD x false = true := fun {x z} hx => by
        unfold fresh at hx
        cases hk : ks[x]? with
        | none => rw [hk] at hx; cases hx
        | some k => exact hl x (by have := (List.getElem?_eq_some_iff.1 hk).1; omega)
      exact h.apart j i zj zi hzj hzi (hlist hzj) (hlist hzi) (fun e => (List.rel_of_pairwise_cons hn hj) e.symm)
    · have := (hm.blk q hq).1
      omega
/-- A store into a block of the list. -/
def patch (cs : List Value) (off : Nat) (vs : List Value) : List Value := cs.take off ++ vs ++ cs.drop (off + vs.length)
theorem patch_get (cs : List Value) (off : Nat) (vs : List Value) (h : off + vs.length ≤ cs.length) (k : Nat) : (patch cs off vs)[k]? = if off ≤ k ∧ k < off + vs.length then vs[k - off]? else cs[k]? := by
  unfold patch
  by_cases h1 : k < off
  · rw [if_neg (by omega), List.append_assoc, List.getElem?_append_left (by simp; omega), List.getElem?_take, if_pos h1]
  · by_cases h2 : k < off + vs.length
    · rw [if_pos ⟨by omega, h2⟩, List.append_assoc, List.getElem?_append_right (by simp; omega), List.getElem?_append_left (by simp; omega)]
      congr 1
      simp; omega
    · rw [if_neg (by omega), List.getElem?_append_right (by simp; omega), List.getElem?_drop]
      congr 1
      simp; omega
theorem Blk.patch {w : World} {g : Nat} {cs : List Value} (h : Blk w g cs) (off : Nat) (vs : List Value) (hl : off + vs.length ≤ cs.length) : Blk (w.setCells g off vs) g (patch cs off vs) := fun j v hv => by
  rw [patch_get _ _ _ hl] at hv
  split at hv
  · rename_i hj
    have hz : cs[j]? = some (cs[j]'(by omega)) := List.getElem?_eq_getElem _
    refine ⟨?_, by rw [World.frozen?_setCells]; exact (h j _ hz).2⟩
    have := World.cell?_setCells_in g vs off w (fun i hi => by
      have := (h (off + i) _ (List.getElem?_eq_getElem (show off + i < cs.length by omega))).1
      rw [this]; rfl) (j - off) (by omega)
    rw [show off + (j - off) = j by omega] at this
    rw [this]
    obtain ⟨h1, h2⟩ := List.getElem?_eq_some_iff.1 hv
    rw [← h2]
  · rename_i hj
    exact ⟨by rw [World.cell?_setCells_out g vs off w _ (fun _ => by simp; omega)]; exact (h j v hv).1, by rw [World.frozen?_setCells]; exact (h j v hv).2⟩
theorem Blk.apart {w : World} {g g' off : Nat} {cs vs : List Value} (h : Blk w g cs) (hg : g ≠ g') : Blk (w.setCells g' off vs) g cs := fun j v hv =>
  ⟨by rw [World.cell?_setCells_out g' vs off w _ (fun e => absurd e hg)]; exact (h j v hv).1, by rw [World.frozen?_setCells]; exact (h j v hv).2⟩
theorem Mm.put {w : World} {l : List (Nat × List Value)} (h : Mm w l) (k : Nat) {g off : Nat} {cs vs : List Value} (hk : l[k]? = some (g, cs)) (hl : off + vs.length ≤ cs.length) : Mm (w.setCells g off vs) (l.set k (g, patch cs off vs)) := by
  have hkl : k < l.length := (List.getElem?_eq_some_iff.1 hk).1
  have hke : l[k] = (g, cs) := (List.getElem?_eq_some_iff.1 hk).2
  have hpw := List.pairwise_iff_getElem.1 h.nd
  refine ⟨fun p hp => ?_, ?_⟩
  · rw [size_setCells]
    obtain ⟨j, hj, e⟩ := List.getElem_of_mem hp
    rw [List.getElem_set] at e
    have hj' : j < l.length := by simpa using hj
    split at e
    · subst e
      have := h.blk _ (List.mem_of_getElem? hk)
      exact ⟨this.1, Blk.patch this.2 off vs hl⟩
    · rename_i hne
      subst e
      have := h.blk _ (List.getElem_mem hj')
      refine ⟨this.1, Blk.apart this.2 ?_⟩
      rcases Nat.lt_or_ge j k with h' | h'
      · have := hpw j k hj' hkl h'
        rw [hke] at this
        exact this
      · have := hpw k j hkl hj' (by omega)
        rw [hke] at this
        exact this.symm
  · refine List.pairwise_iff_getElem.2 fun i j hi hj hij => ?_
    have hi' : i < l.length := by simpa using hi
    have hj' : j < l.length := by simpa using hj
    have := hpw i j hi' hj' hij
    rw [List.getElem_set, List.getElem_set]
    split
    · rename_i e1
      subst e1
      rw [if_neg (by omega)]
      rw [hke] at this
      exact this
    · split
      · rename_i e2
        subst e2
        rw [hke] at this
        exact this
      · exact this
end Rg
end Go.Proofs.YtfboipfpnkngdaaDoor
end
section
namespace Go.Proofs.YtfboipfpnkngdaaDoor
open Go.RowKit
namespace Rg
theorem exec_call {P : Program} {ρ : Operand → Value} {o : Oper} {f : FuncId} {xs : Array Operand} {ts : Array TypeId} {args : Array Value} {w : World} (ho : o.op = .call { callee := .value (.func f), args := xs, argTypes := ts }) (hc : ∀ args w, (callFunc f args).run P w = .ok (.enter f args) w) (hf : ρ (.func f) = .func (.func f) #[] #[]) (hx : xs.map ρ = args) :
    (execOp ρ o).run P w = .ok (.enter f args) w := by
  subst hx
  simp only [execOp, ho, resolve, hf]
  simp [go_sem, Deferred.ofValue, invoke, hc]
abbrev PT (g off : Nat) : Value := .pointer (some ⟨g, off, none⟩)
theorem Mm.one {w : World} {l : List (Nat × List Value)} (h : Mm w l) (k : Nat) {p : Nat × List Value} (hk : l[k]? = some p) : Mm w [p] :=
  ⟨fun q hq => by rw [List.mem_singleton.1 hq]; exact h.blk p (List.mem_of_getElem? hk), List.pairwise_singleton _ _⟩
/-! The laws of regions, as a walk uses them. -/
section
variable {P : Program} {Q : Exit → Act → World → Prop} {full : Array Oper} {a : Act} {w : World}
theorem take_arr (full : Array Oper) (p : Nat) : full.extract 0 p = (full.toList.take p).toArray := by
  apply Array.toList_inj.1
  simp [List.extract_eq_take_drop]
theorem walk_seq {id : Nat} (p : Nat) (ks : List Kind) (S : World → Prop) (pre : List Oper) (F : (Nat → Nat) → Act) (hpre : full.toList.take p = pre)
    (hF : ∀ γ, fill γ 0 pre ks a = F γ) (hor : (orderly pre.toArray ks a.tmps.size && guarded pre.toArray p && decide (p ≤ full.size)) = true) (hL : LaidOk ks ks) (hS : ∀ w', Below w.heap.size w w' → S w')
    (hops : AllOk P pre.toArray S F pre ks)
    (hend : ∀ γ w' l, Mem ks w l γ w' → (∀ i, i < p → l.getD i false = true) → wpOps P full Q (List.range' p (full.size - p)) (F γ) w') :
    (Code.region id full false).wp P Q a w := by
  subst hpre
  rw [← take_arr] at hor hops
  refine region_seq p ks S F (fun γ => ?_) hor hL hS ?_ hend
  · rw [take_arr]; exact hF γ
  · have e : (full.extract 0 p).toList = full.toList.take p := by rw [take_arr]
    rw [e]; exact hops
theorem AllOk.cons {ops : Array Oper} {S : World → Prop} {F : (Nat → Nat) → Act} {o : Oper} {os : List Oper} {k : Kind} {ks : List Kind} (h : KindOk P ops S F o k) (hs : AllOk P ops S F os ks) : AllOk P ops S F (o :: os) (k :: ks) := ⟨h, hs⟩
theorem rest_at {p m : Nat} {l : List Nat} (h : List.range' p m = l) (hw : wpOps P full Q l a w) : wpOps P full Q (List.range' p m) a w := by rw [h]; exact hw
theorem then_normal {K : Act → World → Prop} (h : K a w) : Exit.then K Q .normal a w := h
theorem then_ret {K : Act → World → Prop} (h : Q .ret a w) : Exit.then K Q .ret a w := h
theorem then_exit {K : Act → World → Prop} {id : Nat} (h : Q (.exit id) a w) : Exit.then K Q (.exit id) a w := h
theorem block_ret {id : Nat} (h : Q .ret a w) : Exit.inBlock id Q .ret a w := h
theorem rest_set {i d : Nat} {r : List Nat} {o : Oper} {v : Value} {w' : World} (ho : full[i]? = some o) (hd : o.dst = some d) (hw : Region.wanted o (yielded full a.tmps) = true) (hx : (execOp a.eval o).run P w = .ok (.value v) w') (h : wpOps P full Q r (a.put (some d) v) w') : wpOps P full Q (i :: r) a w :=
  rest_value ho hw hx (by rw [hd]; exact h)
theorem rest_store {i : Nat} {r : List Nat} {o : Oper} {w' : World} (ho : full[i]? = some o) (hd : o.dst = none) (hw : Region.wanted o (yielded full a.tmps) = true) (hx : (execOp a.eval o).run P w = .ok .skip w') (h : wpOps P full Q r a w') : wpOps P full Q (i :: r) a w :=
  rest_skip ho hw hx (by rw [hd]; exact h)
theorem block_exit {id : Nat} (h : Q .normal a w) : Exit.inBlock id Q (.exit id) a w := by simp only [Exit.inBlock, if_true]; exact h
theorem block_normal {id : Nat} (h : Q .normal a w) : Exit.inBlock id Q .normal a w := h
end
/-! Shorter words for what stands behind each region. -/
theorem keepB {w₀ w w' : World} {L : List (Nat × List Value)} (H : Hid (Mm w L ∧ Below w₀.heap.size w₀ w)) (hb : Below w.heap.size w w') : Hid (Mm w' L ∧ Below w₀.heap.size w₀ w') :=
  ⟨H.out.1.below hb, H.out.2.trans (hb.mono H.out.2.size)⟩
theorem growB {ks : List Kind} {w₀ w w' : World} {l : Array Bool} {γ : Nat → Nat} {L : List (Nat × List Value)} (H : Hid (Mm w L ∧ Below w₀.heap.size w₀ w)) (h : Mem ks w l γ w') {p : Nat} (hp : ks.length ≤ p) (hl : ∀ i, i < p → l.getD i false = true)
    (is : List Nat) (ha : (is.all fun i => (fresh ks i).isSome) = true) (hn : is.Pairwise (· ≠ ·)) : Hid (Mm w' (is.map (fun i => (γ i, fin ks i)) ++ L) ∧ Below w₀.heap.size w₀ w') :=
  ⟨H.out.1.grow h hp hl is ha hn, H.out.2.trans (h.below.mono H.out.2.size)⟩
theorem ownB {ks : List Kind} {w₀ w w' : World} {l : Array Bool} {γ : Nat → Nat} {L : List (Nat × List Value)} (H : Hid (Mm w L ∧ Below w₀.heap.size w₀ w)) (h : Mem ks w l γ w') {p : Nat} (hp : ks.length ≤ p) (hl : ∀ i, i < p → l.getD i false = true) {i : Nat} (hi : (fresh ks i).isSome = true) : Hid (w₀.heap.size ≤ γ i) :=
  Nat.le_trans H.out.2.size (h.fin hp hl hi).2.1
theorem sB {w : World} {L : List (Nat × List Value)} {R : World → Prop} (H : Hid (Mm w L ∧ R w)) (w' : World) (hb : Below w.heap.size w w') : Mm w' L := H.out.1.below hb
theorem sa {l : List Value} {i : Nat} {x : Value} : l.toArray.setIfInBounds i x = (l.set i x).toArray := List.setIfInBounds_toArray ..
theorem sz {l : List Value} {x y : Value} : (x :: l).set 0 y = y :: l := rfl
theorem ss {l : List Value} {n : Nat} {x y : Value} : (x :: l).set (n + 1) y = x :: l.set n y := rfl
theorem tk {α : Type} {l : List α} {n : Nat} {x : α} : (x :: l).take (n + 1) = x :: l.take n := rfl
theorem tz {α : Type} {l : List α} : l.take 0 = [] := rfl
theorem rest0 {P : Program} {Q : Exit → Act → World → Prop} {full : Array Oper} {a : Act} {w : World} {p m : Nat} (h : List.range' p m = []) (hw : Q .normal a w) : wpOps P full Q (List.range' p m) a w := by rw [h]; exact rest_nil hw
theorem walk_seqB {P : Program} {Q : Exit → Act → World → Prop} {full : Array Oper} {a : Act} {w w₀ : World} {L : List (Nat × List Value)} {id : Nat} (p : Nat) (ks : List Kind) {pre : List Oper} {F : (Nat → Nat) → Act} (H : Hid (Mm w L ∧ Below w₀.heap.size w₀ w))
    (hops : AllOk P pre.toArray (fun w' => Mm w' L) F pre ks)
    (hend : ∀ γ w', Hid (Mm w' L ∧ Below w₀.heap.size w₀ w') → wpOps P full Q (List.range' p (full.size - p)) (F γ) w')
    (hq : full.toList.take p = pre ∧ (∀ γ, fill γ 0 pre ks a = F γ) ∧ (orderly pre.toArray ks a.tmps.size && guarded pre.toArray p && decide (p ≤ full.size)) = true := by
      refine ⟨?_, ?_, ?_⟩
      · simp only [List.append_eq, List.cons_append, List.nil_append, tk, tz]; rfl
      · intro _; simp only [fill, Kind.val, Act.put, sa, sz, ss]; rfl
      · kernel_rfl)
    (hL : LaidOk ks ks := by trivial) :
    (Code.region id full false).wp P Q a w :=
  walk_seq p ks _ pre F hq.1 hq.2.1 hq.2.2 hL (sB H) hops (fun γ w' _ hM _ => hend γ w' (keepB H hM.below))
theorem walk_seqA {P : Program} {Q : Exit → Act → World → Prop} {full : Array Oper} {a : Act} {w : World} {S : World → Prop} {id : Nat} (p : Nat) (ks : List Kind) {pre : List Oper} {F : (Nat → Nat) → Act} (hS : ∀ w', Below w.heap.size w w' → S w')
    (hops : AllOk P pre.toArray S F pre ks)
    (hend : ∀ γ w' l, Mem ks w l γ w' → (∀ i, i < p → l.getD i false = true) → wpOps P full Q (List.range' p (full.size - p)) (F γ) w')
    (hq : full.toList.take p = pre ∧ (∀ γ, fill γ 0 pre ks a = F γ) ∧ (orderly pre.toArray ks a.tmps.size && guarded pre.toArray p && decide (p ≤ full.size)) = true := by
      refine ⟨?_, ?_, ?_⟩
      · simp only [List.append_eq, List.cons_append, List.nil_append, tk, tz]; rfl
      · intro _; simp only [fill, Kind.val, Act.put, sa, sz, ss]; rfl
      · kernel_rfl)
    (hL : LaidOk ks ks := by trivial) :
    (Code.region id full false).wp P Q a w :=
  walk_seq p ks _ pre F hq.1 hq.2.1 hq.2.2 hL hS hops hend
theorem ak {P : Program} {ops : Array Oper} {S : World → Prop} {F : (Nat → Nat) → Act} {o : Oper} {os : List Oper} {k : Kind} {ks : List Kind} (h : KindOk P ops S F o k) (hs : AllOk P ops S F os ks) : AllOk P ops S F (o :: os) (k :: ks) := ⟨h, hs⟩
theorem mpn {ρ : Operand → Value} {xs : List Operand} {vs : List Value} (h : xs.map ρ = vs) : xs.toArray.map ρ = vs.toArray := by rw [List.map_toArray, h]
end Rg
end Go.Proofs.YtfboipfpnkngdaaDoor
end
section
namespace Go.Proofs.YtfboipfpnkngdaaDoor
open Go.RowKit
namespace Rg
section
variable {P : Program} {ops : Array Oper} {ks : List Kind} {a₀ : Act} {w₀ : World} {Q : Exit → Act → World → Prop}
/-- An operation that the store need not wait for: it tells its value in whatever world. -/
def LateOk (P : Program) (ops : Array Oper) (ks : List Kind) (F : (Nat → Nat) → Act) : List Nat → Prop
  | [] => True
  | i :: r => (∃ o v, ops[i]? = some o ∧ ks[i]? = some (.quiet v) ∧ ∀ γ, Region.wanted o (yielded ops (F γ).tmps) = true ∧ ∀ w, (execOp (F γ).eval o).run P w = .ok (.value v) w) ∧ LateOk P ops ks F r
theorem LateOk.at {F : (Nat → Nat) → Act} : ∀ {late : List Nat}, LateOk P ops ks F late → ∀ {i : Nat}, i ∈ late → ∃ o v, ops[i]? = some o ∧ ks[i]? = some (.quiet v) ∧ ∀ γ, Region.wanted o (yielded ops (F γ).tmps) = true ∧ ∀ w, (execOp (F γ).eval o).run P w = .ok (.value v) w
  | [], _, _, h => by cases h
  | j :: r, hl, i, h => by
    rcases List.mem_cons.1 h with e | h
    · subst e; exact hl.1
    · exact hl.2.at h
/-- The operations that have come up: with each, all that it waits for. -/
def Closed (full : Array Oper) (l : Array Bool) : Prop := ∀ (i : Nat) (o : Oper), full[i]? = some o → l.getD i false = true → ∀ e ∈ o.after, Region.binds .any e = true → l.getD e.on false = true
theorem Closed.none (full : Array Oper) (n : Nat) : Closed full (Array.replicate n false) := fun i o _ h => by rw [none_listed] at h; cases h
theorem Closed.step {full : Array Oper} {l : Array Bool} (h : Closed full l) {i : Nat} {o : Oper} (ho : full[i]? = some o) (hedge : ∀ e ∈ o.after, Region.binds .any e = true → l.getD e.on false = true) : Closed full (l.setIfInBounds i true) := fun j oj hj hl e he hb => by
  by_cases hij : i = j
  · subst hij
    rw [ho] at hj
    injection hj with hj
    subst hj
    exact getD_true (hedge e he hb)
  · rw [getD_set_ne false hij] at hl
    exact getD_true (h j oj hj hl e he hb)
end
end Rg
end Go.Proofs.YtfboipfpnkngdaaDoor
end
section
namespace Go.Proofs.YtfboipfpnkngdaaDoor
open Go.RowKit
namespace Rg
/-- All that was there is as it was, but block g. -/
structure Kp (g : Nat) (w w' : World) : Prop where
  os : w'.os = w.os
  tape : w'.tape = w.tape
  output : w'.output = w.output
  size : w.heap.size ≤ w'.heap.size
  block : ∀ k, k < w.heap.size → k ≠ g → w'.heap[k]? = w.heap[k]?
theorem Kp.refl (g : Nat) (w : World) : Kp g w w := ⟨rfl, rfl, rfl, Nat.le_refl _, fun _ _ _ => rfl⟩
theorem Kp.trans {g : Nat} {a b c : World} (h : Kp g a b) (k : Below b.heap.size b c) : Kp g a c :=
  ⟨k.os.trans h.os, k.tape.trans h.tape, k.output.trans h.output, Nat.le_trans h.size k.size, fun i hi hg => (k.block i (Nat.lt_of_lt_of_le hi h.size)).trans (h.block i hi hg)⟩
theorem heap_setCells (g : Nat) (k : Nat) (hk : k ≠ g) : ∀ (vs : List Value) (o : Nat) (w : World), (w.setCells g o vs).heap[k]? = w.heap[k]?
  | [], _, _ => rfl
  | v :: r, o, w => by
    rw [World.setCells, heap_setCells g k hk r, Below.heap_setCell _ _ _ _ hk]
theorem Kp.put {g b off : Nat} {vs : List Value} {a w : World} (h : Kp g a w) (hb : b = g ∨ a.heap.size ≤ b) : Kp g a (w.setCells b off vs) := by
  have hB := below_setCells (B := 0) (w0 := w) b (Nat.zero_le _) vs off w (Below.refl _ _)
  refine ⟨hB.os.trans h.os, hB.tape.trans h.tape, hB.output.trans h.output, by rw [size_setCells]; exact h.size, fun k hk hg => ?_⟩
  rw [heap_setCells b k (by rcases hb with e | e <;> omega) vs off w]
  exact h.block k hk hg
theorem Mm.two {w : World} {l : List (Nat × List Value)} (h : Mm w l) (i j : Nat) {p q : Nat × List Value} (hi : l[i]? = some p) (hj : l[j]? = some q) (hij : i ≠ j) : Mm w [p, q] := by
  have hpw := List.pairwise_iff_getElem.1 h.nd
  obtain ⟨hi1, hi2⟩ := List.getElem?_eq_some_iff.1 hi
  obtain ⟨hj1, hj2⟩ := List.getElem?_eq_some_iff.1 hj
  have hne : p.1 ≠ q.1 := by
    rcases Nat.lt_or_ge i j with h' | h'
    · have := hpw i j hi1 hj1 h'
      rw [hi2, hj2] at this
      exact this
    · have := hpw j i hj1 hi1 (by omega)
      rw [hi2, hj2] at this
      exact this.symm
  refine ⟨fun r hr => ?_, ?_⟩
  · simp only [List.mem_cons, List.not_mem_nil, or_false] at hr
    rcases hr with e | e
    · rw [e]; exact h.blk p (List.mem_of_getElem? hi)
    · rw [e]; exact h.blk q (List.mem_of_getElem? hj)
  · exact List.Pairwise.cons (fun r hr => by rw [List.mem_singleton.1 hr]; exact hne) (List.pairwise_singleton _ _)
end Rg
end Go.Proofs.YtfboipfpnkngdaaDoor
end
section
namespace Go.Proofs.YtfboipfpnkngdaaDoor
open Go.RowKit
namespace Rg
abbrev U (n : Nat) : Value := .int .u64 (n : Int)
abbrev Z8 (n : Nat) : Value := .int .u8 (n : Int)
abbrev V (l : List Value) : Value := .agg l.toArray
theorem ex_loadC {ρ : Operand → Value} {o : Oper} {x : Operand} {g off : Nat} {t : TypeId} {v : Value} {cs : List Value} {w : World} {l : List (Nat × List Value)} (h : Mm w l) (k : Nat) (hk : l[k]? = some (g, cs)) (ho : o.op = .load t x) (hx : ρ x = PT g off) (ha : ∀ w, (isAgg t).run Tryd.prog w = .ok false w) (hc : cs[off]? = some v) :
    (execOp ρ o).run Tryd.prog w = .ok (.value v) w := by
  have c0 := h.cell (List.mem_of_getElem? hk) hc
  clear h hk hc
  simp only [execOp, ho, hx]
  go_simp
theorem ex_boxT {ρ : Operand → Value} {o : Oper} {x : Operand} {t : TypeId} {cs : List Value} {w : World} (ho : o.op = .box t x) (hx : ρ x = .agg cs.toArray) :
    (execOp ρ o).run Tryd.prog w = .ok (.value (.pointer (some ⟨w.heap.size, 0, none⟩))) (w.alloc (.cells cs.toArray t)) := by
  simp only [execOp, ho, hx]
  go_simp
theorem ex_storeT {ρ : Operand → Value} {o : Oper} {x y : Operand} {g off : Nat} {t : TypeId} {cs vs : List Value} {w : World} {l : List (Nat × List Value)} (h : Mm w l) (q : Nat) (hk : l[q]? = some (g, cs)) (ho : o.op = .store t x y) (hx : ρ x = PT g off) (hy : ρ y = .agg vs.toArray) (hs : ∀ w, (sizeOf t).run Tryd.prog w = .ok vs.length w) (h1 : vs.all Value.oneCell' = true) (hb : off + vs.length ≤ cs.length) :
    (execOp ρ o).run Tryd.prog w = .ok .skip (w.setCells g off vs) := by
  have hm := List.mem_of_getElem? hk
  have hq : ∀ j, j < vs.length → ∃ u, cs[off + j]? = some u := fun j hj => ⟨_, List.getElem?_eq_getElem (by omega)⟩
  have hst := run_storeCells_cells (P := Tryd.prog) g off vs 0 w (fun j hj => by
    obtain ⟨u, hu⟩ := hq j hj
    rw [show off + 0 + j = off + j by omega, h.cell hm hu]; rfl) (fun j hj => by
    obtain ⟨u, hu⟩ := hq j hj
    rw [show off + 0 + j = off + j by omega]; exact h.free hm hu) (List.all_eq_true.1 h1)
  clear h hm hq hb hk
  simp only [execOp, ho, hx, hy]
  go_simp
theorem var_T {g n : Nat} {t : TypeId} {cs : List Value} {w : World} {l : List (Nat × List Value)} (h : Mm w l) (q : Nat) (hk : l[q]? = some (g, cs)) (ha : ∀ w, (isAgg t).run Tryd.prog w = .ok true w) (hs : ∀ w, (sizeOf t).run Tryd.prog w = .ok n w) (hn : cs.length = n) : (loadVar t ⟨g, 0, none⟩).run Tryd.prog w = .ok (.agg cs.toArray) w := by
  have hm := List.mem_of_getElem? hk
  have hcell := run_loadCells_list (P := Tryd.prog) (w := w) ⟨g, 0, none⟩ cs (fun j v hv => by
    have e2 := h.cell hm hv
    rw [show (⟨g, 0, none⟩ : Addr).add j = ⟨g, j, none⟩ from by unfold Addr.add; split <;> simp_all]
    exact e2)
  rw [hn] at hcell
  have hf : (loadCellsFrom ⟨g, 0, none⟩ 0 n #[]).run Tryd.prog w = .ok cs.toArray w := hcell
  clear hcell h hk hm
  simp only [loadVar]
  go_simp
def an (a b : Nat) : Nat := (a &&& b) % 4294967296
def ou (a b : Nat) : Nat := (a ||| b) % 4294967296
def sl (a k : Nat) : Nat := a * 2 ^ k % 4294967296
def c32 (a : Nat) : Nat := a % 4294967296
section
variable {ρ : Operand → Value} {o : Oper} {x y : Operand} {a b k : Nat} {w : World}
end
/-- A row of numbers of one kind. -/
def ints (ik : IntKind) (f : Nat → Nat) (n : Nat) : List Value := (List.range n).map fun j => .int ik (f j : Int)
theorem ints_len (ik : IntKind) (f : Nat → Nat) (n : Nat) : (ints ik f n).length = n := by simp [ints]
theorem ints_get (ik : IntKind) (f : Nat → Nat) {n j : Nat} (h : j < n) : (ints ik f n)[j]? = some (.int ik (f j : Int)) := by
  unfold ints
  rw [List.getElem?_map, List.getElem?_eq_getElem (by simpa using h), List.getElem_range]
  rfl
theorem ints_none (ik : IntKind) (f : Nat → Nat) {n j : Nat} (h : n ≤ j) : (ints ik f n)[j]? = none := List.getElem?_eq_none (by rw [ints_len]; exact h)
theorem ints_all (ik : IntKind) (f : Nat → Nat) (n : Nat) : (ints ik f n).all Value.oneCell' = true := by
  rw [List.all_eq_true]
  intro v hv
  obtain ⟨j, _, rfl⟩ := List.mem_map.1 hv
  rfl
def up (f : Nat → Nat) (k v : Nat) : Nat → Nat := fun j => if j = k then v else f j
theorem ints_patch0 (ik : IntKind) (f f' : Nat → Nat) (n : Nat) : patch (ints ik f n) 0 (ints ik f' n) = ints ik f' n := by
  apply List.ext_getElem?
  intro k
  rw [patch_get _ _ _ (by rw [ints_len, ints_len]; omega)]
  by_cases hk : k < n
  · rw [if_pos (by rw [ints_len]; omega), Nat.sub_zero]
  · rw [if_neg (by rw [ints_len]; omega), ints_none _ _ (by omega), ints_none _ _ (by omega)]
/-- A hash, cell by cell. -/
def hs (m : Bool) (s r : Nat → Nat) (c : Nat) : List Value := .bool m :: (ints .u32 s 8 ++ (ints .u8 r 64 ++ [U c]))
theorem hs_made (m : Bool) (s r : Nat → Nat) (c : Nat) : (hs m s r c)[0]? = some (.bool m) := rfl
end Rg
end Go.Proofs.YtfboipfpnkngdaaDoor
end
section
namespace Go.Proofs.YtfboipfpnkngdaaDoor
open Go.RowKit
namespace Rg
set_option maxRecDepth 100000
section
variable {ρ : Operand → Value} {o : Oper} {x y : Operand} {g off j n : Nat} {w : World}
theorem ex_mk25 (ho : o.op = .alloc 25) : (execOp ρ o).run Tryd.prog w = .ok (.value (.pointer (some ⟨w.heap.size, 0, none⟩))) (w.alloc (.cells (ints .u8 (fun _ => 0) 32).toArray 25)) := by
  simp only [execOp, ho]
  go_simp
  rfl
theorem ex_bz25 (ho : o.op = .build 25 #[]) : (execOp ρ o).run Tryd.prog w = .ok (.value (V (ints .u8 (fun _ => 0) 32))) w := by
  simp only [execOp, ho]
  go_simp
  rfl
theorem ex_bz58 (ho : o.op = .build 58 #[]) : (execOp ρ o).run Tryd.prog w = .ok (.value (V (hs false (fun _ => 0) (fun _ => 0) 0))) w := by
  simp only [execOp, ho]
  go_simp
  rfl
end
/-- Whether two digests are the same. -/
theorem eqItems5 (d : Nat) (f f' : Nat → Nat) (n : Nat) (w : World) (is : List Nat) (h : ∀ i ∈ is, i < n) : (Op.eqItems (d + 1) 5 1 (ints .u8 f n).toArray (ints .u8 f' n).toArray is).run Tryd.prog w = .ok (is.all fun j => decide (f j = f' j)) w := by
  induction is with
  | nil => simp [Op.eqItems]
  | cons i is ih0 =>
    have hp : ∀ (q : Nat → Nat), (part 5 (ints .u8 q n).toArray i).run Tryd.prog w = .ok (Z8 (q i)) w := fun q => by
      have e := ints_get .u8 q (h i (by simp))
      unfold part
      simp only [Sem.run_bind, Tryd.isAgg5, Result.andThen_ok]
      simp [e]
    have ih := ih0 (fun j hj => h j (by simp [hj]))
    simp only [Op.eqItems, Sem.run_bind, Nat.mul_one, hp, Result.andThen_ok, run_equalIn_int (P := Tryd.prog) w d 5 .u8 .u8 (f i : Int) (f' i : Int) (by kernel_rfl), List.all_cons]
    by_cases e : f i = f' i
    · simp [e, ih]
    · have e2 : ¬ ((f i : Int) = (f' i : Int)) := by omega
      simp [e, e2]
end Rg
end Go.Proofs.YtfboipfpnkngdaaDoor
end
section
namespace Go.Proofs.YtfboipfpnkngdaaDoor
open Go.RowKit
namespace Rg
section
variable {ρ : Operand → Value} {o : Oper} {x y : Operand} {k : Nat} {w : World}
end
end Rg
end Go.Proofs.YtfboipfpnkngdaaDoor
end
section
namespace Go.Proofs.YtfboipfpnkngdaaDoor
open Go.RowKit
namespace Rg
set_option maxRecDepth 100000
/-- The words of a block. -/
def wd (x : Nat → Nat) (t : Nat) : Nat := ou (ou (ou (sl (c32 (x (4 * t))) 24) (sl (c32 (x (4 * t + 1))) 16)) (sl (c32 (x (4 * t + 2))) 8)) (c32 (x (4 * t + 3)))
def w0 (x : Nat → Nat) : Nat → Nat → Nat
  | 0 => fun _ => 0
  | n + 1 => up (w0 x n) n (wd x n)
/-- The eight numbers on their way. -/
structure St where
  a : Nat
  b : Nat
  c : Nat
  d : Nat
  e : Nat
  f : Nat
  g : Nat
  h : Nat
end Rg
end Go.Proofs.YtfboipfpnkngdaaDoor
end
section
namespace Go.Proofs.YtfboipfpnkngdaaDoor
open Go.RowKit
namespace Rg
set_option maxRecDepth 100000
theorem call39 : ∀ args w, (callFunc 39 args).run Tryd.prog w = .ok (.enter 39 args) w := by intro args w; go_simp
set_option maxRecDepth 100000 in
theorem known_nil  (w : World) :
    Calls Tryd.prog 39 #[.pointer none] w fun e w' => e = .returned (.bool false) ∧ Below w.heap.size w w' := by
  have H0 : Hid (_ ∧ _) := ⟨Mm.nil w, Below.refl w.heap.size w⟩
  go_enter Tryd.func39, Tryd.ntmps39
  refine wp_seq ?_
  refine walk_seqB 1 [.quiet (.bool false)] H0 ?ho1 ?he1
  case ho1 => exact ak (fun _ => ⟨rfl, fun _ _ => rfl⟩) trivial
  intro _ w1 H1
  refine rest0 rfl (then_normal (wp_seq ?_))
  refine walk_seqB 9 [.quiet (.pointer none), .quiet (.bool false), .quiet (.bool false), .gone, .gone, .gone, .gone, .quiet (.bool false), .quiet (.bool false)] H1 ?ho2 ?he2
  case ho2 => exact ak (fun _ => ⟨rfl, fun _ _ => rfl⟩) (ak (by refine fun γ => ⟨rfl, fun w' h => ?_⟩; clear h; go_simp) (ak (fun _ => ⟨rfl, fun _ _ => rfl⟩) (ak (fun γ => rfl) (ak (fun γ => rfl) (ak (fun γ => rfl) (ak (fun γ => rfl) (ak (by refine fun γ => ⟨rfl, fun w' h => ?_⟩; clear h; go_simp) (ak (fun _ => ⟨rfl, fun _ _ => rfl⟩) trivial))))))))
  intro _ w2 H2
  clear H1
  refine rest0 rfl (then_normal (wp_ret ?_))
  repeat (first | refine then_ret ?_ | refine block_ret ?_)
  refine bodyPost_ret (v := .bool false) (by simp [results, Tryd.results39, go_sem, *]) rfl ?_
  exact ⟨rfl, H2.out.2⟩
set_option maxRecDepth 100000 in
theorem known_any (g : Nat) (m : Bool) (s r : Nat → Nat) (c : Nat) (w : World) (hm : Mm w [(g, hs m s r c)]) :
    Calls Tryd.prog 39 #[PT g 0] w fun e w' => e = .returned (.bool m) ∧ Below w.heap.size w w' := by
  have H0 : Hid (_ ∧ _) := ⟨hm, Below.refl w.heap.size w⟩
  clear hm
  go_enter Tryd.func39, Tryd.ntmps39
  refine wp_seq ?_
  refine walk_seqB 1 [.quiet (.bool false)] H0 ?ho1 ?he1
  case ho1 => exact ak (fun _ => ⟨rfl, fun _ _ => rfl⟩) trivial
  intro _ w1 H1
  refine rest0 rfl (then_normal (wp_seq ?_))
  refine walk_seqB 9 [.quiet (PT g 0), .quiet (.bool true), .quiet (.bool true), .quiet (PT g 0), .quiet (PT g 0), .quiet (PT g 0), .quiet (.bool m), .quiet (.bool m), .quiet (.bool m)] H1 ?ho2 ?he2
  case ho2 => exact ak (fun _ => ⟨rfl, fun _ _ => rfl⟩) (ak (by refine fun γ => ⟨rfl, fun w' h => ?_⟩; clear h; go_simp) (ak (fun _ => ⟨rfl, fun _ _ => rfl⟩) (ak (fun _ => ⟨rfl, fun _ _ => rfl⟩) (ak (by refine fun γ => ⟨rfl, fun w' h => ?_⟩; clear h; go_simp) (ak (by refine fun γ => ⟨rfl, fun w' h => ?_⟩; clear h; go_simp) (ak (fun γ => ⟨rfl, fun w' h => ex_loadC h 0 rfl rfl rfl Tryd.isAgg4 (hs_made _ _ _ _)⟩) (ak (by refine fun γ => ⟨rfl, fun w' h => ?_⟩; clear h; go_simp) (ak (fun _ => ⟨rfl, fun _ _ => rfl⟩) trivial))))))))
  intro _ w2 H2
  clear H1
  refine rest0 rfl (then_normal (wp_ret ?_))
  repeat (first | refine then_ret ?_ | refine block_ret ?_)
  refine bodyPost_ret (v := .bool m) (by simp [results, Tryd.results39, go_sem, *]) rfl ?_
  exact ⟨rfl, H2.out.2⟩
set_option maxRecDepth 100000 in
theorem Write_nil (v : Value) (w : World) :
    Calls Tryd.prog 22 #[.pointer none, v] w fun e w' => e = .returned (.int .i64 1) ∧ Below w.heap.size w w' := by
  have H0 : Hid (_ ∧ _) := ⟨Mm.nil w, Below.refl w.heap.size w⟩
  go_enter Tryd.func22, Tryd.ntmps22
  refine wp_seq ?_
  refine walk_seqB 1 [.quiet (.int .i64 0)] H0 ?ho1 ?he1
  case ho1 => exact ak (fun _ => ⟨rfl, fun _ _ => rfl⟩) trivial
  intro _ w1 H1
  refine rest0 rfl (then_normal (wp_seq (wp_seq ?_)))
  refine walk_seqB 3 [.quiet (.pointer none), .call (.bool false), .quiet (.bool true)] H1 ?ho2 ?he2
  case ho2 => exact ak (fun _ => ⟨rfl, fun _ _ => rfl⟩) (ak (fun γ => ⟨rfl, fun w' h => ⟨39, #[.pointer none], exec_call rfl call39 rfl (mpn rfl), known_nil w'⟩⟩) (ak (by refine fun γ => ⟨rfl, fun w' h => ?_⟩; clear h; go_simp) trivial))
  intro _ w2 H2
  clear H1
  refine rest0 rfl (then_normal (wp_cond_true rfl (wp_seq ?_)))
  refine walk_seqB 1 [.quiet (.int .i64 1)] H2 ?ho3 ?he3
  case ho3 => exact ak (fun _ => ⟨rfl, fun _ _ => rfl⟩) trivial
  intro _ w3 H3
  clear H2
  refine rest0 rfl (then_normal (wp_ret ?_))
  repeat (first | refine then_ret ?_ | refine block_ret ?_)
  refine bodyPost_ret (v := .int .i64 1) (by simp [results, Tryd.results22, go_sem, *]) rfl ?_
  exact ⟨rfl, H3.out.2⟩
set_option maxRecDepth 100000 in
theorem Write_un (g : Nat) (s r : Nat → Nat) (c : Nat) (v : Value) (w : World) (hm : Mm w [(g, hs false s r c)]) :
    Calls Tryd.prog 22 #[PT g 0, v] w fun e w' => e = .returned (.int .i64 1) ∧ Below w.heap.size w w' := by
  have H0 : Hid (_ ∧ _) := ⟨hm, Below.refl w.heap.size w⟩
  clear hm
  go_enter Tryd.func22, Tryd.ntmps22
  refine wp_seq ?_
  refine walk_seqB 1 [.quiet (.int .i64 0)] H0 ?ho1 ?he1
  case ho1 => exact ak (fun _ => ⟨rfl, fun _ _ => rfl⟩) trivial
  intro _ w1 H1
  refine rest0 rfl (then_normal (wp_seq (wp_seq ?_)))
  refine walk_seqB 3 [.quiet (PT g 0), .call (.bool false), .quiet (.bool true)] H1 ?ho2 ?he2
  case ho2 => exact ak (fun _ => ⟨rfl, fun _ _ => rfl⟩) (ak (fun γ => ⟨rfl, fun w' h => ⟨39, #[PT g 0], exec_call rfl call39 rfl (mpn rfl), known_any _ _ _ _ _ w' (h.one 0 rfl)⟩⟩) (ak (by refine fun γ => ⟨rfl, fun w' h => ?_⟩; clear h; go_simp) trivial))
  intro _ w2 H2
  clear H1
  refine rest0 rfl (then_normal (wp_cond_true rfl (wp_seq ?_)))
  refine walk_seqB 1 [.quiet (.int .i64 1)] H2 ?ho3 ?he3
  case ho3 => exact ak (fun _ => ⟨rfl, fun _ _ => rfl⟩) trivial
  intro _ w3 H3
  clear H2
  refine rest0 rfl (then_normal (wp_ret ?_))
  repeat (first | refine then_ret ?_ | refine block_ret ?_)
  refine bodyPost_ret (v := .int .i64 1) (by simp [results, Tryd.results22, go_sem, *]) rfl ?_
  exact ⟨rfl, H3.out.2⟩
set_option maxRecDepth 100000 in
theorem Sum_nil  (w : World) :
    Calls Tryd.prog 25 #[.pointer none] w fun e w' => e = .returned (.agg (ints .u8 (fun _ => 0) 32).toArray) ∧ Below w.heap.size w w' := by
  have H0 : Hid (_ ∧ _) := ⟨Mm.nil w, Below.refl w.heap.size w⟩
  go_enter Tryd.func25, Tryd.ntmps25
  refine wp_seq ?_
  refine walk_seqA 1 [.made (ints .u8 (fun _ => 0) 32) 25] (sB H0) ?ho1 ?he1
  case ho1 => exact ak (fun γ => ⟨rfl, fun w' => ex_mk25 rfl⟩) trivial
  intro γ w1 l hM hl
  have H1 : Hid (Mm w1 [(γ 0, ints .u8 (fun _ => 0) 32)] ∧ _) := growB H0 hM (Nat.le_refl _) hl [0] rfl (by decide)
  have o1_0 := ownB H0 hM (Nat.le_refl _) hl (i := 0) rfl
  clear hM hl l
  generalize γ 0 = γ1_0 at H1 o1_0 ⊢
  clear γ
  refine rest0 rfl (then_normal (wp_seq (wp_seq ?_)))
  refine walk_seqB 3 [.quiet (.pointer none), .call (.bool false), .quiet (.bool true)] H1 ?ho2 ?he2
  case ho2 => exact ak (fun _ => ⟨rfl, fun _ _ => rfl⟩) (ak (fun γ => ⟨rfl, fun w' h => ⟨39, #[.pointer none], exec_call rfl call39 rfl (mpn rfl), known_nil w'⟩⟩) (ak (by refine fun γ => ⟨rfl, fun w' h => ?_⟩; clear h; go_simp) trivial))
  intro _ w2 H2
  clear H1
  refine rest0 rfl (then_normal (wp_cond_true rfl (wp_seq ?_)))
  refine walk_seqB 1 [.quiet (.agg (ints .u8 (fun _ => 0) 32).toArray)] H2 ?ho3 ?he3
  case ho3 => exact ak (fun γ => ⟨rfl, fun w' _ => ex_bz25 rfl⟩) trivial
  intro _ w3 H3
  clear H2
  refine rest_at (l := [1]) rfl ?_
  refine rest_store rfl rfl rfl (ex_storeT (vs := ints .u8 (fun _ => 0) 32) H3.out.1 0 rfl rfl rfl rfl (by rw [ints_len]; exact Tryd.sizeOf25) (ints_all _ _ _) (by simp [ints_len])) ?_
  have H4 : Hid (Mm (w3.setCells γ1_0 0 (ints .u8 (fun _ => 0) 32)) [(γ1_0, ints .u8 (fun _ => 0) 32)] ∧ Below w.heap.size w (w3.setCells γ1_0 0 (ints .u8 (fun _ => 0) 32))) := ⟨by
    have h := H3.out.1.put 0 (off := 0) (vs := ints .u8 (fun _ => 0) 32) rfl (by simp [ints_len])
    rw [ints_patch0 _ _ _ _] at h
    exact h, below_setCells _ o1_0.out _ _ _ H3.out.2⟩
  clear H3
  generalize hgw : World.setCells _ _ _ _ = w4 at H4 ⊢
  clear hgw
  refine rest_nil (then_normal (wp_ret ?_))
  repeat (first | refine then_ret ?_ | refine block_ret ?_)
  have hf0 := var_T H4.out.1 0 rfl Tryd.isAgg25 Tryd.sizeOf25 (ints_len _ _ _)
  refine bodyPost_ret (v := .agg (ints .u8 (fun _ => 0) 32).toArray) (by simp [results, Tryd.results25, asAddr, hf0]) rfl ?_
  exact ⟨rfl, H4.out.2⟩
set_option maxRecDepth 100000 in
theorem Sum_un (g : Nat) (s r : Nat → Nat) (c : Nat)  (w : World) (hm : Mm w [(g, hs false s r c)]) :
    Calls Tryd.prog 25 #[PT g 0] w fun e w' => e = .returned (.agg (ints .u8 (fun _ => 0) 32).toArray) ∧ Below w.heap.size w w' := by
  have H0 : Hid (_ ∧ _) := ⟨hm, Below.refl w.heap.size w⟩
  clear hm
  go_enter Tryd.func25, Tryd.ntmps25
  refine wp_seq ?_
  refine walk_seqA 1 [.made (ints .u8 (fun _ => 0) 32) 25] (sB H0) ?ho1 ?he1
  case ho1 => exact ak (fun γ => ⟨rfl, fun w' => ex_mk25 rfl⟩) trivial
  intro γ w1 l hM hl
  have H1 : Hid (Mm w1 [(γ 0, ints .u8 (fun _ => 0) 32), (g, hs false s r c)] ∧ _) := growB H0 hM (Nat.le_refl _) hl [0] rfl (by decide)
  have o1_0 := ownB H0 hM (Nat.le_refl _) hl (i := 0) rfl
  clear hM hl l
  generalize γ 0 = γ1_0 at H1 o1_0 ⊢
  clear γ
  refine rest0 rfl (then_normal (wp_seq (wp_seq ?_)))
  refine walk_seqB 3 [.quiet (PT g 0), .call (.bool false), .quiet (.bool true)] H1 ?ho2 ?he2
  case ho2 => exact ak (fun _ => ⟨rfl, fun _ _ => rfl⟩) (ak (fun γ => ⟨rfl, fun w' h => ⟨39, #[PT g 0], exec_call rfl call39 rfl (mpn rfl), known_any _ _ _ _ _ w' (h.one 1 rfl)⟩⟩) (ak (by refine fun γ => ⟨rfl, fun w' h => ?_⟩; clear h; go_simp) trivial))
  intro _ w2 H2
  clear H1
  refine rest0 rfl (then_normal (wp_cond_true rfl (wp_seq ?_)))
  refine walk_seqB 1 [.quiet (.agg (ints .u8 (fun _ => 0) 32).toArray)] H2 ?ho3 ?he3
  case ho3 => exact ak (fun γ => ⟨rfl, fun w' _ => ex_bz25 rfl⟩) trivial
  intro _ w3 H3
  clear H2
  refine rest_at (l := [1]) rfl ?_
  refine rest_store rfl rfl rfl (ex_storeT (vs := ints .u8 (fun _ => 0) 32) H3.out.1 0 rfl rfl rfl rfl (by rw [ints_len]; exact Tryd.sizeOf25) (ints_all _ _ _) (by simp [ints_len])) ?_
  have H4 : Hid (Mm (w3.setCells γ1_0 0 (ints .u8 (fun _ => 0) 32)) [(γ1_0, ints .u8 (fun _ => 0) 32), (g, hs false s r c)] ∧ Below w.heap.size w (w3.setCells γ1_0 0 (ints .u8 (fun _ => 0) 32))) := ⟨by
    have h := H3.out.1.put 0 (off := 0) (vs := ints .u8 (fun _ => 0) 32) rfl (by simp [ints_len])
    rw [ints_patch0 _ _ _ _] at h
    exact h, below_setCells _ o1_0.out _ _ _ H3.out.2⟩
  clear H3
  generalize hgw : World.setCells _ _ _ _ = w4 at H4 ⊢
  clear hgw
  refine rest_nil (then_normal (wp_ret ?_))
  repeat (first | refine then_ret ?_ | refine block_ret ?_)
  have hf0 := var_T H4.out.1 0 rfl Tryd.isAgg25 Tryd.sizeOf25 (ints_len _ _ _)
  refine bodyPost_ret (v := .agg (ints .u8 (fun _ => 0) 32).toArray) (by simp [results, Tryd.results25, asAddr, hf0]) rfl ?_
  exact ⟨rfl, H4.out.2⟩
set_option maxRecDepth 100000 in
theorem Len_nil  (w : World) :
    Calls Tryd.prog 27 #[.pointer none] w fun e w' => e = .returned (.int .i64 0) ∧ Below w.heap.size w w' := by
  have H0 : Hid (_ ∧ _) := ⟨Mm.nil w, Below.refl w.heap.size w⟩
  go_enter Tryd.func27, Tryd.ntmps27
  refine wp_seq ?_
  refine walk_seqB 1 [.quiet (.int .i64 0)] H0 ?ho1 ?he1
  case ho1 => exact ak (fun _ => ⟨rfl, fun _ _ => rfl⟩) trivial
  intro _ w1 H1
  refine rest0 rfl (then_normal (wp_seq (wp_seq ?_)))
  refine walk_seqB 3 [.quiet (.pointer none), .call (.bool false), .quiet (.bool true)] H1 ?ho2 ?he2
  case ho2 => exact ak (fun _ => ⟨rfl, fun _ _ => rfl⟩) (ak (fun γ => ⟨rfl, fun w' h => ⟨39, #[.pointer none], exec_call rfl call39 rfl (mpn rfl), known_nil w'⟩⟩) (ak (by refine fun γ => ⟨rfl, fun w' h => ?_⟩; clear h; go_simp) trivial))
  intro _ w2 H2
  clear H1
  refine rest0 rfl (then_normal (wp_cond_true rfl (wp_seq ?_)))
  refine walk_seqB 1 [.quiet (.int .i64 0)] H2 ?ho3 ?he3
  case ho3 => exact ak (fun _ => ⟨rfl, fun _ _ => rfl⟩) trivial
  intro _ w3 H3
  clear H2
  refine rest0 rfl (then_normal (wp_ret ?_))
  repeat (first | refine then_ret ?_ | refine block_ret ?_)
  refine bodyPost_ret (v := .int .i64 0) (by simp [results, Tryd.results27, go_sem, *]) rfl ?_
  exact ⟨rfl, H3.out.2⟩
set_option maxRecDepth 100000 in
theorem Len_un (g : Nat) (s r : Nat → Nat) (c : Nat)  (w : World) (hm : Mm w [(g, hs false s r c)]) :
    Calls Tryd.prog 27 #[PT g 0] w fun e w' => e = .returned (.int .i64 0) ∧ Below w.heap.size w w' := by
  have H0 : Hid (_ ∧ _) := ⟨hm, Below.refl w.heap.size w⟩
  clear hm
  go_enter Tryd.func27, Tryd.ntmps27
  refine wp_seq ?_
  refine walk_seqB 1 [.quiet (.int .i64 0)] H0 ?ho1 ?he1
  case ho1 => exact ak (fun _ => ⟨rfl, fun _ _ => rfl⟩) trivial
  intro _ w1 H1
  refine rest0 rfl (then_normal (wp_seq (wp_seq ?_)))
  refine walk_seqB 3 [.quiet (PT g 0), .call (.bool false), .quiet (.bool true)] H1 ?ho2 ?he2
  case ho2 => exact ak (fun _ => ⟨rfl, fun _ _ => rfl⟩) (ak (fun γ => ⟨rfl, fun w' h => ⟨39, #[PT g 0], exec_call rfl call39 rfl (mpn rfl), known_any _ _ _ _ _ w' (h.one 0 rfl)⟩⟩) (ak (by refine fun γ => ⟨rfl, fun w' h => ?_⟩; clear h; go_simp) trivial))
  intro _ w2 H2
  clear H1
  refine rest0 rfl (then_normal (wp_cond_true rfl (wp_seq ?_)))
  refine walk_seqB 1 [.quiet (.int .i64 0)] H2 ?ho3 ?he3
  case ho3 => exact ak (fun _ => ⟨rfl, fun _ _ => rfl⟩) trivial
  intro _ w3 H3
  clear H2
  refine rest0 rfl (then_normal (wp_ret ?_))
  repeat (first | refine then_ret ?_ | refine block_ret ?_)
  refine bodyPost_ret (v := .int .i64 0) (by simp [results, Tryd.results27, go_sem, *]) rfl ?_
  exact ⟨rfl, H3.out.2⟩
set_option maxRecDepth 100000 in
theorem Clone_nil  (w : World) :
    Calls Tryd.prog 26 #[.pointer none] w fun e w' => e = .returned (.pointer none) ∧ Below w.heap.size w w' := by
  have H0 : Hid (_ ∧ _) := ⟨Mm.nil w, Below.refl w.heap.size w⟩
  go_enter Tryd.func26, Tryd.ntmps26
  refine wp_seq ?_
  refine walk_seqB 1 [.quiet (.pointer none)] H0 ?ho1 ?he1
  case ho1 => exact ak (fun _ => ⟨rfl, fun _ _ => rfl⟩) trivial
  intro _ w1 H1
  refine rest0 rfl (then_normal (wp_seq (wp_seq ?_)))
  refine walk_seqB 3 [.quiet (.pointer none), .call (.bool false), .quiet (.bool true)] H1 ?ho2 ?he2
  case ho2 => exact ak (fun _ => ⟨rfl, fun _ _ => rfl⟩) (ak (fun γ => ⟨rfl, fun w' h => ⟨39, #[.pointer none], exec_call rfl call39 rfl (mpn rfl), known_nil w'⟩⟩) (ak (by refine fun γ => ⟨rfl, fun w' h => ?_⟩; clear h; go_simp) trivial))
  intro _ w2 H2
  clear H1
  refine rest0 rfl (then_normal (wp_cond_true rfl (wp_seq ?_)))
  refine walk_seqB 1 [.quiet (.pointer none)] H2 ?ho3 ?he3
  case ho3 => exact ak (fun _ => ⟨rfl, fun _ _ => rfl⟩) trivial
  intro _ w3 H3
  clear H2
  refine rest0 rfl (then_normal (wp_ret ?_))
  repeat (first | refine then_ret ?_ | refine block_ret ?_)
  refine bodyPost_ret (v := .pointer none) (by simp [results, Tryd.results26, go_sem, *]) rfl ?_
  exact ⟨rfl, H3.out.2⟩
set_option maxRecDepth 100000 in
theorem Clone_un (g : Nat) (s r : Nat → Nat) (c : Nat)  (w : World) (hm : Mm w [(g, hs false s r c)]) :
    Calls Tryd.prog 26 #[PT g 0] w fun e w' => e = .returned (.pointer none) ∧ Below w.heap.size w w' := by
  have H0 : Hid (_ ∧ _) := ⟨hm, Below.refl w.heap.size w⟩
  clear hm
  go_enter Tryd.func26, Tryd.ntmps26
  refine wp_seq ?_
  refine walk_seqB 1 [.quiet (.pointer none)] H0 ?ho1 ?he1
  case ho1 => exact ak (fun _ => ⟨rfl, fun _ _ => rfl⟩) trivial
  intro _ w1 H1
  refine rest0 rfl (then_normal (wp_seq (wp_seq ?_)))
  refine walk_seqB 3 [.quiet (PT g 0), .call (.bool false), .quiet (.bool true)] H1 ?ho2 ?he2
  case ho2 => exact ak (fun _ => ⟨rfl, fun _ _ => rfl⟩) (ak (fun γ => ⟨rfl, fun w' h => ⟨39, #[PT g 0], exec_call rfl call39 rfl (mpn rfl), known_any _ _ _ _ _ w' (h.one 0 rfl)⟩⟩) (ak (by refine fun γ => ⟨rfl, fun w' h => ?_⟩; clear h; go_simp) trivial))
  intro _ w2 H2
  clear H1
  refine rest0 rfl (then_normal (wp_cond_true rfl (wp_seq ?_)))
  refine walk_seqB 1 [.quiet (.pointer none)] H2 ?ho3 ?he3
  case ho3 => exact ak (fun _ => ⟨rfl, fun _ _ => rfl⟩) trivial
  intro _ w3 H3
  clear H2
  refine rest0 rfl (then_normal (wp_ret ?_))
  repeat (first | refine then_ret ?_ | refine block_ret ?_)
  refine bodyPost_ret (v := .pointer none) (by simp [results, Tryd.results26, go_sem, *]) rfl ?_
  exact ⟨rfl, H3.out.2⟩
end Rg
end Go.Proofs.YtfboipfpnkngdaaDoor
end
section
namespace Go.Proofs.YtfboipfpnkngdaaDoor
open Go.RowKit
namespace Rg
theorem rounds_in {P : Program} {c : Code} {Q : Exit → Act → World → Prop} {n : Nat} {a : Act} {w : World} (h : c.wp P (Exit.then (Code.rounds P c Q n) Q) a w) : Code.rounds P c Q (n + 1) a w := h
theorem all_self (f : Nat → Nat) (n : Nat) : ((List.range n).all fun j => decide (f j = f j)) = true := by simp
theorem call22 : ∀ args w, (callFunc 22 args).run Tryd.prog w = .ok (.enter 22 args) w := by intro args w; go_simp
theorem call25 : ∀ args w, (callFunc 25 args).run Tryd.prog w = .ok (.enter 25 args) w := by intro args w; go_simp
theorem call26 : ∀ args w, (callFunc 26 args).run Tryd.prog w = .ok (.enter 26 args) w := by intro args w; go_simp
theorem call27 : ∀ args w, (callFunc 27 args).run Tryd.prog w = .ok (.enter 27 args) w := by intro args w; go_simp
section
variable {ρ : Operand → Value} {o : Oper} {x y : Operand} {g : Nat} {f f' : Nat → Nat} {t : Bool} {w : World}
theorem run_eq25 (D : Nat) (f f' : Nat → Nat) (w : World) : (Op.equalIn (D + 2) 25 (V (ints .u8 f 32)) (V (ints .u8 f' 32))).run Tryd.prog w = .ok ((List.range 32).all fun j => decide (f j = f' j)) w := by
  obtain ⟨i, hi⟩ : ∃ i, Tryd.prog.info? 5 = some i := Option.isSome_iff_exists.1 (by kernel_rfl)
  have e := run_equalIn_array (P := Tryd.prog) (w := w) (D + 1) (t := 25) (e := 5) (n := 32) (ints .u8 f 32).toArray (ints .u8 f' 32).toArray Tryd.underlying25 hi
  rw [show Tryd.prog.cellsOf 5 = 1 by kernel_rfl, eqItems5 D f f' 32 w (List.range 32) (fun i hi => List.mem_range.1 hi)] at e
  exact e
theorem ex_ne25 (ht : ((List.range 32).all fun j => decide (f j = f' j)) = t) (ho : o.op = .binOp .neq 25 x y 25) (hx : ρ x = V (ints .u8 f 32)) (hy : ρ y = V (ints .u8 f' 32)) : (execOp ρ o).run Tryd.prog w = .ok (.value (.bool !t)) w := by
  have he := fun w => run_eq25 9998 f f' w
  rw [ht] at he
  simp only [execOp, ho, hx, hy]
  clear hx hy ht
  go_simp
theorem ex_bs43 (ho : o.op = .buildSlice 43 2 #[(0, x), (1, y)]) (hx : ρ x = .pointer none) (hy : ρ y = PT g 0) : (execOp ρ o).run Tryd.prog w = .ok (.value (.slice (some ⟨w.heap.size, 0, none⟩) 2 2)) (w.alloc (.cells ([.pointer none, PT g 0] : List Value).toArray 41)) := by
  simp only [execOp, ho, List.map_toArray, List.map_cons, List.map_nil, hx, hy]
  kernel_rfl
end
set_option maxHeartbeats 1000000 in
set_option maxRecDepth 100000 in
theorem nil_any (v : Value) (w : World) :
    Calls Tryd.prog 6 #[v] w fun e w' => e = .returned (.bool true) ∧ Below w.heap.size w w' := by
  have H0 : Hid (_ ∧ _) := ⟨Mm.nil w, Below.refl w.heap.size w⟩
  go_enter Tryd.func6, Tryd.ntmps6
  refine wp_seq ?_
  refine walk_seqB 1 [.quiet (.bool false)] H0 ?ho1 ?he1
  case ho1 => exact ak (fun _ => ⟨rfl, fun _ _ => rfl⟩) trivial
  intro _ w1 H1
  refine rest0 rfl (then_normal (wp_seq ?_))
  refine walk_seqA 2 [.quiet (.agg (hs false (fun _ => 0) (fun _ => 0) 0).toArray), .made (hs false (fun _ => 0) (fun _ => 0) 0) 58] (sB H1) ?ho2 ?he2
  case ho2 => exact ak (fun γ => ⟨rfl, fun w' _ => ex_bz58 rfl⟩) (ak (fun γ => ⟨rfl, fun w' => ex_boxT rfl rfl⟩) trivial)
  intro γ w2 l hM hl
  have H2 : Hid (Mm w2 [(γ 1, hs false (fun _ => 0) (fun _ => 0) 0)] ∧ _) := growB H1 hM (Nat.le_refl _) hl [1] rfl (by decide)
  have o2_1 := ownB H1 hM (Nat.le_refl _) hl (i := 1) rfl
  clear hM hl l H1
  generalize γ 1 = γ2_1 at H2 o2_1 ⊢
  clear γ
  refine rest_at (l := [2, 3]) rfl ?_
  refine rest_set (d := 8) (v := .slice (some ⟨w2.heap.size, 0, none⟩) 2 2) (w' := w2.alloc (.cells ([.pointer none, PT γ2_1 0] : List Value).toArray 41)) rfl rfl rfl (ex_bs43 rfl rfl rfl) ?_
  simp only [Act.put, sa, sz, ss]
  have o_γs3 : Hid (w.heap.size ≤ w2.heap.size) := H2.out.2.size
  have H3 : Hid (Mm (w2.alloc (.cells ([.pointer none, PT γ2_1 0] : List Value).toArray 41)) ((w2.heap.size, [.pointer none, PT γ2_1 0]) :: [(γ2_1, hs false (fun _ => 0) (fun _ => 0) 0)]) ∧ Below w.heap.size w (w2.alloc (.cells ([.pointer none, PT γ2_1 0] : List Value).toArray 41))) := ⟨H2.out.1.alloc _ 41 rfl, H2.out.2.alloc H2.out.2.size _⟩
  clear H2
  generalize hgw : w2.alloc (.cells ([.pointer none, PT γ2_1 0] : List Value).toArray 41) = w3 at H3 ⊢
  clear hgw
  generalize w2.heap.size = γs3 at o_γs3 H3 ⊢
  refine rest_set (d := 3) rfl rfl rfl rfl ?_
  simp only [Act.put, sa, sz, ss]
  refine rest_nil (then_normal ?_)
  refine wp_seq (wp_seq ?_)
  refine walk_seqB 1 [.quiet (.int .i64 0)] H3 ?ho3 ?he3
  case ho3 => exact ak (fun _ => ⟨rfl, fun _ _ => rfl⟩) trivial
  intro _ w4 H4
  clear H3
  refine rest0 rfl (then_normal (wp_block ?_))
  refine wp_loop_rounds 3 ?_
  refine rounds_in (n := 2) ?_
  refine wp_seq (wp_seq ?_)
  refine walk_seqB 4 [.quiet (.int .i64 0), .quiet (.slice (some ⟨γs3, 0, none⟩) 2 2), .quiet (.int .i64 2), .quiet (.bool true)] H4 ?ho4 ?he4
  case ho4 => exact ak (fun _ => ⟨rfl, fun _ _ => rfl⟩) (ak (fun _ => ⟨rfl, fun _ _ => rfl⟩) (ak (by refine fun γ => ⟨rfl, fun w' h => ?_⟩; clear h; go_simp) (ak (by refine fun γ => ⟨rfl, fun w' h => ?_⟩; clear h; go_simp <;> omega) trivial)))
  intro _ w5 H5
  clear H4
  refine rest0 rfl (then_normal (wp_cond_true rfl ?_))
  refine wp_skip (then_normal ?_)
  refine wp_seq (wp_block (wp_seq ?_))
  refine walk_seqB 5 [.quiet (.slice (some ⟨γs3, 0, none⟩) 2 2), .quiet (.int .i64 0), .quiet (PT γs3 0), .quiet (.pointer none), .quiet (.pointer none)] H5 ?ho5 ?he5
  case ho5 => exact ak (fun _ => ⟨rfl, fun _ _ => rfl⟩) (ak (fun _ => ⟨rfl, fun _ _ => rfl⟩) (ak (by refine fun γ => ⟨rfl, fun w' h => ?_⟩; clear h; go_simp) (ak (fun γ => ⟨rfl, fun w' h => ex_loadC h 0 rfl rfl rfl Tryd.isAgg41 rfl⟩) (ak (fun _ => ⟨rfl, fun _ _ => rfl⟩) trivial))))
  intro _ w6 H6
  clear H5
  refine rest0 rfl (then_normal (wp_seq ?_))
  refine walk_seqB 20 [.quiet (.pointer none), .quiet (v), .call (.int .i64 1), .quiet (.bool false), .quiet (.bool false), .quiet (.pointer none), .call (.agg (ints .u8 (fun _ => 0) 32).toArray), .quiet (.agg (ints .u8 (fun _ => 0) 32).toArray), .quiet (.bool false), .quiet (.bool false), .quiet (.bool false), .quiet (.pointer none), .call (.int .i64 0), .quiet (.bool false), .quiet (.bool false), .quiet (.bool false), .quiet (.pointer none), .call (.pointer none), .quiet (.bool false), .quiet (.bool false)] H6 ?ho6 ?he6
  case ho6 => exact ak (fun _ => ⟨rfl, fun _ _ => rfl⟩) (ak (fun _ => ⟨rfl, fun _ _ => rfl⟩) (ak (fun γ => ⟨rfl, fun w' h => ⟨22, #[.pointer none, v], exec_call rfl call22 rfl (mpn rfl), Write_nil v w'⟩⟩) (ak (by refine fun γ => ⟨rfl, fun w' h => ?_⟩; clear h; go_simp) (ak (fun _ => ⟨rfl, fun _ _ => rfl⟩) (ak (fun _ => ⟨rfl, fun _ _ => rfl⟩) (ak (fun γ => ⟨rfl, fun w' h => ⟨25, #[.pointer none], exec_call rfl call25 rfl (mpn rfl), Sum_nil w'⟩⟩) (ak (fun γ => ⟨rfl, fun w' _ => ex_bz25 rfl⟩) (ak (fun γ => ⟨rfl, fun w' _ => ex_ne25 (all_self _ _) rfl rfl rfl⟩) (ak (by refine fun γ => ⟨rfl, fun w' h => ?_⟩; clear h; go_simp) (ak (fun _ => ⟨rfl, fun _ _ => rfl⟩) (ak (fun _ => ⟨rfl, fun _ _ => rfl⟩) (ak (fun γ => ⟨rfl, fun w' h => ⟨27, #[.pointer none], exec_call rfl call27 rfl (mpn rfl), Len_nil w'⟩⟩) (ak (by refine fun γ => ⟨rfl, fun w' h => ?_⟩; clear h; go_simp <;> omega) (ak (by refine fun γ => ⟨rfl, fun w' h => ?_⟩; clear h; go_simp) (ak (fun _ => ⟨rfl, fun _ _ => rfl⟩) (ak (fun _ => ⟨rfl, fun _ _ => rfl⟩) (ak (fun γ => ⟨rfl, fun w' h => ⟨26, #[.pointer none], exec_call rfl call26 rfl (mpn rfl), Clone_nil w'⟩⟩) (ak (by refine fun γ => ⟨rfl, fun w' h => ?_⟩; clear h; go_simp) (ak (by refine fun γ => ⟨rfl, fun w' h => ?_⟩; clear h; go_simp) trivial)))))))))))))))))))
  intro _ w7 H7
  clear H6
  refine rest0 rfl (then_normal (wp_cond_false rfl ?_))
  refine wp_skip (block_normal (then_normal ?_))
  refine walk_seqB 2 [.quiet (.int .i64 0), .quiet (.int .i64 1)] H7 ?ho7 ?he7
  case ho7 => exact ak (fun _ => ⟨rfl, fun _ _ => rfl⟩) (ak (by refine fun γ => ⟨rfl, fun w' h => ?_⟩; clear h; go_simp; rw [IntKind.wrap_i64]; omega) trivial)
  intro _ w8 H8
  clear H7
  refine rest_at (l := [2]) rfl ?_
  refine rest_set (d := 4) rfl rfl rfl rfl ?_
  simp only [Act.put, sa, sz, ss]
  refine rest_nil (then_normal ?_)
  refine rounds_in (n := 1) ?_
  refine wp_seq (wp_seq ?_)
  refine walk_seqB 4 [.quiet (.int .i64 1), .quiet (.slice (some ⟨γs3, 0, none⟩) 2 2), .quiet (.int .i64 2), .quiet (.bool true)] H8 ?ho8 ?he8
  case ho8 => exact ak (fun _ => ⟨rfl, fun _ _ => rfl⟩) (ak (fun _ => ⟨rfl, fun _ _ => rfl⟩) (ak (by refine fun γ => ⟨rfl, fun w' h => ?_⟩; clear h; go_simp) (ak (by refine fun γ => ⟨rfl, fun w' h => ?_⟩; clear h; go_simp <;> omega) trivial)))
  intro _ w9 H9
  clear H8
  refine rest0 rfl (then_normal (wp_cond_true rfl ?_))
  refine wp_skip (then_normal ?_)
  refine wp_seq (wp_block (wp_seq ?_))
  refine walk_seqB 5 [.quiet (.slice (some ⟨γs3, 0, none⟩) 2 2), .quiet (.int .i64 1), .quiet (PT γs3 1), .quiet (PT γ2_1 0), .quiet (PT γ2_1 0)] H9 ?ho9 ?he9
  case ho9 => exact ak (fun _ => ⟨rfl, fun _ _ => rfl⟩) (ak (fun _ => ⟨rfl, fun _ _ => rfl⟩) (ak (by refine fun γ => ⟨rfl, fun w' h => ?_⟩; clear h; go_simp) (ak (fun γ => ⟨rfl, fun w' h => ex_loadC h 0 rfl rfl rfl Tryd.isAgg41 rfl⟩) (ak (fun _ => ⟨rfl, fun _ _ => rfl⟩) trivial))))
  intro _ w10 H10
  clear H9
  refine rest0 rfl (then_normal (wp_seq ?_))
  refine walk_seqB 20 [.quiet (PT γ2_1 0), .quiet (v), .call (.int .i64 1), .quiet (.bool false), .quiet (.bool false), .quiet (PT γ2_1 0), .call (.agg (ints .u8 (fun _ => 0) 32).toArray), .quiet (.agg (ints .u8 (fun _ => 0) 32).toArray), .quiet (.bool false), .quiet (.bool false), .quiet (.bool false), .quiet (PT γ2_1 0), .call (.int .i64 0), .quiet (.bool false), .quiet (.bool false), .quiet (.bool false), .quiet (PT γ2_1 0), .call (.pointer none), .quiet (.bool false), .quiet (.bool false)] H10 ?ho10 ?he10
  case ho10 => exact ak (fun _ => ⟨rfl, fun _ _ => rfl⟩) (ak (fun _ => ⟨rfl, fun _ _ => rfl⟩) (ak (fun γ => ⟨rfl, fun w' h => ⟨22, #[PT γ2_1 0, v], exec_call rfl call22 rfl (mpn rfl), Write_un _ _ _ _ v w' (h.one 1 rfl)⟩⟩) (ak (by refine fun γ => ⟨rfl, fun w' h => ?_⟩; clear h; go_simp) (ak (fun _ => ⟨rfl, fun _ _ => rfl⟩) (ak (fun _ => ⟨rfl, fun _ _ => rfl⟩) (ak (fun γ => ⟨rfl, fun w' h => ⟨25, #[PT γ2_1 0], exec_call rfl call25 rfl (mpn rfl), Sum_un _ _ _ _ w' (h.one 1 rfl)⟩⟩) (ak (fun γ => ⟨rfl, fun w' _ => ex_bz25 rfl⟩) (ak (fun γ => ⟨rfl, fun w' _ => ex_ne25 (all_self _ _) rfl rfl rfl⟩) (ak (by refine fun γ => ⟨rfl, fun w' h => ?_⟩; clear h; go_simp) (ak (fun _ => ⟨rfl, fun _ _ => rfl⟩) (ak (fun _ => ⟨rfl, fun _ _ => rfl⟩) (ak (fun γ => ⟨rfl, fun w' h => ⟨27, #[PT γ2_1 0], exec_call rfl call27 rfl (mpn rfl), Len_un _ _ _ _ w' (h.one 1 rfl)⟩⟩) (ak (by refine fun γ => ⟨rfl, fun w' h => ?_⟩; clear h; go_simp <;> omega) (ak (by refine fun γ => ⟨rfl, fun w' h => ?_⟩; clear h; go_simp) (ak (fun _ => ⟨rfl, fun _ _ => rfl⟩) (ak (fun _ => ⟨rfl, fun _ _ => rfl⟩) (ak (fun γ => ⟨rfl, fun w' h => ⟨26, #[PT γ2_1 0], exec_call rfl call26 rfl (mpn rfl), Clone_un _ _ _ _ w' (h.one 1 rfl)⟩⟩) (ak (by refine fun γ => ⟨rfl, fun w' h => ?_⟩; clear h; go_simp) (ak (by refine fun γ => ⟨rfl, fun w' h => ?_⟩; clear h; go_simp) trivial)))))))))))))))))))
  intro _ w11 H11
  clear H10
  refine rest0 rfl (then_normal (wp_cond_false rfl ?_))
  refine wp_skip (block_normal (then_normal ?_))
  refine walk_seqB 2 [.quiet (.int .i64 1), .quiet (.int .i64 2)] H11 ?ho11 ?he11
  case ho11 => exact ak (fun _ => ⟨rfl, fun _ _ => rfl⟩) (ak (by refine fun γ => ⟨rfl, fun w' h => ?_⟩; clear h; go_simp; rw [IntKind.wrap_i64]; omega) trivial)
  intro _ w12 H12
  clear H11
  refine rest_at (l := [2]) rfl ?_
  refine rest_set (d := 4) rfl rfl rfl rfl ?_
  simp only [Act.put, sa, sz, ss]
  refine rest_nil (then_normal ?_)
  refine rounds_in (n := 0) ?_
  refine wp_seq (wp_seq ?_)
  refine walk_seqB 4 [.quiet (.int .i64 2), .quiet (.slice (some ⟨γs3, 0, none⟩) 2 2), .quiet (.int .i64 2), .quiet (.bool false)] H12 ?ho12 ?he12
  case ho12 => exact ak (fun _ => ⟨rfl, fun _ _ => rfl⟩) (ak (fun _ => ⟨rfl, fun _ _ => rfl⟩) (ak (by refine fun γ => ⟨rfl, fun w' h => ?_⟩; clear h; go_simp) (ak (by refine fun γ => ⟨rfl, fun w' h => ?_⟩; clear h; go_simp <;> omega) trivial)))
  intro _ w13 H13
  clear H12
  refine rest0 rfl (then_normal (wp_cond_false rfl ?_))
  refine wp_exit ?_
  repeat refine then_exit ?_
  refine block_exit ?_
  refine then_normal (wp_seq ?_)
  refine walk_seqB 1 [.quiet (.bool true)] H13 ?ho13 ?he13
  case ho13 => exact ak (fun _ => ⟨rfl, fun _ _ => rfl⟩) trivial
  intro _ w14 H14
  clear H13
  refine rest0 rfl (then_normal (wp_ret ?_))
  repeat (first | refine then_ret ?_ | refine block_ret ?_)
  refine bodyPost_ret (v := .bool true) (by simp [results, Tryd.results6, go_sem, *]) rfl ?_
  exact ⟨rfl, H14.out.2⟩
end Rg
end Go.Proofs.YtfboipfpnkngdaaDoor
end
section
namespace Go.Proofs.YtfboipfpnkngdaaDoor
open Go.RowKit
def upd (f : Nat → Int) (k : Nat) (v : Int) (j : Nat) : Int := if j = k then v else f j
namespace Rg
/-- Bytes that can be read: n of them, from o on, in block g. -/
structure Rd (g o n : Nat) (f : Nat → Nat) (w : World) : Prop where
  lt : g < w.heap.size
  at_ : ∀ i, i < n → w.cell? ⟨g, o + i, none⟩ = some (.int .u8 ((f i : Nat) : Int))
theorem Rd.below {g o n : Nat} {f : Nat → Nat} {w w' : World} (h : Rd g o n f w) (hb : Below w.heap.size w w') : Rd g o n f w' :=
  ⟨Nat.lt_of_lt_of_le h.lt hb.size, fun i hi => by rw [hb.cell (p := ⟨g, o + i, none⟩) h.lt]; exact h.at_ i hi⟩
end Rg
/-- v is a slice whose bytes are xs, with room for c. -/
def BSl (w : World) (xs : List Int) (c : Nat) (v : Value) : Prop :=
  (∃ g o, v = .slice (some ⟨g, o, none⟩) xs.length c ∧ g < w.heap.size ∧ xs.length ≤ c ∧ ∀ i, i < xs.length → w.cell? ⟨g, o + i, none⟩ = some (.int .u8 (xs.getD i 0))) ∨ ∃ p, v = .slice p 0 c ∧ xs = []
theorem BSl.full {w : World} {xs : List Int} {c : Nat} (g o : Nat) (hg : g < w.heap.size) (hc : xs.length ≤ c) (h : ∀ i, i < xs.length → w.cell? ⟨g, o + i, none⟩ = some (.int .u8 (xs.getD i 0))) : BSl w xs c (.slice (some ⟨g, o, none⟩) xs.length c) := .inl ⟨g, o, rfl, hg, hc, h⟩
theorem BSl.void {w : World} {xs : List Int} {c : Nat} (p : Option Addr) (hx : xs = []) : BSl w xs c (.slice p 0 c) := .inr ⟨p, rfl, hx⟩
theorem BSl.each {w : World} {xs : List Int} {c : Nat} {M : (v : Value) → BSl w xs c v → Prop} (full : ∀ (g o : Nat) (hg : g < w.heap.size) (hc : xs.length ≤ c) (h : ∀ i, i < xs.length → w.cell? ⟨g, o + i, none⟩ = some (.int .u8 (xs.getD i 0))), M (.slice (some ⟨g, o, none⟩) xs.length c) (BSl.full g o hg hc h)) (void : ∀ (p : Option Addr) (hx : xs = []), M (.slice p 0 c) (BSl.void p hx)) {v : Value} (h : BSl w xs c v) : M v h := by
  rcases h with ⟨g, o, rfl, hg, hc, h⟩ | ⟨p, rfl, hx⟩
  · exact full g o hg hc h
  · exact void p hx
theorem BSl.below {w w' : World} {xs : List Int} {c : Nat} {v : Value} (h : BSl w xs c v) (hb : Below w.heap.size w w') : BSl w' xs c v := by
  cases h using BSl.each with
  | full g o hg hc h => exact .full g o (Nat.lt_of_lt_of_le hg hb.size) hc (fun i hi => by rw [hb.cell (p := ⟨g, o + i, none⟩) hg]; exact h i hi)
  | void p hx => exact .void p hx
theorem BSl.alloc {w : World} {xs : List Int} {c : Nat} {v : Value} (h : BSl w xs c v) (o : Obj) : BSl (w.alloc o) xs c v := h.below ((Below.refl _ _).alloc (Nat.le_refl _) _)
namespace Rg
end Rg
def Row8 (w : World) (g n : Nat) (f : Nat → Int) : Prop := ∀ j, j < n → w.cell? ⟨g, j, none⟩ = some (.int .u8 (f j)) ∧ w.frozen? ⟨g, j, none⟩ = false
theorem Row8.congr {w : World} {g n : Nat} {f f' : Nat → Int} (h : Row8 w g n f) (e : ∀ j, j < n → f j = f' j) : Row8 w g n f' := fun j hj => by rw [← e j hj]; exact h j hj
theorem Row8.set {w : World} {g n : Nat} {f : Nat → Int} (h : Row8 w g n f) {k : Nat} (v : Int) : Row8 (w.setCell ⟨g, k, none⟩ (.int .u8 v)) g n (upd f k v) := by
  intro j hj
  obtain ⟨h1, h2⟩ := h j hj
  refine ⟨?_, by rw [World.frozen?_setCell]; exact h2⟩
  unfold upd
  by_cases e : j = k
  · subst e; rw [if_pos rfl]; exact World.cell?_setCell_same _ _ _ h1
  · rw [if_neg e, World.cell?_setCell_other _ _ _ _ (by intro h; injection h with h1 h2; exact e h2.symm)]; exact h1
theorem Row8.made (w : World) (m t : Nat) : Row8 (w.alloc (.cells (madeCells #[.int .u8 0] m) t)) w.heap.size m (fun _ => 0) := by
  intro j hj
  refine ⟨?_, World.frozen?_alloc_at _ _ _ _ rfl⟩
  rw [World.cell?_alloc_at _ _ _ _ rfl]
  simp [madeCells, hj, Nat.mod_one]
theorem Row8.below {wr w1 : World} {g n : Nat} {f : Nat → Int} (h : Row8 wr g n f) {B : Nat} (hb : Below B wr w1) (hg : g < B) : Row8 w1 g n f :=
  fun j hj => ⟨by rw [hb.cell (p := ⟨g, j, none⟩) hg]; exact (h j hj).1, by rw [hb.frozen (p := ⟨g, j, none⟩) hg]; exact (h j hj).2⟩
theorem Row8.alloc {wr : World} {g n : Nat} {f : Nat → Int} (h : Row8 wr g n f) (hg : g < wr.heap.size) (o : Obj) : Row8 (wr.alloc o) g n f :=
  h.below ((Below.refl _ _).alloc (Nat.le_refl _) o) hg
theorem BSl.row {w : World} {g n : Nat} {f : Nat → Int} (hg : g < w.heap.size) (hr : ∀ j, j < n → w.cell? ⟨g, j, none⟩ = some (.int .u8 (f j))) (c : Nat) (hc : n ≤ c) : BSl w ((List.range n).map f) c (.slice (some ⟨g, 0, none⟩) n c) := by
  have h : BSl w ((List.range n).map f) c (.slice (some ⟨g, 0, none⟩) ((List.range n).map f).length c) := .full g 0 hg (by simpa using hc) (fun i hi => by
    have hi' : i < n := by simpa using hi
    rw [Nat.zero_add, hr i hi']
    simp [hi'])
  simpa using h
end Go.Proofs.YtfboipfpnkngdaaDoor
end
section
namespace Go.Proofs.YtfboipfpnkngdaaDoor
open Go.ChangeShapes Go.WideShapes Go.ChangeAt Go.RowKit
theorem Tryd.own : ownKnob Tryd.prog.godebug = none := by kernel_rfl
theorem Tryd.laidOut : laidOutB Tryd.prog = true := by kernel_rfl
theorem Tryd.cells5 : Tryd.prog.cellsOf 5 = 1 := by kernel_rfl
set_option maxRecDepth 100000 in
theorem open_bytes {H : Type} {enc : TypeId × Value → H} {w : World} {base : Nat} {sp : Nat → Bool} {held : Bool} {r : Reach} {b0 : Nat} {v : Value} {d : DataW H} {ps : List MemPlace}
    (hval : Value.okWide Tryd.prog w r b0 22 v) (hd : DataW.Trod enc Tryd.prog w base sp held 22 v d ps) :
    ∃ xs c, BSl w xs c v ∧ (∀ x ∈ xs, 0 ≤ x ∧ x < 256) ∧ ∀ x ∈ ps, x.block < w.heap.size := by
  obtain ⟨a0, len, cap, rfl⟩ := okWide_slice Tryd.underlying22 hval
  obtain ⟨fuel, hf⟩ := hd
  rcases open_ints Tryd.underlying22 Tryd.underlying5 Tryd.cells5 hf with ⟨hcs, hx⟩ | ⟨a, len', cap', zs, hcs, _, hl, hm, hz, hx, hcell, hwz⟩
  · simp [Value.cells] at hcs
    obtain ⟨rfl, rfl, rfl⟩ := hcs
    simp only [Prod.mk.injEq] at hx
    obtain ⟨_, rfl⟩ := hx
    exact ⟨[], 0, .void none rfl, by simp, by simp⟩
  · simp [Value.cells] at hcs
    obtain ⟨rfl, rfl, rfl⟩ := hcs
    simp only [Prod.mk.injEq] at hx
    obtain ⟨_, rfl⟩ := hx
    have hlz : len ≤ zs.length := by rw [hz]; split <;> omega
    have hps : ∀ x ∈ MemPlace.row a zs.length, x.block < w.heap.size := fun x hx => by
      obtain ⟨i, hi, rfl⟩ := MemPlace.mem_row.1 hx
      have := World.block_lt_of_cell? w _ (hcell i hi)
      obtain ⟨b, off, rfl, _⟩ := ints_at hcell (by omega)
      exact World.block_lt_of_cell? w _ (hcell 0 (by omega))
    have hb : ∀ x ∈ zs, 0 ≤ x ∧ x < 256 := fun x hx => by
      have := bounds_u8 (hwz x hx)
      omega
    by_cases h0 : len = 0
    · subst h0
      exact ⟨[], cap, .void (some a) rfl, by simp, hps⟩
    · obtain ⟨b, off, rfl, hc⟩ := ints_at hcell (by omega)
      refine ⟨zs.take len, cap, ?_, fun x hx => hb x (List.mem_of_mem_take hx), hps⟩
      have hlen : (zs.take len).length = len := by simp; omega
      have hf : BSl w (zs.take len) cap (.slice (some ⟨b, off, none⟩) (zs.take len).length cap) := .full b off (World.block_lt_of_cell? w _ (hc 0 (by omega))) (by rw [hlen]; exact hl) (fun i hi => by
        rw [hlen] at hi
        rw [hc i (by omega)]
        simp [hi])
      rw [hlen] at hf
      exact hf
namespace Rg
abbrev laidN : List (String × DataW Unit) := Rows.digestNilRow.laid
theorem door_metN (os : Os) (args : Array Value) : laidMetH Tryd.prog laidN ((World.doorLaid Tryd.prog 400 os).forCall (fun _ _ => 0) ⟨#[], args, []⟩).memory :=
  laidMetH_of_parts3 (fuel := 8) (laidMet_of_run' 8 (by kernel_rfl) (by kernel_rfl)) (by kernel_rfl) (by kernel_rfl)
end Rg
end Go.Proofs.YtfboipfpnkngdaaDoor
end
