/- Texts of the proof, joined. -/
import Derived.Orders
import Derived.RegionTactic
import Derived.Below
import Derived.Laws.IdiomCopy
import Derived.Laws.NewBlocks
import Derived.Test.YtidicdlfjdlpnaaProg
section
namespace Go.Proofs.Ytidicdlfjdlpnaa
open Go.RowKit
/-- What an operation of the region is: it tells a value and leaves the world; its guard shuts it out; it calls, and the answer is a value; it makes a block of these cells; it lays these cells into the block that operation j made of those. -/
def Kind : Type := ((Value)) ⊕ (Unit) ⊕ ((Value)) ⊕ ((List Value) × (TypeId)) ⊕ ((Nat) × (List Value) × (List Value))
abbrev Kind.quiet (v : Value) : Kind := Sum.inl v
abbrev Kind.gone : Kind := Sum.inr (Sum.inl ())
abbrev Kind.call (v : Value) : Kind := Sum.inr (Sum.inr (Sum.inl v))
abbrev Kind.made (zs : List Value) (t : TypeId) : Kind := Sum.inr (Sum.inr (Sum.inr (Sum.inl (zs, t))))
abbrev Kind.laid (j : Nat) (zs : List Value) (cs : List Value) : Kind := Sum.inr (Sum.inr (Sum.inr (Sum.inr (j, zs, cs))))
theorem Kind.each {M : Kind → Prop} (quiet : ∀ (v : Value), M (Kind.quiet v)) (gone : M Kind.gone) (call : ∀ (v : Value), M (Kind.call v)) (made : ∀ (zs : List Value) (t : TypeId), M (Kind.made zs t)) (laid : ∀ (j : Nat) (zs : List Value) (cs : List Value), M (Kind.laid j zs cs)) (k : Kind) : M k := by
  rcases k with v | _ | v | ⟨x0, x1⟩ | ⟨x0, x1, x2⟩
  · exact quiet _
  · exact gone
  · exact call _
  · exact made _ _
  · exact laid _ _ _
theorem Kind.madeInj {zs zs' : List Value} {t t' : TypeId} (h : Kind.made zs t = Kind.made zs' t') : zs = zs' ∧ t = t' := by
  have h' := Sum.inl.inj (Sum.inr.inj (Sum.inr.inj (Sum.inr.inj h)))
  exact ⟨congrArg (fun x => x.1) h', congrArg (fun x => x.2) h'⟩
theorem Kind.laidInj {j j' : Nat} {zs zs' : List Value} {cs cs' : List Value} (h : Kind.laid j zs cs = Kind.laid j' zs' cs') : j = j' ∧ zs = zs' ∧ cs = cs' := by
  have h' := Sum.inr.inj (Sum.inr.inj (Sum.inr.inj (Sum.inr.inj h)))
  exact ⟨congrArg (fun x => x.1) h', congrArg (fun x => x.2.1) h', congrArg (fun x => x.2.2) h'⟩
/-- What lies in its slot behind it; γ i: the block that operation i made. -/
def Kind.val (γ : Nat → Nat) (i : Nat) : Kind → Value
  | (Sum.inl v) => v
  | (Sum.inr (Sum.inl ())) => undef
  | (Sum.inr (Sum.inr (Sum.inl v))) => v
  | (Sum.inr (Sum.inr (Sum.inr (Sum.inl (_, _))))) => .pointer (some ⟨γ i, 0, none⟩)
  | (Sum.inr (Sum.inr (Sum.inr (Sum.inr (_, _, _))))) => undef
/-- The frame behind the region. -/
def fill (γ : Nat → Nat) : Nat → List Oper → List Kind → Act → Act
  | i, o :: os, k :: ks, a => fill γ (i + 1) os ks (a.put o.dst (k.val γ i))
  | _, _, _, a => a
theorem put_size (a : Act) (d : Option Tmp) (v : Value) : (a.put d v).tmps.size = a.tmps.size := by
  cases d <;> simp [Act.put]
theorem put_defers' (a : Act) (d : Option Tmp) (v : Value) : (a.put d v).defers = a.defers := by
  cases d <;> rfl
theorem put_other (a : Act) (x : Option Tmp) (v : Value) (d : Tmp) (h : x ≠ some d) : (a.put x v).tmps[d]? = a.tmps[d]? := by
  cases x with
  | none => rfl
  | some e => exact Array.getElem?_setIfInBounds_ne (fun he => h (by rw [he]))
theorem put_same (a : Act) (v : Value) (d : Tmp) (h : d < a.tmps.size) : (a.put (some d) v).tmps[d]? = some v := by
  simp [Act.put, h]
theorem fill_defers (γ : Nat → Nat) : ∀ (i : Nat) (os : List Oper) (ks : List Kind) (a : Act), (fill γ i os ks a).defers = a.defers
  | _, [], _, _ => rfl
  | _, _ :: _, [], _ => rfl
  | i, o :: os, k :: ks, a => by
    unfold fill
    rw [fill_defers γ (i + 1) os ks, put_defers']
theorem fill_other (γ : Nat → Nat) (d : Tmp) : ∀ (i : Nat) (os : List Oper) (ks : List Kind) (a : Act), (∀ o ∈ os, o.dst ≠ some d) → (fill γ i os ks a).tmps[d]? = a.tmps[d]?
  | _, [], _, _, _ => rfl
  | _, _ :: _, [], _, _ => rfl
  | i, o :: os, k :: ks, a, h => by
    unfold fill
    rw [fill_other γ d (i + 1) os ks _ (fun o' ho => h o' (List.mem_cons_of_mem _ ho)), put_other _ _ _ _ (h o (List.mem_cons_self ..))]
theorem fill_at (γ : Nat → Nat) (d : Tmp) (o : Oper) (k : Kind) (hd : o.dst = some d) : ∀ (j i : Nat) (os : List Oper) (ks : List Kind) (a : Act), os[j]? = some o → ks[j]? = some k → d < a.tmps.size →
    (∀ j' o', j < j' → os[j']? = some o' → o'.dst ≠ some d) → (fill γ i os ks a).tmps[d]? = some (k.val γ (i + j))
  | _, _, [], _, _, h, _, _, _ => by simp at h
  | _, _, _ :: _, [], _, _, h, _, _ => by simp at h
  | 0, i, o' :: os, k' :: ks, a, ho, hk, hs, hl => by
    simp at ho hk
    subst ho hk
    unfold fill
    rw [fill_other γ d (i + 1) os ks _ (fun o2 ho2 => ?_), hd, put_same _ _ _ hs]
    · rfl
    · obtain ⟨m, hm, e⟩ := List.getElem_of_mem ho2
      exact hl (m + 1) o2 (by omega) (by rw [List.getElem?_cons_succ, List.getElem?_eq_getElem hm, e])
  | j + 1, i, o' :: os, k' :: ks, a, ho, hk, hs, hl => by
    unfold fill
    rw [fill_at γ d o k hd j (i + 1) os ks _ (by simpa using ho) (by simpa using hk) (by rw [put_size]; exact hs) (fun j' o2 h1 h2 => hl (j' + 1) o2 (by omega) (by simpa using h2))]
    rw [show i + 1 + j = i + (j + 1) by omega]
/-- Block g of w holds these cells, and they may be written. -/
def Blk (w : World) (g : Nat) (cs : List Value) : Prop := ∀ j v, cs[j]? = some v → w.cell? ⟨g, j, none⟩ = some v ∧ w.frozen? ⟨g, j, none⟩ = false
theorem Blk.below {w w' : World} {B g : Nat} {cs : List Value} (h : Blk w g cs) (hb : Below B w w') (hg : g < B) : Blk w' g cs := fun j v hv =>
  ⟨by rw [hb.cell (p := ⟨g, j, none⟩) hg]; exact (h j v hv).1, by rw [hb.frozen (p := ⟨g, j, none⟩) hg]; exact (h j v hv).2⟩
theorem Blk.alloc {w : World} {g : Nat} {cs : List Value} (h : Blk w g cs) (hg : g < w.heap.size) (o : Obj) : Blk (w.alloc o) g cs := fun j v hv =>
  ⟨by rw [World.cell?_alloc_past _ _ _ hg]; exact (h j v hv).1, by rw [World.frozen?_alloc_past _ _ _ hg]; exact (h j v hv).2⟩
theorem Blk.new (w : World) (cs : List Value) (t : TypeId) : Blk (w.alloc (.cells cs.toArray t)) w.heap.size cs := fun j v hv =>
  ⟨by rw [World.cell?_alloc_at _ _ _ _ rfl]; simpa using hv, World.frozen?_alloc_at _ _ _ _ rfl⟩
theorem Blk.laid {w : World} {g : Nat} {zs cs : List Value} (h : Blk w g zs) (hl : zs.length = cs.length) : Blk (w.setCells g 0 cs) g cs := fun j v hv => by
  obtain ⟨hj, e⟩ := List.getElem?_eq_some_iff.1 hv
  have hz : zs[j]? = some (zs[j]'(by omega)) := List.getElem?_eq_getElem _
  refine ⟨?_, by rw [World.frozen?_setCells]; exact (h j _ hz).2⟩
  have := World.cell?_setCells_in g cs 0 w (fun i hi => by
    have := (h i _ (List.getElem?_eq_getElem (show i < zs.length by omega))).1
    rw [Nat.zero_add, this]; rfl) j hj
  rw [Nat.zero_add] at this
  rw [this, e]
theorem Blk.other {w : World} {g g' : Nat} {cs cs' : List Value} (h : Blk w g cs) (hg : g ≠ g') : Blk (w.setCells g' 0 cs') g cs := fun j v hv =>
  ⟨by rw [World.cell?_setCells_out g' cs' 0 w _ (fun e => absurd e hg)]; exact (h j v hv).1, by rw [World.frozen?_setCells]; exact (h j v hv).2⟩
theorem size_setCells (g : Nat) : ∀ (cs : List Value) (o : Nat) (w : World), (w.setCells g o cs).heap.size = w.heap.size
  | [], _, _ => rfl
  | v :: r, o, w => by rw [World.setCells, size_setCells g r, World.size_setCell]
theorem below_setCells {B : Nat} {w0 : World} (g : Nat) (hg : B ≤ g) : ∀ (cs : List Value) (o : Nat) (w : World), Below B w0 w → Below B w0 (w.setCells g o cs)
  | [], _, _, h => h
  | v :: r, o, w, h => by
    rw [World.setCells]
    exact below_setCells g hg r (o + 1) _ (h.setCell (p := ⟨g, o, none⟩) hg v)
section
variable {P : Program} {ops : Array Oper} {ks : List Kind} {a₀ : Act} {w₀ : World} {Q : Exit → Act → World → Prop}
/-- What is known of the memory when the operations l have come up. -/
structure Mem (ks : List Kind) (w₀ : World) (l : Array Bool) (γ : Nat → Nat) (w : World) : Prop where
  below : Below w₀.heap.size w₀ w
  made : ∀ i zs t, ks[i]? = some (.made zs t) → l.getD i false = true → w₀.heap.size ≤ γ i ∧ γ i < w.heap.size
  raw : ∀ i zs t, ks[i]? = some (.made zs t) → l.getD i false = true → (∀ s zs' cs, ks[s]? = some (.laid i zs' cs) → l.getD s false = false) → Blk w (γ i) zs
  full : ∀ s i zs cs, ks[s]? = some (.laid i zs cs) → l.getD s false = true → Blk w (γ i) cs ∧ γ i < w.heap.size
  order : ∀ s i zs cs, ks[s]? = some (.laid i zs cs) → l.getD s false = true → l.getD i false = true
  apart : ∀ i j zs t zs' t', ks[i]? = some (.made zs t) → ks[j]? = some (.made zs' t') → l.getD i false = true → l.getD j false = true → i ≠ j → γ i ≠ γ j
/-- What is to be shown of an operation. -/
def KindOk (P : Program) (ops : Array Oper) (S : World → Prop) (F : (Nat → Nat) → Act) (o : Oper) : Kind → Prop
  | (Sum.inl v) => ∀ γ, Region.wanted o (yielded ops (F γ).tmps) = true ∧ ∀ w, S w → (execOp (F γ).eval o).run P w = .ok (.value v) w
  | (Sum.inr (Sum.inl ())) => ∀ γ, Region.wanted o (yielded ops (F γ).tmps) = false
  | (Sum.inr (Sum.inr (Sum.inl v))) => ∀ γ, Region.wanted o (yielded ops (F γ).tmps) = true ∧ ∀ w, S w → ∃ f args, (execOp (F γ).eval o).run P w = .ok (.enter f args) w ∧ Calls P f args w (fun e w' => e = .returned v ∧ Below w.heap.size w w')
  | (Sum.inr (Sum.inr (Sum.inr (Sum.inl (zs, t))))) => ∀ γ, Region.wanted o (yielded ops (F γ).tmps) = true ∧ ∀ w, (execOp (F γ).eval o).run P w = .ok (.value (.pointer (some ⟨w.heap.size, 0, none⟩))) (w.alloc (.cells zs.toArray t))
  | (Sum.inr (Sum.inr (Sum.inr (Sum.inr (j, zs, cs))))) => ∀ γ, Region.wanted o (yielded ops (F γ).tmps) = true ∧ o.dst = none ∧ zs.length = cs.length ∧ ∀ w, Blk w (γ j) zs → (execOp (F γ).eval o).run P w = .ok .skip (w.setCells (γ j) 0 cs)
def AllOk (P : Program) (ops : Array Oper) (S : World → Prop) (F : (Nat → Nat) → Act) : List Oper → List Kind → Prop
  | o :: os, k :: ks => KindOk P ops S F o k ∧ AllOk P ops S F os ks
  | _, _ => True
theorem AllOk.at {S : World → Prop} {F : (Nat → Nat) → Act} : ∀ {os : List Oper} {ks : List Kind}, AllOk P ops S F os ks → ∀ {i : Nat} {o : Oper} {k : Kind}, os[i]? = some o → ks[i]? = some k → KindOk P ops S F o k
  | [], _, _, _, _, _, h, _ => by simp at h
  | _ :: _, [], _, _, _, _, _, h => by simp at h
  | o' :: os, k' :: ks, h, 0, o, k, ho, hk => by simp at ho hk; subst ho hk; exact h.1
  | o' :: os, k' :: ks, h, i + 1, o, k, ho, hk => AllOk.at (os := os) (ks := ks) h.2 (by simpa using ho) (by simpa using hk)
/-- Who waits for operation j. -/
def waits (o : Oper) (j : Nat) : Bool := o.after.any fun e => Region.binds .any e && e.on == j
def eachOp (ops : Array Oper) (p : Nat → Oper → Bool) : Bool := (List.range ops.size).all fun i => match ops[i]? with | none => true | some o => p i o
theorem eachOp_spec {p : Nat → Oper → Bool} (h : eachOp ops p = true) {i : Nat} {o : Oper} (ho : ops[i]? = some o) : p i o = true := by
  have hi : i < ops.size := (Array.getElem?_eq_some_iff.1 ho).1
  have := List.all_eq_true.1 h i (List.mem_range.2 hi)
  rw [ho] at this
  exact this
/-- The region is such that what it says of the order suffices: nobody waits for a later one; every slot is there; who looks at a slot waits for all that write it; no slot is written twice; who lays cells waits for the block's maker, and nobody else lays there. -/
def orderly (ops : Array Oper) (ks : List Kind) (n : Nat) : Bool :=
  Region.noSelect ops && ks.length == ops.size &&
  eachOp ops (fun i o => o.after.all fun e => !Region.binds .any e || decide (e.on < i)) &&
  eachOp ops (fun _ o => match o.dst with | none => true | some d => decide (d < n)) &&
  eachOp ops (fun _ o => (o.looksAt ops).all fun d => eachOp ops fun j oj => oj.dst != some d || waits o j) &&
  eachOp ops (fun i o => match o.dst with | none => true | some d => eachOp ops fun j oj => j == i || oj.dst != some d) &&
  eachOp ops (fun i o => match ks[i]? with | some ((Sum.inr (Sum.inr (Sum.inr (Sum.inr (j, _, _)))))) => waits o j && eachOp ops fun s _ => s == i || (match ks[s]? with | some ((Sum.inr (Sum.inr (Sum.inr (Sum.inr (j', _, _)))))) => j' != j | _ => true) | _ => true)
structure Orderly (ops : Array Oper) (ks : List Kind) (n : Nat) : Prop where
  noSelect : Region.noSelect ops = true
  size : ks.length = ops.size
  up : ∀ {i : Nat} {o : Oper}, ops[i]? = some o → ∀ e ∈ o.after, Region.binds .any e = true → e.on < i
  dst : ∀ {i : Nat} {o : Oper} {d : Tmp}, ops[i]? = some o → o.dst = some d → d < n
  looks : ∀ {i : Nat} {o : Oper} {d : Tmp} {j : Nat} {oj : Oper}, ops[i]? = some o → d ∈ o.looksAt ops → ops[j]? = some oj → oj.dst = some d → waits o j = true
  once : ∀ {i : Nat} {o : Oper} {d : Tmp} {j : Nat} {oj : Oper}, ops[i]? = some o → o.dst = some d → ops[j]? = some oj → oj.dst = some d → j = i
  laid : ∀ {i : Nat} {o : Oper} {j : Nat} {zs cs : List Value}, ops[i]? = some o → ks[i]? = some (.laid j zs cs) → waits o j = true
  lone : ∀ {i : Nat} {o : Oper} {j : Nat} {zs cs : List Value} {s : Nat} {zs' cs' : List Value}, ops[i]? = some o → ks[i]? = some (.laid j zs cs) → ks[s]? = some (.laid j zs' cs') → s = i
theorem Orderly.of {n : Nat} (h : orderly ops ks n = true) : Orderly ops ks n := by
  unfold orderly at h
  simp only [Bool.and_eq_true] at h
  obtain ⟨⟨⟨⟨⟨⟨h1, h2⟩, h3⟩, h4⟩, h5⟩, h6⟩, h7⟩ := h
  have hsz : ks.length = ops.size := by simpa using h2
  refine ⟨h1, hsz, ?_, ?_, ?_, ?_, ?_, ?_⟩
  · intro i o ho e he hb
    have := eachOp_spec h3 ho
    have := Array.all_eq_true_iff_forall_mem.1 this e he
    simpa [hb] using this
  · intro i o d ho hd
    have := eachOp_spec h4 ho
    rw [hd] at this
    simpa using this
  · intro i o d j oj ho hd hj hdj
    have := eachOp_spec (List.all_eq_true.1 (eachOp_spec h5 ho) d hd) hj
    simpa [hdj] using this
  · intro i o d j oj ho hd hj hdj
    have := eachOp_spec h6 ho
    rw [hd] at this
    have := eachOp_spec this hj
    simpa [hdj] using this
  · intro i o j zs cs ho hk
    have := eachOp_spec h7 ho
    rw [hk] at this
    simp only [Bool.and_eq_true] at this
    exact this.1
  · intro i o j zs cs s zs' cs' ho hk hs
    have := eachOp_spec h7 ho
    rw [hk] at this
    simp only [Bool.and_eq_true] at this
    have hlt : s < ops.size := by rw [← hsz]; exact (List.getElem?_eq_some_iff.1 hs).1
    have := eachOp_spec this.2 (Array.getElem?_eq_getElem hlt)
    rw [hs] at this
    simpa using this
def LaidOk (all : List Kind) : List Kind → Prop
  | [] => True
  | (Sum.inr (Sum.inr (Sum.inr (Sum.inr (j, zs, _))))) :: r => (∃ t, all[j]? = some (.made zs t)) ∧ LaidOk all r
  | _ :: r => LaidOk all r
theorem LaidOk.at {all : List Kind} : ∀ {r : List Kind}, LaidOk all r → ∀ {s j : Nat} {zs cs : List Value}, r[s]? = some (.laid j zs cs) → ∃ t, all[j]? = some (.made zs t)
  | [], _, _, _, _, _, h => by simp at h
  | k :: r, hl, 0, j, zs, cs, h => by
    simp at h
    subst h
    exact hl.1
  | k :: r, hl, s + 1, j, zs, cs, h => by
    have hr : LaidOk all r := by
      cases k using Kind.each <;> first | exact hl | exact hl.2
    exact hr.at (s := s) (by simpa using h)
theorem waits_spec {o : Oper} {j : Nat} (h : waits o j = true) {l : Array Bool} (hl : ∀ e ∈ o.after, Region.binds .any e = true → l.getD e.on false = true) : l.getD j false = true := by
  unfold waits at h
  obtain ⟨e, he, hb⟩ := Array.any_eq_true'.1 h
  simp only [Bool.and_eq_true, beq_iff_eq] at hb
  rw [← hb.2]
  exact hl e he hb.1
structure Agree (ops : Array Oper) (ks : List Kind) (a₀ : Act) (l : Array Bool) (γ : Nat → Nat) (a : Act) : Prop where
  defers : a.defers = a₀.defers
  size : a.tmps.size = a₀.tmps.size
  slots : ∀ d, (∀ i o, ops[i]? = some o → o.dst = some d → l.getD i false = true) → a.tmps[d]? = (fill γ 0 ops.toList ks a₀).tmps[d]?
theorem kind_at {n : Nat} (hO : Orderly ops ks n) {i : Nat} {o : Oper} (ho : ops[i]? = some o) : ∃ k, ks[i]? = some k := by
  have hi : i < ops.size := (Array.getElem?_eq_some_iff.1 ho).1
  exact ⟨_, List.getElem?_eq_getElem (by rw [hO.size]; exact hi)⟩
theorem fill_one {n : Nat} (hO : Orderly ops ks n) (hn : n = a₀.tmps.size) (γ : Nat → Nat) {i : Nat} {o : Oper} {k : Kind} {d : Tmp} (ho : ops[i]? = some o) (hk : ks[i]? = some k) (hd : o.dst = some d) :
    (fill γ 0 ops.toList ks a₀).tmps[d]? = some (k.val γ i) := by
  have := fill_at γ d o k hd i 0 ops.toList ks a₀ (by simpa using ho) hk (by rw [← hn]; exact hO.dst ho hd) (fun j' o' hlt ho' hd' => by
    have := hO.once ho hd (by simpa using ho' : ops[j']? = some o') hd'
    omega)
  rw [Nat.zero_add] at this
  exact this
theorem Agree.step {n : Nat} (hO : Orderly ops ks n) (hn : n = a₀.tmps.size) {l : Array Bool} {γ γ' : Nat → Nat} {a : Act} (h : Agree ops ks a₀ l γ a) {i : Nat} {o : Oper} {k : Kind} (ho : ops[i]? = some o) (hk : ks[i]? = some k)
    (hγ : ∀ j, j ≠ i → γ' j = γ j) : Agree ops ks a₀ (l.setIfInBounds i true) γ' (a.put o.dst (k.val γ' i)) := by
  refine ⟨by rw [put_defers']; exact h.defers, by rw [put_size]; exact h.size, fun d hd => ?_⟩
  by_cases e : o.dst = some d
  · rw [fill_one hO hn γ' ho hk e, e, put_same _ _ _ (by rw [h.size, ← hn]; exact hO.dst ho e)]
  · rw [put_other _ _ _ _ e, h.slots d (fun j oj hj hdj => by
      have hne : i ≠ j := fun he => by subst he; rw [ho] at hj; injection hj with hj; subst hj; exact e hdj
      have := hd j oj hj hdj
      rw [getD_set_ne false hne] at this
      exact this)]
    by_cases hw : ∃ (j : Nat) (oj : Oper), ops[j]? = some oj ∧ oj.dst = some d
    · obtain ⟨j, oj, hj, hdj⟩ := hw
      obtain ⟨kj, hkj⟩ := kind_at hO hj
      have hne : j ≠ i := fun he => by subst he; rw [ho] at hj; injection hj with hj; subst hj; exact e hdj
      rw [fill_one hO hn γ hj hkj hdj, fill_one hO hn γ' hj hkj hdj]
      cases kj using Kind.each <;> first | rfl | (show some (Value.pointer _) = some (Value.pointer _); rw [hγ j hne])
    · have hno : ∀ o' ∈ ops.toList, o'.dst ≠ some d := fun o' ho' hd' => by
        obtain ⟨j, hj, ej⟩ := List.getElem_of_mem ho'
        exact hw ⟨j, o', by rw [← Array.getElem?_toList, List.getElem?_eq_getElem hj, ej], hd'⟩
      rw [fill_other γ d 0 _ _ _ hno, fill_other γ' d 0 _ _ _ hno]
/-- An operation that may come up sees what it will have seen in the end. -/
theorem Agree.sees {n : Nat} (hO : Orderly ops ks n) {l : Array Bool} {γ : Nat → Nat} {a : Act} (h : Agree ops ks a₀ l γ a) {i : Nat} {o : Oper} (ho : ops[i]? = some o)
    (hl : ∀ e ∈ o.after, Region.binds .any e = true → l.getD e.on false = true) :
    execOp a.eval o = execOp (fill γ 0 ops.toList ks a₀).eval o ∧ Region.wanted o (yielded ops a.tmps) = Region.wanted o (yielded ops (fill γ 0 ops.toList ks a₀).tmps) := by
  have hs : ∀ d ∈ o.looksAt ops, a.tmps[d]? = (fill γ 0 ops.toList ks a₀).tmps[d]? := fun d hd =>
    h.slots d (fun j oj hj hdj => waits_spec (hO.looks ho hd hj hdj) hl)
  refine ⟨execOp_congr o (fun cs b => Region.noSelect_spec hO.noSelect i o cs b ho) (fun x hx => ?_), ?_⟩
  · cases x with
    | tmp t =>
      have := hs t (List.mem_append_left _ (List.mem_filterMap.2 ⟨.tmp t, by simpa using hx, rfl⟩))
      simp only [Act.eval, Array.getD_eq_getD_getElem?, this]
    | _ => rfl
  · unfold Region.wanted
    cases hg : o.guard with
    | none => rfl
    | some gw =>
      obtain ⟨g, want⟩ := gw
      have hy : yielded ops a.tmps g = yielded ops (fill γ 0 ops.toList ks a₀).tmps g := by
        unfold yielded
        cases ht : (ops[g]?).bind (·.dst) with
        | none => rfl
        | some t =>
          have := hs t (by simp [Oper.looksAt, hg, ht])
          simp only [Option.bind_some, this]
      simp only [hy]
theorem Agree.whole {l : Array Bool} {γ : Nat → Nat} {a : Act} (h : Agree ops ks a₀ l γ a) (hl : ∀ i, i < ops.size → l.getD i false = true) : a = fill γ 0 ops.toList ks a₀ := by
  have ht : a.tmps = (fill γ 0 ops.toList ks a₀).tmps := Array.ext_getElem? fun d =>
    h.slots d (fun i o ho _ => hl i (Array.getElem?_eq_some_iff.1 ho).1)
  have hd : a.defers = (fill γ 0 ops.toList ks a₀).defers := by rw [h.defers, fill_defers]
  cases a
  cases hf : fill γ 0 ops.toList ks a₀
  rw [hf] at ht hd
  simp only at ht hd
  rw [ht, hd]
/-! The memory, step by step. -/
theorem getD_true {l : Array Bool} {i j : Nat} (h : l.getD j false = true) : (l.setIfInBounds i true).getD j false = true := by
  by_cases e : i = j
  · subst e
    have hi : i < l.size := by
      rcases Nat.lt_or_ge i l.size with h' | h'
      · exact h'
      · simp [Array.getElem?_eq_none h'] at h
    simp [hi]
  · rw [getD_set_ne false e]; exact h
theorem getD_same {l : Array Bool} {i : Nat} (h : l.getD i true = false) : l.getD i false = false ∧ (l.setIfInBounds i true).getD i false = true := by
  rcases Nat.lt_or_ge i l.size with h' | h'
  · simp [h'] at h
    simp [h', h]
  · simp [Array.getElem?_eq_none h'] at h
theorem Mem.still {l : Array Bool} {γ : Nat → Nat} {w w' : World} (h : Mem ks w₀ l γ w) (hb : Below w.heap.size w w') {i : Nat} {k : Kind} (hk : ks[i]? = some k) (h1 : ∀ zs t, k ≠ .made zs t) (h2 : ∀ j zs cs, k ≠ .laid j zs cs) :
    Mem ks w₀ (l.setIfInBounds i true) γ w' := by
  have ne1 : ∀ j zs t, ks[j]? = some (.made zs t) → i ≠ j := fun j zs t hj he => by subst he; rw [hk] at hj; injection hj with hj; exact h1 _ _ hj
  have ne2 : ∀ s j zs cs, ks[s]? = some (.laid j zs cs) → i ≠ s := fun s j zs cs hj he => by subst he; rw [hk] at hj; injection hj with hj; exact h2 _ _ _ hj
  refine ⟨h.below.trans (hb.mono h.below.size), ?_, ?_, ?_, ?_, ?_⟩
  · intro j zs t hj hl
    rw [getD_set_ne false (ne1 j zs t hj)] at hl
    obtain ⟨x, y⟩ := h.made j zs t hj hl
    exact ⟨x, Nat.lt_of_lt_of_le y hb.size⟩
  · intro j zs t hj hl hs
    rw [getD_set_ne false (ne1 j zs t hj)] at hl
    exact (h.raw j zs t hj hl (fun s zs' cs hs' => by have := hs s zs' cs hs'; rwa [getD_set_ne false (ne2 s j zs' cs hs')] at this)).below hb (h.made j zs t hj hl).2
  · intro s j zs cs hs hl
    rw [getD_set_ne false (ne2 s j zs cs hs)] at hl
    exact ⟨(h.full s j zs cs hs hl).1.below hb (h.full s j zs cs hs hl).2, Nat.lt_of_lt_of_le (h.full s j zs cs hs hl).2 hb.size⟩
  · intro s j zs cs hs hl
    rw [getD_set_ne false (ne2 s j zs cs hs)] at hl
    exact getD_true (h.order s j zs cs hs hl)
  · intro x y zs t zs' t' hx hy hlx hly hne
    rw [getD_set_ne false (ne1 x zs t hx)] at hlx
    rw [getD_set_ne false (ne1 y zs' t' hy)] at hly
    exact h.apart x y zs t zs' t' hx hy hlx hly hne
theorem Mem.make {l : Array Bool} {γ : Nat → Nat} {w : World} (h : Mem ks w₀ l γ w) {i : Nat} {zs : List Value} {t : TypeId} (hk : ks[i]? = some (.made zs t)) (hun : l.getD i true = false) :
    Mem ks w₀ (l.setIfInBounds i true) (fun j => if j = i then w.heap.size else γ j) (w.alloc (.cells zs.toArray t)) := by
  obtain ⟨hf, _⟩ := getD_same hun
  have ne2 : ∀ s j zs cs, ks[s]? = some (.laid j zs cs) → i ≠ s := fun s j zs cs hj he => by subst he; rw [hk] at hj; injection hj with hj; cases hj
  have hsz := h.below.size
  refine ⟨h.below.alloc hsz _, ?_, ?_, ?_, ?_, ?_⟩
  · intro j zs' t' hj hl
    by_cases e : j = i
    · subst e
      simp only [if_pos, World.size_alloc]
      omega
    · rw [getD_set_ne false (Ne.symm e)] at hl
      have := h.made j zs' t' hj hl
      simp only [if_neg e, World.size_alloc]
      omega
  · intro j zs' t' hj hl hs
    by_cases e : j = i
    · subst e
      rw [hk] at hj
      injection hj with hj
      obtain ⟨hj, _⟩ := Kind.madeInj hj
      subst hj
      simp only [if_pos]
      exact Blk.new w zs t
    · rw [getD_set_ne false (Ne.symm e)] at hl
      simp only [if_neg e]
      exact (h.raw j zs' t' hj hl (fun s z c hs' => by have := hs s z c hs'; rwa [getD_set_ne false (ne2 s j z c hs')] at this)).alloc (h.made j zs' t' hj hl).2 _
  · intro s j z c hs hl
    rw [getD_set_ne false (ne2 s j z c hs)] at hl
    have e : j ≠ i := fun he => by have := h.order s j z c hs hl; rw [he, hf] at this; cases this
    have := h.full s j z c hs hl
    simp only [if_neg e, World.size_alloc]
    exact ⟨this.1.alloc this.2 _, by omega⟩
  · intro s j z c hs hl
    rw [getD_set_ne false (ne2 s j z c hs)] at hl
    exact getD_true (h.order s j z c hs hl)
  · intro x y zs1 t1 zs2 t2 hx hy hlx hly hne
    by_cases ex : x = i
    · have ey : y ≠ i := fun he => hne (by rw [ex, he])
      rw [getD_set_ne false (Ne.symm ey)] at hly
      have := h.made y zs2 t2 hy hly
      simp only [if_pos ex, if_neg ey]
      omega
    · rw [getD_set_ne false (Ne.symm ex)] at hlx
      by_cases ey : y = i
      · have := h.made x zs1 t1 hx hlx
        simp only [if_pos ey, if_neg ex]
        omega
      · rw [getD_set_ne false (Ne.symm ey)] at hly
        simp only [if_neg ex, if_neg ey]
        exact h.apart x y zs1 t1 zs2 t2 hx hy hlx hly hne
theorem Mem.lay {n : Nat} (hO : Orderly ops ks n) (hL : LaidOk ks ks) {l : Array Bool} {γ : Nat → Nat} {w : World} (h : Mem ks w₀ l γ w) {s i : Nat} {o : Oper} {zs cs : List Value} (ho : ops[s]? = some o) (hk : ks[s]? = some (.laid i zs cs)) (hlen : zs.length = cs.length)
    (hun : l.getD s true = false) (hli : l.getD i false = true) : Blk w (γ i) zs ∧ Mem ks w₀ (l.setIfInBounds s true) γ (w.setCells (γ i) 0 cs) := by
  obtain ⟨hf, hset⟩ := getD_same hun
  obtain ⟨t, hmi⟩ := hL.at hk
  have ne1 : ∀ j zs t, ks[j]? = some (.made zs t) → s ≠ j := fun j zs t hj he => by subst he; rw [hk] at hj; injection hj with hj; cases hj
  have hraw : Blk w (γ i) zs := h.raw i zs t hmi hli (fun s' z c hs' => by rw [hO.lone ho hk hs']; exact hf)
  refine ⟨hraw, below_setCells _ (h.made i zs t hmi hli).1 _ _ _ h.below, ?_, ?_, ?_, ?_, ?_⟩
  · intro j zs' t' hj hl
    rw [getD_set_ne false (ne1 j zs' t' hj)] at hl
    rw [size_setCells]
    exact h.made j zs' t' hj hl
  · intro j zs' t' hj hl hs
    rw [getD_set_ne false (ne1 j zs' t' hj)] at hl
    have e : j ≠ i := fun he => by
      subst he
      have := hs s zs cs hk
      rw [hset] at this
      cases this
    refine (h.raw j zs' t' hj hl (fun s' z c hs' => ?_)).other (h.apart j i zs' t' zs t hj hmi hl hli e)
    have := hs s' z c hs'
    cases hb : l.getD s' false with
    | false => rfl
    | true => rw [getD_true hb] at this; exact this
  · intro s' j z c hs' hl
    rw [size_setCells]
    by_cases e : s' = s
    · subst e
      rw [hk] at hs'
      injection hs' with hs'
      obtain ⟨e1, e2, e3⟩ := Kind.laidInj hs'
      subst e1 e2 e3
      exact ⟨hraw.laid hlen, (h.made i zs t hmi hli).2⟩
    · rw [getD_set_ne false (Ne.symm e)] at hl
      have hj : j ≠ i := fun he => by
        subst he
        exact e (hO.lone ho hk hs')
      obtain ⟨t', hmj⟩ := hL.at hs'
      have := h.full s' j z c hs' hl
      exact ⟨this.1.other (h.apart j i z t' zs t hmj hmi (h.order s' j z c hs' hl) hli hj), this.2⟩
  · intro s' j z c hs' hl
    by_cases e : s' = s
    · subst e
      rw [hk] at hs'
      injection hs' with hs'
      obtain ⟨e1, _, _⟩ := Kind.laidInj hs'
      subst e1
      exact getD_true hli
    · rw [getD_set_ne false (Ne.symm e)] at hl
      exact getD_true (h.order s' j z c hs' hl)
  · intro x y zs1 t1 zs2 t2 hx hy hlx hly hne
    rw [getD_set_ne false (ne1 x zs1 t1 hx)] at hlx
    rw [getD_set_ne false (ne1 y zs2 t2 hy)] at hly
    exact h.apart x y zs1 t1 zs2 t2 hx hy hlx hly hne
theorem count_set {l : Array Bool} {i : Nat} (h : l.getD i true = false) : (l.setIfInBounds i true).toList.count false + 1 = l.toList.count false := by
  rcases Nat.lt_or_ge i l.size with h' | h'
  · simp [h'] at h
    rw [Array.toList_setIfInBounds, List.count_set (by simpa using h')]
    have h2 : l.toList[i]'(by simpa using h') = false := by simpa using h
    have h3 : 0 < l.toList.count false := List.count_pos_iff.2 (by rw [← h2]; exact List.getElem_mem _)
    rw [h2, if_pos (by decide), if_neg (by decide)]
    omega
  · simp [Array.getElem?_eq_none h'] at h
end
end Go.Proofs.Ytidicdlfjdlpnaa
end
section
namespace Go.Proofs.Ytidicdlfjdlpnaa
open Go.RowKit
namespace Rg
/-- What an operation of the region is: it tells a value and leaves the world; its guard shuts it out; it calls, and the answer is a value; it makes a block of these cells; it lays these cells into the block that operation j made of those; it calls, and the answer bears a new block of these cells. -/
def Kind : Type := ((Value)) ⊕ (Unit) ⊕ ((Value)) ⊕ ((List Value) × (TypeId)) ⊕ ((Nat) × (List Value) × (List Value)) ⊕ ((Nat → Value) × (List Value)) ⊕ ((Value) × (Nat) × (List Value)) ⊕ ((Nat → Nat → Nat → Value) × (List Value)) ⊕ ((Nat → Nat → Nat → Value) × (List Value) × (Obj → Nat → Prop)) ⊕ ((Nat → Value) × (List Value) × (TypeId)) ⊕ ((Nat → Value) × (Nat))
abbrev Kind.quiet (v : Value) : Kind := Sum.inl v
abbrev Kind.gone  : Kind := Sum.inr (Sum.inl ())
abbrev Kind.call (v : Value) : Kind := Sum.inr (Sum.inr (Sum.inl v))
abbrev Kind.made (zs : List Value) (t : TypeId) : Kind := Sum.inr (Sum.inr (Sum.inr (Sum.inl (zs, t))))
abbrev Kind.laid (j : Nat) (zs : List Value) (cs : List Value) : Kind := Sum.inr (Sum.inr (Sum.inr (Sum.inr (Sum.inl (j, zs, cs)))))
abbrev Kind.born (v : Nat → Value) (cs : List Value) : Kind := Sum.inr (Sum.inr (Sum.inr (Sum.inr (Sum.inr (Sum.inl (v, cs))))))
abbrev Kind.over (v : Value) (j : Nat) (cs : List Value) : Kind := Sum.inr (Sum.inr (Sum.inr (Sum.inr (Sum.inr (Sum.inr (Sum.inl (v, j, cs)))))))
abbrev Kind.bornX (v : Nat → Nat → Nat → Value) (cs : List Value) : Kind := Sum.inr (Sum.inr (Sum.inr (Sum.inr (Sum.inr (Sum.inr (Sum.inr (Sum.inl (v, cs))))))))
abbrev Kind.ownX (v : Nat → Nat → Nat → Value) (cs : List Value) (E : Obj → Nat → Prop) : Kind := Sum.inr (Sum.inr (Sum.inr (Sum.inr (Sum.inr (Sum.inr (Sum.inr (Sum.inr (Sum.inl (v, cs, E)))))))))
abbrev Kind.row (v : Nat → Value) (cs : List Value) (t : TypeId) : Kind := Sum.inr (Sum.inr (Sum.inr (Sum.inr (Sum.inr (Sum.inr (Sum.inr (Sum.inr (Sum.inr (Sum.inl (v, cs, t))))))))))
abbrev Kind.same (v : Nat → Value) (j : Nat) : Kind := Sum.inr (Sum.inr (Sum.inr (Sum.inr (Sum.inr (Sum.inr (Sum.inr (Sum.inr (Sum.inr (Sum.inr (v, j))))))))))
theorem Kind.each {M : Kind → Prop} (quiet : ∀ (v : Value), M (Kind.quiet v)) (gone : M (Kind.gone )) (call : ∀ (v : Value), M (Kind.call v)) (made : ∀ (zs : List Value) (t : TypeId), M (Kind.made zs t)) (laid : ∀ (j : Nat) (zs : List Value) (cs : List Value), M (Kind.laid j zs cs)) (born : ∀ (v : Nat → Value) (cs : List Value), M (Kind.born v cs)) (over : ∀ (v : Value) (j : Nat) (cs : List Value), M (Kind.over v j cs)) (bornX : ∀ (v : Nat → Nat → Nat → Value) (cs : List Value), M (Kind.bornX v cs)) (ownX : ∀ (v : Nat → Nat → Nat → Value) (cs : List Value) (E : Obj → Nat → Prop), M (Kind.ownX v cs E)) (row : ∀ (v : Nat → Value) (cs : List Value) (t : TypeId), M (Kind.row v cs t)) (same : ∀ (v : Nat → Value) (j : Nat), M (Kind.same v j)) (k : Kind) : M k := by
  rcases k with v | _ | v | ⟨x0, x1⟩ | ⟨x0, x1, x2⟩ | ⟨x0, x1⟩ | ⟨x0, x1, x2⟩ | ⟨x0, x1⟩ | ⟨x0, x1, x2⟩ | ⟨x0, x1, x2⟩ | ⟨x0, x1⟩
  · exact quiet _
  · exact gone
  · exact call _
  · exact made _ _
  · exact laid _ _ _
  · exact born _ _
  · exact over _ _ _
  · exact bornX _ _
  · exact ownX _ _ _
  · exact row _ _ _
  · exact same _ _
theorem Kind.laidInj {j j' : Nat} {zs zs' cs cs' : List Value} (h : Kind.laid j zs cs = Kind.laid j' zs' cs') : j = j' ∧ zs = zs' ∧ cs = cs' := by
  have h' := Sum.inl.inj (Sum.inr.inj (Sum.inr.inj (Sum.inr.inj (Sum.inr.inj h))))
  exact ⟨congrArg Prod.fst h', congrArg (fun x => x.2.1) h', congrArg (fun x => x.2.2) h'⟩
theorem Kind.rowInj {v v' : Nat → Value} {cs cs' : List Value} {t t' : TypeId} (h : Kind.row v cs t = Kind.row v' cs' t') : v = v' ∧ cs = cs' ∧ t = t' := by
  have h' := Sum.inl.inj (Sum.inr.inj (Sum.inr.inj (Sum.inr.inj (Sum.inr.inj (Sum.inr.inj (Sum.inr.inj (Sum.inr.inj (Sum.inr.inj (Sum.inr.inj (h))))))))))
  exact ⟨congrArg Prod.fst h', congrArg (fun x => x.2.1) h', congrArg (fun x => x.2.2) h'⟩
theorem Kind.ownInj {v v' : Nat → Nat → Nat → Value} {cs cs' : List Value} {E E' : Obj → Nat → Prop} (h : Kind.ownX v cs E = Kind.ownX v' cs' E') : v = v' ∧ cs = cs' ∧ E = E' := by
  have h' := Sum.inl.inj (Sum.inr.inj (Sum.inr.inj (Sum.inr.inj (Sum.inr.inj (Sum.inr.inj (Sum.inr.inj (Sum.inr.inj (Sum.inr.inj (h)))))))))
  exact ⟨congrArg Prod.fst h', congrArg (fun x => x.2.1) h', congrArg (fun x => x.2.2) h'⟩
theorem Kind.sameInj {j j' : Nat} {v v' : Nat → Value} (h : Kind.same v j = Kind.same v' j') : v = v' ∧ j = j' := by
  have h' := Sum.inr.inj (Sum.inr.inj (Sum.inr.inj (Sum.inr.inj (Sum.inr.inj (Sum.inr.inj (Sum.inr.inj (Sum.inr.inj (Sum.inr.inj (Sum.inr.inj h)))))))))
  exact ⟨congrArg Prod.fst h', congrArg Prod.snd h'⟩
/-- What lies in its slot behind it; γ i: the block that operation i made. -/
def Kind.val (γ : Nat → Nat) (i : Nat) : Kind → Value
  | (Sum.inl v) => v
  | (Sum.inr (Sum.inl ())) => undef
  | (Sum.inr (Sum.inr (Sum.inl v))) => v
  | (Sum.inr (Sum.inr (Sum.inr (Sum.inl (_, _))))) => .pointer (some ⟨γ i, 0, none⟩)
  | (Sum.inr (Sum.inr (Sum.inr (Sum.inr (Sum.inl (_, _, _)))))) => undef
  | (Sum.inr (Sum.inr (Sum.inr (Sum.inr (Sum.inr (Sum.inl (v, _))))))) => v (γ i)
  | (Sum.inr (Sum.inr (Sum.inr (Sum.inr (Sum.inr (Sum.inr (Sum.inl (v, _, _)))))))) => v
  | (Sum.inr (Sum.inr (Sum.inr (Sum.inr (Sum.inr (Sum.inr (Sum.inr (Sum.inl (v, _))))))))) => v (γ i) (γ (i + 65536)) (γ (i + 131072))
  | (Sum.inr (Sum.inr (Sum.inr (Sum.inr (Sum.inr (Sum.inr (Sum.inr (Sum.inr (Sum.inl (v, _, _)))))))))) => v (γ i) (γ (i + 65536)) (γ (i + 131072))
  | (Sum.inr (Sum.inr (Sum.inr (Sum.inr (Sum.inr (Sum.inr (Sum.inr (Sum.inr (Sum.inr (Sum.inl (v, _, _))))))))))) => v (γ i)
  | (Sum.inr (Sum.inr (Sum.inr (Sum.inr (Sum.inr (Sum.inr (Sum.inr (Sum.inr (Sum.inr (Sum.inr (v, j))))))))))) => v (γ j)
/-- The cells of a block that it makes. -/
def Kind.cells : Kind → Option (List Value)
  | (Sum.inr (Sum.inr (Sum.inr (Sum.inl (zs, _))))) => some zs
  | (Sum.inr (Sum.inr (Sum.inr (Sum.inr (Sum.inr (Sum.inl (_, cs))))))) => some cs
  | (Sum.inr (Sum.inr (Sum.inr (Sum.inr (Sum.inr (Sum.inr (Sum.inr (Sum.inl (_, cs))))))))) => some cs
  | (Sum.inr (Sum.inr (Sum.inr (Sum.inr (Sum.inr (Sum.inr (Sum.inr (Sum.inr (Sum.inl (_, cs, _)))))))))) => some cs
  | (Sum.inr (Sum.inr (Sum.inr (Sum.inr (Sum.inr (Sum.inr (Sum.inr (Sum.inr (Sum.inr (Sum.inl (_, cs, _))))))))))) => some cs
  | _ => none
def fresh (ks : List Kind) (i : Nat) : Option (List Value) := (ks[i]?).bind Kind.cells
/-- The frame behind the region. -/
def fill (γ : Nat → Nat) : Nat → List Oper → List Kind → Act → Act
  | i, o :: os, k :: ks, a => fill γ (i + 1) os ks (a.put o.dst (k.val γ i))
  | _, _, _, a => a
theorem fill_defers (γ : Nat → Nat) : ∀ (i : Nat) (os : List Oper) (ks : List Kind) (a : Act), (fill γ i os ks a).defers = a.defers
  | _, [], _, _ => rfl
  | _, _ :: _, [], _ => rfl
  | i, o :: os, k :: ks, a => by
    unfold fill
    rw [fill_defers γ (i + 1) os ks, put_defers']
theorem fill_other (γ : Nat → Nat) (d : Tmp) : ∀ (i : Nat) (os : List Oper) (ks : List Kind) (a : Act), (∀ o ∈ os, o.dst ≠ some d) → (fill γ i os ks a).tmps[d]? = a.tmps[d]?
  | _, [], _, _, _ => rfl
  | _, _ :: _, [], _, _ => rfl
  | i, o :: os, k :: ks, a, h => by
    unfold fill
    rw [fill_other γ d (i + 1) os ks _ (fun o' ho => h o' (List.mem_cons_of_mem _ ho)), put_other _ _ _ _ (h o (List.mem_cons_self ..))]
theorem fill_at (γ : Nat → Nat) (d : Tmp) (o : Oper) (k : Kind) (hd : o.dst = some d) : ∀ (j i : Nat) (os : List Oper) (ks : List Kind) (a : Act), os[j]? = some o → ks[j]? = some k → d < a.tmps.size →
    (∀ j' o', j < j' → os[j']? = some o' → o'.dst ≠ some d) → (fill γ i os ks a).tmps[d]? = some (k.val γ (i + j))
  | _, _, [], _, _, h, _, _, _ => by simp at h
  | _, _, _ :: _, [], _, _, h, _, _ => by simp at h
  | 0, i, o' :: os, k' :: ks, a, ho, hk, hs, hl => by
    simp at ho hk
    subst ho hk
    unfold fill
    rw [fill_other γ d (i + 1) os ks _ (fun o2 ho2 => ?_), hd, put_same _ _ _ hs]
    · rfl
    · obtain ⟨m, hm, e⟩ := List.getElem_of_mem ho2
      exact hl (m + 1) o2 (by omega) (by rw [List.getElem?_cons_succ, List.getElem?_eq_getElem hm, e])
  | j + 1, i, o' :: os, k' :: ks, a, ho, hk, hs, hl => by
    unfold fill
    rw [fill_at γ d o k hd j (i + 1) os ks _ (by simpa using ho) (by simpa using hk) (by rw [put_size]; exact hs) (fun j' o2 h1 h2 => hl (j' + 1) o2 (by omega) (by simpa using h2))]
    rw [show i + 1 + j = i + (j + 1) by omega]
/-- The world behind the mark of a block's end. -/
def mkw (w : World) (g : Nat) : World := match w.shape? g with
  | some (_, n) => w.freeze ⟨g, n, none⟩ 1
  | none => w
theorem mkw_heap (w : World) (g : Nat) : (mkw w g).os = w.os ∧ (mkw w g).tape = w.tape ∧ (mkw w g).output = w.output ∧ (mkw w g).heap.size = w.heap.size ∧ ∀ k, k ≠ g → (mkw w g).heap[k]? = w.heap[k]? := by
  unfold mkw
  split
  · rename_i t n _
    unfold World.freeze
    rw [if_neg (by decide)]
    refine ⟨rfl, rfl, rfl, by simp, fun k hk => ?_⟩
    show (Array.modify _ _ _)[k]? = _
    rw [Array.getElem?_modify, if_neg (fun e => hk e.symm)]
  · exact ⟨rfl, rfl, rfl, rfl, fun _ _ => rfl⟩
theorem mkw_blk {w : World} {g : Nat} {cs : List Value} {t : TypeId} (h : w.heap[g]? = some (.cells cs.toArray t (0, 0))) : Blk (mkw w g) g cs := by
  have e : w.shape? g = some (t, cs.length) := by unfold World.shape?; rw [h]; simp
  unfold mkw
  rw [e]
  have hh : (w.freeze ⟨g, cs.length, none⟩ 1).heap[g]? = some (.cells cs.toArray t (cs.length, cs.length + 1)) := by
    unfold World.freeze
    rw [if_neg (by decide)]
    show (Array.modify _ _ _)[g]? = _
    rw [Array.getElem?_modify, if_pos rfl, h]
    rfl
  intro j v hj
  have hjl : j < cs.length := (List.getElem?_eq_some_iff.1 hj).1
  refine ⟨?_, ?_⟩
  · show (w.freeze ⟨g, cs.length, none⟩ 1).cell? ⟨g, j, none⟩ = some v
    unfold World.cell?
    rw [hh]
    simpa using hj
  · show (w.freeze ⟨g, cs.length, none⟩ 1).frozen? ⟨g, j, none⟩ = false
    unfold World.frozen?
    rw [hh]
    simp
    omega
section
variable {P : Program} {ops : Array Oper} {ks : List Kind} {a₀ : Act} {w₀ : World} {Q : Exit → Act → World → Prop}
/-- What is known of the memory when the operations l have come up. -/
structure Mem (ks : List Kind) (w₀ : World) (l : Array Bool) (γ : Nat → Nat) (w : World) : Prop where
  below : Below w₀.heap.size w₀ w
  made : ∀ i zs, fresh ks i = some zs → l.getD i false = true → w₀.heap.size ≤ γ i ∧ γ i < w.heap.size
  raw : ∀ i zs, fresh ks i = some zs → l.getD i false = true → (∀ s zs' cs, ks[s]? = some (.laid i zs' cs) → l.getD s false = false) → Blk w (γ i) zs
  full : ∀ s i zs cs, ks[s]? = some (.laid i zs cs) → l.getD s false = true → Blk w (γ i) cs ∧ γ i < w.heap.size
  order : ∀ s i zs cs, ks[s]? = some (.laid i zs cs) → l.getD s false = true → l.getD i false = true
  apart : ∀ i j zs zs', fresh ks i = some zs → fresh ks j = some zs' → l.getD i false = true → l.getD j false = true → i ≠ j → γ i ≠ γ j
  tgt : ∀ s v t, ks[s]? = some (.same v t) → l.getD s false = true → l.getD t false = true
  rows : ∀ i v cs t, ks[i]? = some (.row v cs t) → l.getD i false = true → (∀ s u, ks[s]? = some (.same u i) → l.getD s false = false) → w.heap[γ i]? = some (.cells cs.toArray t (0, 0))
  owns : ∀ i v cs E, ks[i]? = some (.ownX v cs E) → l.getD i false = true → ∃ o, w.heap[γ i]? = some o ∧ E o (γ (i + 65536))
/-- What is to be shown of an operation. -/
def KindOk (P : Program) (ops : Array Oper) (S : World → Prop) (F : (Nat → Nat) → Act) (o : Oper) : Kind → Prop
  | (Sum.inl v) => ∀ γ, Region.wanted o (yielded ops (F γ).tmps) = true ∧ ∀ w, S w → (execOp (F γ).eval o).run P w = .ok (.value v) w
  | (Sum.inr (Sum.inl ())) => ∀ γ, Region.wanted o (yielded ops (F γ).tmps) = false
  | (Sum.inr (Sum.inr (Sum.inl v))) => ∀ γ, Region.wanted o (yielded ops (F γ).tmps) = true ∧ ∀ w, S w → ∃ f args, (execOp (F γ).eval o).run P w = .ok (.enter f args) w ∧ Calls P f args w (fun e w' => e = .returned v ∧ Below w.heap.size w w')
  | (Sum.inr (Sum.inr (Sum.inr (Sum.inl (zs, t))))) => ∀ γ, Region.wanted o (yielded ops (F γ).tmps) = true ∧ ∀ w, (execOp (F γ).eval o).run P w = .ok (.value (.pointer (some ⟨w.heap.size, 0, none⟩))) (w.alloc (.cells zs.toArray t))
  | (Sum.inr (Sum.inr (Sum.inr (Sum.inr (Sum.inr (Sum.inr (Sum.inr (Sum.inr (Sum.inr (Sum.inr (v, j))))))))))) => ∀ γ, Region.wanted o (yielded ops (F γ).tmps) = true ∧ ∀ w, S w → (execOp (F γ).eval o).run P w = .ok (.value (v (γ j))) (mkw w (γ j))
  | (Sum.inr (Sum.inr (Sum.inr (Sum.inr (Sum.inr (Sum.inr (Sum.inr (Sum.inr (Sum.inr (Sum.inl (v, cs, t))))))))))) => ∀ γ, Region.wanted o (yielded ops (F γ).tmps) = true ∧ ∀ w, (execOp (F γ).eval o).run P w = .ok (.value (v w.heap.size)) (w.alloc (.cells cs.toArray t))
  | (Sum.inr (Sum.inr (Sum.inr (Sum.inr (Sum.inr (Sum.inl (v, cs))))))) => ∀ γ, Region.wanted o (yielded ops (F γ).tmps) = true ∧ ∀ w, S w → ∃ f args, (execOp (F γ).eval o).run P w = .ok (.enter f args) w ∧ Calls P f args w (fun e w' => Below w.heap.size w w' ∧ ∃ g, e = .returned (v g) ∧ w.heap.size ≤ g ∧ g < w'.heap.size ∧ Blk w' g cs)
  | (Sum.inr (Sum.inr (Sum.inr (Sum.inr (Sum.inr (Sum.inr (Sum.inr (Sum.inl (v, cs))))))))) => ∀ γ, Region.wanted o (yielded ops (F γ).tmps) = true ∧ ∀ w, S w → ∃ f args, (execOp (F γ).eval o).run P w = .ok (.enter f args) w ∧ Calls P f args w (fun e w' => Below w.heap.size w w' ∧ ∃ g x y, e = .returned (v g x y) ∧ w.heap.size ≤ g ∧ g < w'.heap.size ∧ Blk w' g cs)
  | (Sum.inr (Sum.inr (Sum.inr (Sum.inr (Sum.inr (Sum.inr (Sum.inr (Sum.inr (Sum.inl (v, cs, E)))))))))) => ∀ γ, Region.wanted o (yielded ops (F γ).tmps) = true ∧ ∀ w, S w → ∃ f args, (execOp (F γ).eval o).run P w = .ok (.enter f args) w ∧ Calls P f args w (fun e w' => Below w.heap.size w w' ∧ ∃ g x y, e = .returned (v g x y) ∧ w.heap.size ≤ g ∧ g < w'.heap.size ∧ Blk w' g cs ∧ ∃ o, w'.heap[g]? = some o ∧ E o x)
  | (Sum.inr (Sum.inr (Sum.inr (Sum.inr (Sum.inr (Sum.inr (Sum.inl (v, j, cs)))))))) => ∀ γ, Region.wanted o (yielded ops (F γ).tmps) = true ∧ ∀ u w, S u → u.heap.size ≤ γ j → S w → Blk w (γ j) cs → γ j < w.heap.size → ∃ f args, (execOp (F γ).eval o).run P w = .ok (.enter f args) w ∧ Calls P f args w (fun e w' => e = .returned v ∧ Below w.heap.size w w')
  | (Sum.inr (Sum.inr (Sum.inr (Sum.inr (Sum.inl (j, zs, cs)))))) => ∀ γ, Region.wanted o (yielded ops (F γ).tmps) = true ∧ o.dst = none ∧ zs.length = cs.length ∧ ∀ w, Blk w (γ j) zs → (execOp (F γ).eval o).run P w = .ok .skip (w.setCells (γ j) 0 cs)
def AllOk (P : Program) (ops : Array Oper) (S : World → Prop) (F : (Nat → Nat) → Act) : List Oper → List Kind → Prop
  | o :: os, k :: ks => KindOk P ops S F o k ∧ AllOk P ops S F os ks
  | _, _ => True
theorem AllOk.at {S : World → Prop} {F : (Nat → Nat) → Act} : ∀ {os : List Oper} {ks : List Kind}, AllOk P ops S F os ks → ∀ {i : Nat} {o : Oper} {k : Kind}, os[i]? = some o → ks[i]? = some k → KindOk P ops S F o k
  | [], _, _, _, _, _, h, _ => by simp at h
  | _ :: _, [], _, _, _, _, _, h => by simp at h
  | o' :: os, k' :: ks, h, 0, o, k, ho, hk => by simp at ho hk; subst ho hk; exact h.1
  | o' :: os, k' :: ks, h, i + 1, o, k, ho, hk => AllOk.at (os := os) (ks := ks) h.2 (by simpa using ho) (by simpa using hk)
/-- The region is such that what it says of the order suffices: nobody waits for a later one; every slot is there; who looks at a slot waits for all that write it; no slot is written twice; who lays cells waits for the block's maker, and nobody else lays there. -/
def orderly (ops : Array Oper) (ks : List Kind) (n : Nat) : Bool :=
  decide (ops.size ≤ 65536) && Region.noSelect ops && ks.length == ops.size &&
  eachOp ops (fun i o => o.after.all fun e => !Region.binds .any e || decide (e.on < i)) &&
  eachOp ops (fun _ o => match o.dst with | none => true | some d => decide (d < n)) &&
  eachOp ops (fun _ o => (o.looksAt ops).all fun d => eachOp ops fun j oj => oj.dst != some d || waits o j) &&
  eachOp ops (fun i o => match o.dst with | none => true | some d => eachOp ops fun j oj => j == i || oj.dst != some d) &&
  eachOp ops (fun i o => match ks[i]? with | some ((Sum.inr (Sum.inr (Sum.inr (Sum.inr (Sum.inl (j, _, _))))))) => waits o j && eachOp ops fun s _ => s == i || (match ks[s]? with | some ((Sum.inr (Sum.inr (Sum.inr (Sum.inr (Sum.inl (j', _, _))))))) => j' != j | _ => true) | some ((Sum.inr (Sum.inr (Sum.inr (Sum.inr (Sum.inr (Sum.inr (Sum.inl (_, j, _))))))))) => waits o j || (List.range ops.size).any (fun s => waits o s && (match ks[s]? with | some ((Sum.inr (Sum.inr (Sum.inr (Sum.inr (Sum.inr (Sum.inr (Sum.inr (Sum.inr (Sum.inr (Sum.inr (_, j')))))))))))) => j' == j | _ => false)) | some ((Sum.inr (Sum.inr (Sum.inr (Sum.inr (Sum.inr (Sum.inr (Sum.inr (Sum.inr (Sum.inr (Sum.inr (_, j)))))))))))) => waits o j && decide (j < i) && (match ks[j]? with | some ((Sum.inr (Sum.inr (Sum.inr (Sum.inr (Sum.inr (Sum.inr (Sum.inr (Sum.inr (Sum.inr (Sum.inl (_, _, _)))))))))))) => true | _ => false) && eachOp ops (fun s _ => s == i || (match ks[s]? with | some ((Sum.inr (Sum.inr (Sum.inr (Sum.inr (Sum.inr (Sum.inr (Sum.inr (Sum.inr (Sum.inr (Sum.inr (_, j')))))))))))) => j' != j | _ => true)) | _ => true)
structure Orderly (ops : Array Oper) (ks : List Kind) (n : Nat) : Prop where
  small : ops.size ≤ 65536
  noSelect : Region.noSelect ops = true
  size : ks.length = ops.size
  up : ∀ {i : Nat} {o : Oper}, ops[i]? = some o → ∀ e ∈ o.after, Region.binds .any e = true → e.on < i
  dst : ∀ {i : Nat} {o : Oper} {d : Tmp}, ops[i]? = some o → o.dst = some d → d < n
  looks : ∀ {i : Nat} {o : Oper} {d : Tmp} {j : Nat} {oj : Oper}, ops[i]? = some o → d ∈ o.looksAt ops → ops[j]? = some oj → oj.dst = some d → waits o j = true
  once : ∀ {i : Nat} {o : Oper} {d : Tmp} {j : Nat} {oj : Oper}, ops[i]? = some o → o.dst = some d → ops[j]? = some oj → oj.dst = some d → j = i
  laid : ∀ {i : Nat} {o : Oper} {j : Nat} {zs cs : List Value}, ops[i]? = some o → ks[i]? = some (.laid j zs cs) → waits o j = true
  over : ∀ {i : Nat} {o : Oper} {v : Value} {j : Nat} {cs : List Value}, ops[i]? = some o → ks[i]? = some (.over v j cs) → waits o j = true ∨ ∃ s u, ks[s]? = some (.same u j) ∧ waits o s = true
  lone : ∀ {i : Nat} {o : Oper} {j : Nat} {zs cs : List Value} {s : Nat} {zs' cs' : List Value}, ops[i]? = some o → ks[i]? = some (.laid j zs cs) → ks[s]? = some (.laid j zs' cs') → s = i
  same : ∀ {i : Nat} {o : Oper} {v : Nat → Value} {j : Nat}, ops[i]? = some o → ks[i]? = some (.same v j) → (waits o j = true ∧ j < i) ∧ (∃ u cs t, ks[j]? = some (.row u cs t)) ∧ ∀ s v', ks[s]? = some (.same v' j) → s = i
theorem Orderly.of {n : Nat} (h : orderly ops ks n = true) : Orderly ops ks n := by
  unfold orderly at h
  simp only [Bool.and_eq_true] at h
  obtain ⟨⟨⟨⟨⟨⟨⟨h0, h1⟩, h2⟩, h3⟩, h4⟩, h5⟩, h6⟩, h7⟩ := h
  have hsz : ks.length = ops.size := by simpa using h2
  refine ⟨of_decide_eq_true h0, h1, hsz, ?_, ?_, ?_, ?_, ?_, ?_, ?_, ?_⟩
  · intro i o ho e he hb
    have := eachOp_spec h3 ho
    have := Array.all_eq_true_iff_forall_mem.1 this e he
    simpa [hb] using this
  · intro i o d ho hd
    have := eachOp_spec h4 ho
    rw [hd] at this
    simpa using this
  · intro i o d j oj ho hd hj hdj
    have := eachOp_spec (List.all_eq_true.1 (eachOp_spec h5 ho) d hd) hj
    simpa [hdj] using this
  · intro i o d j oj ho hd hj hdj
    have := eachOp_spec h6 ho
    rw [hd] at this
    have := eachOp_spec this hj
    simpa [hdj] using this
  · intro i o j zs cs ho hk
    have := eachOp_spec h7 ho
    rw [hk] at this
    simp only [Bool.and_eq_true] at this
    exact this.1
  · intro i o v j cs ho hk
    have := eachOp_spec h7 ho
    rw [hk] at this
    rcases (Bool.or_eq_true _ _).mp this with h | h
    · exact .inl h
    · obtain ⟨s, _, hs⟩ := List.any_eq_true.1 h
      rw [Bool.and_eq_true] at hs
      obtain ⟨hs1, hs2⟩ := hs
      split at hs2
      · rename_i u j' hj
        exact .inr ⟨s, u, by rw [hj, eq_of_beq hs2], hs1⟩
      · cases hs2
  · intro i o j zs cs s zs' cs' ho hk hs
    have := eachOp_spec h7 ho
    rw [hk] at this
    simp only [Bool.and_eq_true] at this
    have hlt : s < ops.size := by rw [← hsz]; exact (List.getElem?_eq_some_iff.1 hs).1
    have := eachOp_spec this.2 (Array.getElem?_eq_getElem hlt)
    rw [hs] at this
    simpa using this
  · intro i o v j ho hk
    have := eachOp_spec h7 ho
    rw [hk] at this
    simp only [Bool.and_eq_true] at this
    obtain ⟨⟨⟨x1, x2⟩, x3⟩, x4⟩ := this
    refine ⟨⟨x1, of_decide_eq_true x2⟩, ?_, fun s v' hs => ?_⟩
    · split at x3
      · rename_i u cs t hj
        exact ⟨u, cs, t, hj⟩
      · cases x3
    · have hsz2 : s < ops.size := by rw [← hsz]; exact (List.getElem?_eq_some_iff.1 hs).1
      have := eachOp_spec x4 (Array.getElem?_eq_getElem hsz2)
      rw [hs] at this
      simpa using this
def bornAt : Option Kind → Option (List Value × Nat)
  | some ((Sum.inr (Sum.inr (Sum.inr (Sum.inr (Sum.inr (Sum.inl (_, cs)))))))) => some (cs, 0)
  | some ((Sum.inr (Sum.inr (Sum.inr (Sum.inr (Sum.inr (Sum.inr (Sum.inr (Sum.inl (_, cs)))))))))) => some (cs, 1)
  | some ((Sum.inr (Sum.inr (Sum.inr (Sum.inr (Sum.inr (Sum.inr (Sum.inr (Sum.inr (Sum.inr (Sum.inl (_, cs, _)))))))))))) => some (cs, 2)
  | _ => none
theorem bornAt_cells {o : Option Kind} {cs : List Value} {c : Nat} (h : bornAt o = some (cs, c)) : o.bind Kind.cells = some cs := by
  cases o with
  | none => cases h
  | some k =>
    cases k using Kind.each <;> first | cases h | skip
    · rfl
    · rfl
    · rfl
def LaidOk (all : List Kind) : List Kind → Prop
  | [] => True
  | (Sum.inr (Sum.inr (Sum.inr (Sum.inr (Sum.inl (j, zs, _)))))) :: r => (∃ t, all[j]? = some (.made zs t)) ∧ LaidOk all r
  | (Sum.inr (Sum.inr (Sum.inr (Sum.inr (Sum.inr (Sum.inr (Sum.inl (_, j, cs)))))))) :: r => (∃ c, bornAt all[j]? = some (cs, c)) ∧ LaidOk all r
  | _ :: r => LaidOk all r
theorem LaidOk.at {all : List Kind} : ∀ {r : List Kind}, LaidOk all r → ∀ {s j : Nat} {zs cs : List Value}, r[s]? = some (.laid j zs cs) → ∃ t, all[j]? = some (.made zs t)
  | [], _, _, _, _, _, h => by simp at h
  | k :: r, hl, 0, j, zs, cs, h => by
    simp at h
    subst h
    exact hl.1
  | k :: r, hl, s + 1, j, zs, cs, h => by
    have hr : LaidOk all r := by
      cases k using Kind.each <;> first | exact hl | exact hl.2
    exact hr.at (s := s) (by simpa using h)
theorem LaidOk.over {all : List Kind} : ∀ {r : List Kind}, LaidOk all r → ∀ {s j : Nat} {v : Value} {cs : List Value}, r[s]? = some (.over v j cs) → ∃ c, bornAt all[j]? = some (cs, c)
  | [], _, _, _, _, _, h => by simp at h
  | k :: r, hl, 0, j, v, cs, h => by
    simp at h
    subst h
    exact hl.1
  | k :: r, hl, s + 1, j, v, cs, h => by
    have hr : LaidOk all r := by
      cases k using Kind.each <;> first | exact hl | exact hl.2
    exact hr.over (s := s) (by simpa using h)
structure Agree (ops : Array Oper) (ks : List Kind) (a₀ : Act) (l : Array Bool) (γ : Nat → Nat) (a : Act) : Prop where
  defers : a.defers = a₀.defers
  size : a.tmps.size = a₀.tmps.size
  slots : ∀ d, (∀ i o, ops[i]? = some o → o.dst = some d → l.getD i false = true) → a.tmps[d]? = (fill γ 0 ops.toList ks a₀).tmps[d]?
theorem kind_at {n : Nat} (hO : Orderly ops ks n) {i : Nat} {o : Oper} (ho : ops[i]? = some o) : ∃ k, ks[i]? = some k := by
  have hi : i < ops.size := (Array.getElem?_eq_some_iff.1 ho).1
  exact ⟨_, List.getElem?_eq_getElem (by rw [hO.size]; exact hi)⟩
theorem fill_one {n : Nat} (hO : Orderly ops ks n) (hn : n = a₀.tmps.size) (γ : Nat → Nat) {i : Nat} {o : Oper} {k : Kind} {d : Tmp} (ho : ops[i]? = some o) (hk : ks[i]? = some k) (hd : o.dst = some d) :
    (fill γ 0 ops.toList ks a₀).tmps[d]? = some (k.val γ i) := by
  have := fill_at γ d o k hd i 0 ops.toList ks a₀ (by simpa using ho) hk (by rw [← hn]; exact hO.dst ho hd) (fun j' o' hlt ho' hd' => by
    have := hO.once ho hd (by simpa using ho' : ops[j']? = some o') hd'
    omega)
  rw [Nat.zero_add] at this
  exact this
theorem Agree.step {n : Nat} (hO : Orderly ops ks n) (hn : n = a₀.tmps.size) {l : Array Bool} {γ γ' : Nat → Nat} {a : Act} (h : Agree ops ks a₀ l γ a) {i : Nat} {o : Oper} {k : Kind} (ho : ops[i]? = some o) (hk : ks[i]? = some k)
    (hγ : ∀ j, j ≠ i → j ≠ i + 65536 → j ≠ i + 131072 → γ' j = γ j) (ht : ∀ s v t, ks[s]? = some (.same v t) → l.getD s false = true → γ' t = γ t := by intro _ _ _ _ _; rfl) : Agree ops ks a₀ (l.setIfInBounds i true) γ' (a.put o.dst (k.val γ' i)) := by
  have hi6 : i < 65536 := Nat.lt_of_lt_of_le (Array.getElem?_eq_some_iff.1 ho).1 hO.small
  refine ⟨by rw [put_defers']; exact h.defers, by rw [put_size]; exact h.size, fun d hd => ?_⟩
  by_cases e : o.dst = some d
  · rw [fill_one hO hn γ' ho hk e, e, put_same _ _ _ (by rw [h.size, ← hn]; exact hO.dst ho e)]
  · rw [put_other _ _ _ _ e, h.slots d (fun j oj hj hdj => by
      have hne : i ≠ j := fun he => by subst he; rw [ho] at hj; injection hj with hj; subst hj; exact e hdj
      have := hd j oj hj hdj
      rw [getD_set_ne false hne] at this
      exact this)]
    by_cases hw : ∃ (j : Nat) (oj : Oper), ops[j]? = some oj ∧ oj.dst = some d
    · obtain ⟨j, oj, hj, hdj⟩ := hw
      obtain ⟨kj, hkj⟩ := kind_at hO hj
      have hne : j ≠ i := fun he => by subst he; rw [ho] at hj; injection hj with hj; subst hj; exact e hdj
      rw [fill_one hO hn γ hj hkj hdj, fill_one hO hn γ' hj hkj hdj]
      have hj6 : j < 65536 := Nat.lt_of_lt_of_le (Array.getElem?_eq_some_iff.1 hj).1 hO.small
      have hlj : l.getD j false = true := by
        have := hd j oj hj hdj
        rwa [getD_set_ne false (Ne.symm hne)] at this
      have q1 := hγ j hne (by omega) (by omega)
      have q2 := hγ (j + 65536) (by omega) (by omega) (by omega)
      have q3 := hγ (j + 131072) (by omega) (by omega) (by omega)
      cases kj using Kind.each with
      | same v t =>
        show some (v (γ t)) = some (v (γ' t))
        rw [ht j v t hkj hlj]
      | _ => simp only [Kind.val, q1, q2, q3]
    · have hno : ∀ o' ∈ ops.toList, o'.dst ≠ some d := fun o' ho' hd' => by
        obtain ⟨j, hj, ej⟩ := List.getElem_of_mem ho'
        exact hw ⟨j, o', by rw [← Array.getElem?_toList, List.getElem?_eq_getElem hj, ej], hd'⟩
      rw [fill_other γ d 0 _ _ _ hno, fill_other γ' d 0 _ _ _ hno]
/-- An operation that may come up sees what it will have seen in the end. -/
theorem Agree.sees {n : Nat} (hO : Orderly ops ks n) {l : Array Bool} {γ : Nat → Nat} {a : Act} (h : Agree ops ks a₀ l γ a) {i : Nat} {o : Oper} (ho : ops[i]? = some o)
    (hl : ∀ e ∈ o.after, Region.binds .any e = true → l.getD e.on false = true) :
    execOp a.eval o = execOp (fill γ 0 ops.toList ks a₀).eval o ∧ Region.wanted o (yielded ops a.tmps) = Region.wanted o (yielded ops (fill γ 0 ops.toList ks a₀).tmps) := by
  have hs : ∀ d ∈ o.looksAt ops, a.tmps[d]? = (fill γ 0 ops.toList ks a₀).tmps[d]? := fun d hd =>
    h.slots d (fun j oj hj hdj => waits_spec (hO.looks ho hd hj hdj) hl)
  refine ⟨execOp_congr o (fun cs b => Region.noSelect_spec hO.noSelect i o cs b ho) (fun x hx => ?_), ?_⟩
  · cases x with
    | tmp t =>
      have := hs t (List.mem_append_left _ (List.mem_filterMap.2 ⟨.tmp t, by simpa using hx, rfl⟩))
      simp only [Act.eval, Array.getD_eq_getD_getElem?, this]
    | _ => rfl
  · unfold Region.wanted
    cases hg : o.guard with
    | none => rfl
    | some gw =>
      obtain ⟨g, want⟩ := gw
      have hy : yielded ops a.tmps g = yielded ops (fill γ 0 ops.toList ks a₀).tmps g := by
        unfold yielded
        cases ht : (ops[g]?).bind (·.dst) with
        | none => rfl
        | some t =>
          have := hs t (by simp [Oper.looksAt, hg, ht])
          simp only [Option.bind_some, this]
      simp only [hy]
theorem Agree.whole {l : Array Bool} {γ : Nat → Nat} {a : Act} (h : Agree ops ks a₀ l γ a) (hl : ∀ i, i < ops.size → l.getD i false = true) : a = fill γ 0 ops.toList ks a₀ := by
  have ht : a.tmps = (fill γ 0 ops.toList ks a₀).tmps := Array.ext_getElem? fun d =>
    h.slots d (fun i o ho _ => hl i (Array.getElem?_eq_some_iff.1 ho).1)
  have hd : a.defers = (fill γ 0 ops.toList ks a₀).defers := by rw [h.defers, fill_defers]
  cases a
  cases hf : fill γ 0 ops.toList ks a₀
  rw [hf] at ht hd
  simp only at ht hd
  rw [ht, hd]
/-! The memory, step by step. -/
theorem fresh_of {ks : List Kind} {i : Nat} {k : Kind} (hk : ks[i]? = some k) : fresh ks i = k.cells := by unfold fresh; rw [hk]; rfl
theorem heap_setCells0 (g k : Nat) (hk : k ≠ g) : ∀ (vs : List Value) (o : Nat) (w : World), (w.setCells g o vs).heap[k]? = w.heap[k]?
  | [], _, _ => rfl
  | v :: r, o, w => by
    rw [World.setCells, heap_setCells0 g k hk r (o + 1) _]
    unfold World.setCell
    show (Array.modify _ _ _)[k]? = _
    rw [Array.getElem?_modify, if_neg (fun e => hk e.symm)]
theorem Mem.still {l : Array Bool} {γ : Nat → Nat} {w w' : World} (h : Mem ks w₀ l γ w) (hb : Below w.heap.size w w') {i : Nat} {k : Kind} (hk : ks[i]? = some k) (h1 : k.cells = none) (h2 : ∀ j zs cs, k ≠ .laid j zs cs) (h3 : ∀ v t, k = .same v t → l.getD t false = true := by intro _ _ h; cases h) :
    Mem ks w₀ (l.setIfInBounds i true) γ w' := by
  have ne1 : ∀ j zs, fresh ks j = some zs → i ≠ j := fun j zs hj he => by subst he; rw [fresh_of hk, h1] at hj; cases hj
  have ne2 : ∀ s j zs cs, ks[s]? = some (.laid j zs cs) → i ≠ s := fun s j zs cs hj he => by subst he; rw [hk] at hj; injection hj with hj; exact h2 _ _ _ hj
  refine ⟨h.below.trans (hb.mono h.below.size), ?_, ?_, ?_, ?_, ?_, ?_, ?_, ?_⟩
  · intro j zs hj hl
    rw [getD_set_ne false (ne1 j zs hj)] at hl
    obtain ⟨x, y⟩ := h.made j zs hj hl
    exact ⟨x, Nat.lt_of_lt_of_le y hb.size⟩
  · intro j zs hj hl hs
    rw [getD_set_ne false (ne1 j zs hj)] at hl
    exact (h.raw j zs hj hl (fun s zs' cs hs' => by have := hs s zs' cs hs'; rwa [getD_set_ne false (ne2 s j zs' cs hs')] at this)).below hb (h.made j zs hj hl).2
  · intro s j zs cs hs hl
    rw [getD_set_ne false (ne2 s j zs cs hs)] at hl
    exact ⟨(h.full s j zs cs hs hl).1.below hb (h.full s j zs cs hs hl).2, Nat.lt_of_lt_of_le (h.full s j zs cs hs hl).2 hb.size⟩
  · intro s j zs cs hs hl
    rw [getD_set_ne false (ne2 s j zs cs hs)] at hl
    exact getD_true (h.order s j zs cs hs hl)
  · intro x y zs zs' hx hy hlx hly hne
    rw [getD_set_ne false (ne1 x zs hx)] at hlx
    rw [getD_set_ne false (ne1 y zs' hy)] at hly
    exact h.apart x y zs zs' hx hy hlx hly hne
  · intro s v t hs hl
    by_cases e : s = i
    · subst e
      rw [hk] at hs
      injection hs with hs
      exact getD_true (h3 v t hs)
    · rw [getD_set_ne false (Ne.symm e)] at hl
      exact getD_true (h.tgt s v t hs hl)
  · intro j v cs t hj hl hs
    have hne : i ≠ j := ne1 j cs (by rw [fresh_of hj]; rfl)
    rw [getD_set_ne false hne] at hl
    have hlt := (h.made j cs (by rw [fresh_of hj]; rfl) hl).2
    rw [hb.block _ hlt]
    exact h.rows j v cs t hj hl (fun s u hs' => by
      have := hs s u hs'
      cases hb2 : l.getD s false with
      | false => rfl
      | true => rw [getD_true hb2] at this; cases this)
  · intro j v cs E hj hl
    have hne : i ≠ j := ne1 j cs (by rw [fresh_of hj]; rfl)
    rw [getD_set_ne false hne] at hl
    rw [hb.block _ (h.made j cs (by rw [fresh_of hj]; rfl) hl).2]
    exact h.owns j v cs E hj hl
theorem Mem.make {l : Array Bool} {γ : Nat → Nat} {w w' : World} (h : Mem ks w₀ l γ w) {i : Nat} {k : Kind} {zs : List Value} (hk : ks[i]? = some k) (hc : k.cells = some zs) (h2 : ∀ j zs cs, k ≠ .laid j zs cs) (hun : l.getD i true = false)
    (hb : Below w.heap.size w w') {g : Nat} (hg1 : w.heap.size ≤ g) (hg2 : g < w'.heap.size) (hg3 : Blk w' g zs) (hsm : ks.length ≤ 65536) (hrow : ∀ v cs t, k = .row v cs t → w'.heap[g]? = some (.cells cs.toArray t (0, 0)) := by intro _ _ _ h; cases h) (hown : ∀ v cs E, k = .ownX v cs E → ∃ o, w'.heap[g]? = some o ∧ E o (γ (i + 65536)) := by intro _ _ _ h; cases h) :
    Mem ks w₀ (l.setIfInBounds i true) (fun j => if j = i then g else γ j) w' := by
  obtain ⟨hf, _⟩ := getD_same hun
  have ne2 : ∀ s j zs cs, ks[s]? = some (.laid j zs cs) → i ≠ s := fun s j zs cs hj he => by subst he; rw [hk] at hj; injection hj with hj; exact h2 _ _ _ hj
  have hsz := h.below.size
  have hsz2 := hb.size
  refine ⟨h.below.trans (hb.mono h.below.size), ?_, ?_, ?_, ?_, ?_, ?_, ?_, ?_⟩
  · intro j zs' hj hl
    by_cases e : j = i
    · simp only [if_pos e]; omega
    · rw [getD_set_ne false (Ne.symm e)] at hl
      have := h.made j zs' hj hl
      simp only [if_neg e]
      omega
  · intro j zs' hj hl hs
    by_cases e : j = i
    · subst e
      rw [fresh_of hk, hc] at hj
      injection hj with hj
      subst hj
      simp only [if_pos]
      exact hg3
    · rw [getD_set_ne false (Ne.symm e)] at hl
      simp only [if_neg e]
      exact (h.raw j zs' hj hl (fun s z c hs' => by have := hs s z c hs'; rwa [getD_set_ne false (ne2 s j z c hs')] at this)).below hb (h.made j zs' hj hl).2
  · intro s j z c hs hl
    rw [getD_set_ne false (ne2 s j z c hs)] at hl
    have e : j ≠ i := fun he => by have := h.order s j z c hs hl; rw [he, hf] at this; cases this
    have := h.full s j z c hs hl
    simp only [if_neg e]
    exact ⟨this.1.below hb this.2, by omega⟩
  · intro s j z c hs hl
    rw [getD_set_ne false (ne2 s j z c hs)] at hl
    exact getD_true (h.order s j z c hs hl)
  · intro x y zs1 zs2 hx hy hlx hly hne
    by_cases ex : x = i
    · have ey : y ≠ i := fun he => hne (by rw [ex, he])
      rw [getD_set_ne false (Ne.symm ey)] at hly
      have := h.made y zs2 hy hly
      simp only [if_pos ex, if_neg ey]
      omega
    · rw [getD_set_ne false (Ne.symm ex)] at hlx
      by_cases ey : y = i
      · have := h.made x zs1 hx hlx
        simp only [if_pos ey, if_neg ex]
        omega
      · rw [getD_set_ne false (Ne.symm ey)] at hly
        simp only [if_neg ex, if_neg ey]
        exact h.apart x y zs1 zs2 hx hy hlx hly hne
  · intro s v t hs hl
    by_cases e : s = i
    · subst e
      rw [hk] at hs
      injection hs with hs
      subst hs
      cases hc
    · rw [getD_set_ne false (Ne.symm e)] at hl
      exact getD_true (h.tgt s v t hs hl)
  · intro j v cs t hj hl hs
    by_cases e : j = i
    · subst e
      simp only [if_pos]
      rw [hk] at hj
      injection hj with hj
      exact hrow v cs t hj
    · rw [getD_set_ne false (Ne.symm e)] at hl
      simp only [if_neg e]
      rw [hb.block _ (h.made j cs (by rw [fresh_of hj]; rfl) hl).2]
      exact h.rows j v cs t hj hl (fun s u hs' => by
        have := hs s u hs'
        cases hb2 : l.getD s false with
        | false => rfl
        | true => rw [getD_true hb2] at this; cases this)
  · intro j v cs E hj hl
    have hi : i < 65536 := by have := (List.getElem?_eq_some_iff.1 hk).1; omega
    by_cases e : j = i
    · subst e
      rw [hk] at hj
      injection hj with hj
      simp only [if_pos]
      rw [if_neg (by omega)]
      exact hown v cs E hj
    · rw [getD_set_ne false (Ne.symm e)] at hl
      simp only [if_neg e]
      rw [if_neg (by omega), hb.block _ (h.made j cs (by rw [fresh_of hj]; rfl) hl).2]
      exact h.owns j v cs E hj hl
theorem Mem.lay {n : Nat} (hO : Orderly ops ks n) (hL : LaidOk ks ks) {l : Array Bool} {γ : Nat → Nat} {w : World} (h : Mem ks w₀ l γ w) {s i : Nat} {o : Oper} {zs cs : List Value} (ho : ops[s]? = some o) (hk : ks[s]? = some (.laid i zs cs)) (hlen : zs.length = cs.length)
    (hun : l.getD s true = false) (hli : l.getD i false = true) : Blk w (γ i) zs ∧ Mem ks w₀ (l.setIfInBounds s true) γ (w.setCells (γ i) 0 cs) := by
  obtain ⟨hf, hset⟩ := getD_same hun
  obtain ⟨t, hmi0⟩ := hL.at hk
  have hmi : fresh ks i = some zs := fresh_of hmi0
  have ne1 : ∀ j zs, fresh ks j = some zs → s ≠ j := fun j zs hj he => by subst he; rw [fresh_of hk] at hj; cases hj
  have hraw : Blk w (γ i) zs := h.raw i zs hmi hli (fun s' z c hs' => by rw [hO.lone ho hk hs']; exact hf)
  refine ⟨hraw, below_setCells _ (h.made i zs hmi hli).1 _ _ _ h.below, ?_, ?_, ?_, ?_, ?_, ?_, ?_, ?_⟩
  · intro j zs' hj hl
    rw [getD_set_ne false (ne1 j zs' hj)] at hl
    rw [size_setCells]
    exact h.made j zs' hj hl
  · intro j zs' hj hl hs
    rw [getD_set_ne false (ne1 j zs' hj)] at hl
    have e : j ≠ i := fun he => by
      subst he
      have := hs s zs cs hk
      rw [hset] at this
      cases this
    refine (h.raw j zs' hj hl (fun s' z c hs' => ?_)).other (h.apart j i zs' zs hj hmi hl hli e)
    have := hs s' z c hs'
    cases hb : l.getD s' false with
    | false => rfl
    | true => rw [getD_true hb] at this; exact this
  · intro s' j z c hs' hl
    rw [size_setCells]
    by_cases e : s' = s
    · subst e
      rw [hk] at hs'
      injection hs' with hs'
      obtain ⟨e1, e2, e3⟩ := Kind.laidInj hs'
      subst e1 e2 e3
      exact ⟨hraw.laid hlen, (h.made i zs hmi hli).2⟩
    · rw [getD_set_ne false (Ne.symm e)] at hl
      have hj : j ≠ i := fun he => by
        subst he
        exact e (hO.lone ho hk hs')
      obtain ⟨t', hmj0⟩ := hL.at hs'
      have hmj : fresh ks j = some z := fresh_of hmj0
      have := h.full s' j z c hs' hl
      exact ⟨this.1.other (h.apart j i z zs hmj hmi (h.order s' j z c hs' hl) hli hj), this.2⟩
  · intro s' j z c hs' hl
    by_cases e : s' = s
    · subst e
      rw [hk] at hs'
      injection hs' with hs'
      obtain ⟨e1, _, _⟩ := Kind.laidInj hs'
      subst e1
      exact getD_true hli
    · rw [getD_set_ne false (Ne.symm e)] at hl
      exact getD_true (h.order s' j z c hs' hl)
  · intro x y zs1 zs2 hx hy hlx hly hne
    rw [getD_set_ne false (ne1 x zs1 hx)] at hlx
    rw [getD_set_ne false (ne1 y zs2 hy)] at hly
    exact h.apart x y zs1 zs2 hx hy hlx hly hne
  · intro s' v t' hs hl
    by_cases e : s' = s
    · subst e
      rw [hk] at hs
      cases hs
    · rw [getD_set_ne false (Ne.symm e)] at hl
      exact getD_true (h.tgt s' v t' hs hl)
  · intro j v cs' t' hj hl hs
    have hne : s ≠ j := ne1 j cs' (by rw [fresh_of hj]; rfl)
    rw [getD_set_ne false hne] at hl
    have hji : j ≠ i := fun e => by subst e; rw [hmi0] at hj; cases hj
    have hap := h.apart j i cs' zs (by rw [fresh_of hj]; rfl) hmi hl hli hji
    have e2 : (w.setCells (γ i) 0 cs).heap[γ j]? = w.heap[γ j]? := heap_setCells0 (γ i) (γ j) hap cs 0 w
    rw [e2]
    exact h.rows j v cs' t' hj hl (fun s2 u hs' => by
      have := hs s2 u hs'
      cases hb2 : l.getD s2 false with
      | false => rfl
      | true => rw [getD_true hb2] at this; cases this)
  · intro j v cs' E hj hl
    have hne : s ≠ j := ne1 j cs' (by rw [fresh_of hj]; rfl)
    rw [getD_set_ne false hne] at hl
    have hji : j ≠ i := fun e => by subst e; rw [hmi0] at hj; cases hj
    have hap := h.apart j i cs' zs (by rw [fresh_of hj]; rfl) hmi hl hli hji
    have e2 : (w.setCells (γ i) 0 cs).heap[γ j]? = w.heap[γ j]? := heap_setCells0 (γ i) (γ j) hap cs 0 w
    rw [e2]
    exact h.owns j v cs' E hj hl
/-- The end of a row is marked. -/
theorem Mem.mark {n : Nat} (hO : Orderly ops ks n) (hL : LaidOk ks ks) {l : Array Bool} {γ : Nat → Nat} {w : World} (h : Mem ks w₀ l γ w) {i j : Nat} {o : Oper} {u : Nat → Value} (ho : ops[i]? = some o) (hk : ks[i]? = some (.same u j)) (hun : l.getD i true = false) (hlj : l.getD j false = true) : Mem ks w₀ (l.setIfInBounds i true) γ (mkw w (γ j)) := by
  obtain ⟨_, ⟨v, cs, t, hj⟩, hlone⟩ := hO.same ho hk
  obtain ⟨m1, m2, m3, m4, m5⟩ := mkw_heap w (γ j)
  have hfj : fresh ks j = some cs := by rw [fresh_of hj]; rfl
  have hmj := h.made j cs hfj hlj
  have hrow := h.rows j v cs t hj hlj (fun s u' hs => by rw [hlone s u' hs]; exact (getD_same hun).1)
  have hblk := mkw_blk hrow
  have ne1 : ∀ j zs, fresh ks j = some zs → i ≠ j := fun j zs hj he => by subst he; rw [fresh_of hk] at hj; cases hj
  have ne2 : ∀ s j zs cs, ks[s]? = some (.laid j zs cs) → i ≠ s := fun s j zs cs hj he => by subst he; rw [hk] at hj; cases hj
  have keep : ∀ g cs', g ≠ γ j → Blk w g cs' → Blk (mkw w (γ j)) g cs' := fun g cs' hg hb x v hx => by
    have e := m5 g hg
    exact ⟨by rw [World.cell?_of_block (w := w) (a := ⟨g, x, none⟩) e]; exact (hb x v hx).1, by rw [World.frozen?_of_block (w := w) (a := ⟨g, x, none⟩) e]; exact (hb x v hx).2⟩
  refine ⟨⟨m1.trans h.below.os, m2.trans h.below.tape, m3.trans h.below.output, by rw [m4]; exact h.below.size, fun k hk' => (m5 k (by omega)).trans (h.below.block k hk')⟩, ?_, ?_, ?_, ?_, ?_, ?_, ?_, ?_⟩
  · intro x zs hx hl
    rw [getD_set_ne false (ne1 x zs hx)] at hl
    rw [m4]
    exact h.made x zs hx hl
  · intro x zs hx hl hs
    rw [getD_set_ne false (ne1 x zs hx)] at hl
    by_cases e : x = j
    · subst e
      rw [hfj] at hx
      injection hx with hx
      subst hx
      exact hblk
    · exact keep _ _ (h.apart x j zs cs hx hfj hl hlj e) (h.raw x zs hx hl (fun s zs' cs' hs' => by have := hs s zs' cs' hs'; rwa [getD_set_ne false (ne2 s x zs' cs' hs')] at this))
  · intro s x zs cs' hs hl
    rw [getD_set_ne false (ne2 s x zs cs' hs)] at hl
    rw [m4]
    have hf := h.full s x zs cs' hs hl
    refine ⟨?_, hf.2⟩
    have hlx := h.order s x zs cs' hs hl
    obtain ⟨t', hx⟩ := hL.at hs
    have hxj : x ≠ j := fun e => by subst e; rw [hj] at hx; cases hx
    exact keep _ _ (h.apart x j zs cs (fresh_of hx) hfj hlx hlj hxj) hf.1
  · intro s x zs cs' hs hl
    rw [getD_set_ne false (ne2 s x zs cs' hs)] at hl
    exact getD_true (h.order s x zs cs' hs hl)
  · intro x y zs zs' hx hy hlx hly hne
    rw [getD_set_ne false (ne1 x zs hx)] at hlx
    rw [getD_set_ne false (ne1 y zs' hy)] at hly
    exact h.apart x y zs zs' hx hy hlx hly hne
  · intro s v' t' hs hl
    by_cases e : s = i
    · subst e
      rw [hk] at hs
      injection hs with hs
      obtain ⟨_, hs⟩ := Kind.sameInj hs
      subst hs
      exact getD_true hlj
    · rw [getD_set_ne false (Ne.symm e)] at hl
      exact getD_true (h.tgt s v' t' hs hl)
  · intro x v' cs' t' hx hl hs
    have hne : i ≠ x := ne1 x cs' (by rw [fresh_of hx]; rfl)
    rw [getD_set_ne false hne] at hl
    have hxj : x ≠ j := fun e => by
      subst e
      have := hs i u hk
      have h3 : (l.setIfInBounds i true).getD i false = true := (getD_same hun).2
      rw [h3] at this
      cases this
    have hap := h.apart x j cs' cs (by rw [fresh_of hx]; rfl) hfj hl hlj hxj
    rw [m5 _ hap]
    exact h.rows x v' cs' t' hx hl (fun s u' hs' => by
      have := hs s u' hs'
      cases hb2 : l.getD s false with
      | false => rfl
      | true => rw [getD_true hb2] at this; cases this)
  · intro x v' cs' E hx hl
    have hne : i ≠ x := ne1 x cs' (by rw [fresh_of hx]; rfl)
    rw [getD_set_ne false hne] at hl
    have hxj : x ≠ j := fun e => by subst e; rw [hj] at hx; cases hx
    have hap := h.apart x j cs' cs (by rw [fresh_of hx]; rfl) hfj hl hlj hxj
    rw [m5 _ hap]
    exact h.owns x v' cs' E hx hl
theorem Mem.congr {l : Array Bool} {γ γ' : Nat → Nat} {w : World} (h : Mem ks w₀ l γ w) (hL : LaidOk ks ks) (hs : ks.length ≤ 65536) (e : ∀ j, j < 65536 → γ' j = γ j) (e2 : ∀ j v cs E, ks[j]? = some (.ownX v cs E) → l.getD j false = true → γ' (j + 65536) = γ (j + 65536)) : Mem ks w₀ l γ' w := by
  have hlt : ∀ {i : Nat} {zs : List Value}, fresh ks i = some zs → γ' i = γ i := fun {i zs} hf => by
    unfold fresh at hf
    cases hk : ks[i]? with
    | none => rw [hk] at hf; cases hf
    | some k => exact e i (by have := (List.getElem?_eq_some_iff.1 hk).1; omega)
  refine ⟨h.below, ?_, ?_, ?_, h.order, ?_, h.tgt, fun i v cs t hj hl hs => by rw [hlt (i := i) (zs := cs) (by rw [fresh_of hj]; rfl)]; exact h.rows i v cs t hj hl hs, fun i v cs E hj hl => by rw [hlt (i := i) (zs := cs) (by rw [fresh_of hj]; rfl), e2 i v cs E hj hl]; exact h.owns i v cs E hj hl⟩
  · intro i zs hf hl
    rw [hlt hf]; exact h.made i zs hf hl
  · intro i zs hf hl hn
    rw [hlt hf]; exact h.raw i zs hf hl hn
  · intro s i zs cs hk hl
    obtain ⟨t, ht⟩ := hL.at hk
    rw [e i (by have := (List.getElem?_eq_some_iff.1 ht).1; omega)]
    exact h.full s i zs cs hk hl
  · intro i j zs zs' hi hj hli hlj hne
    rw [hlt hi, hlt hj]; exact h.apart i j zs zs' hi hj hli hlj hne
/-- One of the first operations. -/
theorem kind_step {full : Array Oper} {n p : Nat} (hO : Orderly ops ks n) (hn : n = a₀.tmps.size) (hL : LaidOk ks ks) {S : World → Prop} (hS : ∀ w, Below w₀.heap.size w₀ w → S w)
    (hfull : ∀ i, i < p → full[i]? = ops[i]?) (hgd : ∀ {i : Nat} {o : Oper} {g : Nat} {b : Bool}, ops[i]? = some o → o.guard = some (g, b) → g < p)
    (hops : AllOk P ops S (fun γ => fill γ 0 ops.toList ks a₀) ops.toList ks) {K : Act → World → Prop} {l : Array Bool} {γ : Nat → Nat} {a : Act} {w : World} (hA : Agree ops ks a₀ l γ a) (hM : Mem ks w₀ l γ w)
    {i : Nat} {o : Oper} (hip : i < p) (ho : ops[i]? = some o) (hun : l.getD i true = false) (hedge : ∀ e ∈ o.after, Region.binds .any e = true → l.getD e.on false = true)
    (hnext : ∀ γ' a' w', Agree ops ks a₀ (l.setIfInBounds i true) γ' a' → Mem ks w₀ (l.setIfInBounds i true) γ' w' → K a' w') : wpOp P full Q i K a w := by
  obtain ⟨k, hk⟩ := kind_at hO ho
  have hok := hops.at (by simpa using ho) hk
  obtain ⟨he, hw0⟩ := hA.sees hO ho hedge
  have hy : ∀ ts, Region.wanted o (yielded full ts) = Region.wanted o (yielded ops ts) := fun ts => by
    unfold Region.wanted
    cases hg : o.guard with
    | none => rfl
    | some gw =>
      obtain ⟨g, want⟩ := gw
      have : yielded full ts g = yielded ops ts g := by unfold yielded; rw [hfull g (hgd ho hg)]
      simp only [this]
  have hw : Region.wanted o (yielded full a.tmps) = Region.wanted o (yielded ops (fill γ 0 ops.toList ks a₀).tmps) := by rw [hy, hw0]
  have next : ∀ (γ' : Nat → Nat) (w' : World), (∀ j, j ≠ i → j ≠ i + 65536 → j ≠ i + 131072 → γ' j = γ j) → Mem ks w₀ (l.setIfInBounds i true) γ' w' → K (a.put o.dst (k.val γ' i)) w' := fun γ' w' hγ hM' =>
    hnext γ' _ w' (hA.step hO hn ho hk hγ (fun s v t hs hl => by
      have h1 := hM.tgt s v t hs hl
      have hsz : s < ops.size := by rw [← hO.size]; exact (List.getElem?_eq_some_iff.1 hs).1
      have h2 := (hO.same (Array.getElem?_eq_getElem hsz) hs).1.2
      have h3 := hO.small
      refine hγ t (fun e => ?_) (by omega) (by omega)
      rw [e, (getD_same hun).1] at h1
      cases h1)) hM'
  have he2 : ∀ j v cs E, ks[j]? = some (.ownX v cs E) → l.getD j false = true → ∀ x y : Nat, (fun j => if j = i + 65536 then x else if j = i + 131072 then y else γ j) (j + 65536) = γ (j + 65536) := by
    intro j v cs E hj hl x y
    have hji : j ≠ i := fun e => by rw [e, (getD_same hun).1] at hl; cases hl
    have hjs : j < 65536 := by
      have := (List.getElem?_eq_some_iff.1 hj).1
      have h1 := hO.size
      have h2 := hO.small
      omega
    show (if j + 65536 = i + 65536 then x else if j + 65536 = i + 131072 then y else γ (j + 65536)) = _
    rw [if_neg (by omega), if_neg (by omega)]
  refine wpOp_step (by rw [hfull i hip]; exact ho) (fun K' hK => ?_)
  rw [hw]
  cases k using Kind.each with
  | quiet v =>
    obtain ⟨h1, h2⟩ := hok γ
    rw [if_pos h1]
    unfold Oper.wp
    rw [he, h2 w (hS w hM.below)]
    exact hK _ _ (next γ w (fun _ _ _ _ => rfl) (hM.still (Below.refl _ _) hk rfl (fun _ _ _ h => by cases h)))
  | same v j =>
    obtain ⟨h1, h2⟩ := hok γ
    rw [if_pos h1]
    unfold Oper.wp
    rw [he, h2 w (hS w hM.below)]
    exact hK _ _ (next γ (mkw w (γ j)) (fun _ _ _ _ => rfl) (hM.mark hO hL ho hk hun (waits_spec (hO.same ho hk).1.1 hedge)))
  | gone =>
    rw [if_neg (by rw [hok γ]; decide)]
    exact hK _ _ (next γ w (fun _ _ _ _ => rfl) (hM.still (Below.refl _ _) hk rfl (fun _ _ _ h => by cases h)))
  | call v =>
    obtain ⟨h1, h2⟩ := hok γ
    rw [if_pos h1]
    obtain ⟨f, args, h3, h4⟩ := h2 w (hS w hM.below)
    unfold Oper.wp
    rw [he, h3]
    refine Calls.mono h4 ?_
    rintro e w' ⟨rfl, hb⟩
    exact hK _ _ (next γ w' (fun _ _ _ _ => rfl) (hM.still hb hk rfl (fun _ _ _ h => by cases h)))
  | over v j cs =>
    obtain ⟨h1, h2⟩ := hok γ
    rw [if_pos h1]
    obtain ⟨u, hu⟩ := hL.over hk
    have hw : l.getD j false = true := by
      rcases hO.over ho hk with h | ⟨s, u, hs, h⟩
      · exact waits_spec h hedge
      · exact hM.tgt s u j hs (waits_spec h hedge)
    have hf : fresh ks j = some cs := bornAt_cells hu
    have hm := hM.made j cs hf hw
    have hb := hM.raw j cs hf hw (fun s zs' cs' hs => by obtain ⟨t, ht⟩ := hL.at hs; rw [ht] at hu; cases hu)
    obtain ⟨f, args, h3, h4⟩ := h2 w₀ w (hS w₀ (Below.refl _ _)) hm.1 (hS w hM.below) hb hm.2
    unfold Oper.wp
    rw [he, h3]
    refine Calls.mono h4 ?_
    rintro e w' ⟨rfl, hb⟩
    exact hK _ _ (next γ w' (fun _ _ _ _ => rfl) (hM.still hb hk rfl (fun _ _ _ h => by cases h)))
  | made zs t =>
    obtain ⟨h1, h2⟩ := hok γ
    rw [if_pos h1]
    unfold Oper.wp
    rw [he, h2 w]
    have := next _ _ (fun j hj _ _ => if_neg hj) (hM.make hk rfl (fun _ _ _ h => by cases h) hun ((Below.refl _ _).alloc (Nat.le_refl _) _) (Nat.le_refl _) (by simp) (Blk.new w zs t) (by rw [hO.size]; exact hO.small))
    simp only [Kind.val, if_pos] at this
    exact hK _ _ this
  | row v zs t =>
    obtain ⟨h1, h2⟩ := hok γ
    rw [if_pos h1]
    unfold Oper.wp
    rw [he, h2 w]
    have := next _ _ (fun j hj _ _ => if_neg hj) (hM.make hk rfl (fun _ _ _ h => by cases h) hun ((Below.refl _ _).alloc (Nat.le_refl _) _) (Nat.le_refl _) (by simp) (Blk.new w zs t) (by rw [hO.size]; exact hO.small) (fun v' cs' t' h => by obtain ⟨_, e1, e2⟩ := Kind.rowInj h; subst e1 e2; exact heap_alloc_new _ _))
    simp only [Kind.val, if_pos] at this
    exact hK _ _ this
  | born v cs =>
    obtain ⟨h1, h2⟩ := hok γ
    rw [if_pos h1]
    obtain ⟨f, args, h3, h4⟩ := h2 w (hS w hM.below)
    unfold Oper.wp
    rw [he, h3]
    refine Calls.mono h4 ?_
    rintro e w' ⟨hb, g, rfl, hg1, hg2, hg3⟩
    have := next _ w' (fun j hj _ _ => if_neg hj) (hM.make hk rfl (fun _ _ _ h => by cases h) hun hb hg1 hg2 hg3 (by rw [hO.size]; exact hO.small))
    simp only [Kind.val, if_pos] at this
    exact hK _ _ this
  | bornX v cs =>
    obtain ⟨h1, h2⟩ := hok γ
    rw [if_pos h1]
    obtain ⟨f, args, h3, h4⟩ := h2 w (hS w hM.below)
    unfold Oper.wp
    rw [he, h3]
    refine Calls.mono h4 ?_
    rintro e w' ⟨hb, g, x, y, rfl, hg1, hg2, hg3⟩
    have hM1 : Mem ks w₀ l (fun j => if j = i + 65536 then x else if j = i + 131072 then y else γ j) w := hM.congr hL (by rw [hO.size]; exact hO.small) (fun j hj => by rw [if_neg (by omega), if_neg (by omega)]) (fun j v cs E hj hl => he2 j v cs E hj hl x y)
    have := next _ w' (fun j hj hj2 hj3 => by rw [if_neg hj, if_neg hj2, if_neg hj3]) (hM1.make hk rfl (fun _ _ _ h => by cases h) hun hb hg1 hg2 hg3 (by rw [hO.size]; exact hO.small))
    simp only [Kind.val, if_pos] at this
    rw [if_neg (by omega), if_neg (by omega), if_neg (by omega)] at this
    exact hK _ _ this
  | ownX v cs E =>
    obtain ⟨h1, h2⟩ := hok γ
    rw [if_pos h1]
    obtain ⟨f, args, h3, h4⟩ := h2 w (hS w hM.below)
    unfold Oper.wp
    rw [he, h3]
    refine Calls.mono h4 ?_
    rintro e w' ⟨hb, g, x, y, rfl, hg1, hg2, hg3, hg4⟩
    have hM1 : Mem ks w₀ l (fun j => if j = i + 65536 then x else if j = i + 131072 then y else γ j) w := hM.congr hL (by rw [hO.size]; exact hO.small) (fun j hj => by rw [if_neg (by omega), if_neg (by omega)]) (fun j v cs E hj hl => he2 j v cs E hj hl x y)
    have := next _ w' (fun j hj hj2 hj3 => by rw [if_neg hj, if_neg hj2, if_neg hj3]) (hM1.make hk rfl (fun _ _ _ h => by cases h) hun hb hg1 hg2 hg3 (by rw [hO.size]; exact hO.small) (by intro _ _ _ h; cases h) (fun v' cs' E' h => by obtain ⟨_, _, e3⟩ := Kind.ownInj h; subst e3; rw [if_pos rfl]; exact hg4))
    simp only [Kind.val, if_pos] at this
    rw [if_neg (by omega), if_neg (by omega), if_neg (by omega)] at this
    exact hK _ _ this
  | laid j zs cs =>
    obtain ⟨h1, h2, h3, h4⟩ := hok γ
    rw [if_pos h1]
    have hli : l.getD j false = true := waits_spec (hO.laid ho hk) hedge
    obtain ⟨hr, hM'⟩ := hM.lay hO hL ho hk h3 hun hli
    unfold Oper.wp
    rw [he, h4 w hr]
    exact hK _ _ (next γ _ (fun _ _ _ _ => rfl) hM')
/-- Who waits for whom, by others that wait. -/
def waitsQ (full : Array Oper) : Nat → Oper → Nat → Bool
  | 0, o, j => waits o j
  | f + 1, o, j => waits o j || o.after.any fun e => Region.binds .any e && (match full[e.on]? with | some o' => waitsQ full f o' j | none => false)
/-- What was waited for is listed with who waited. -/
def Down (full : Array Oper) (l : Array Bool) : Prop := ∀ {i : Nat} {o : Oper}, full[i]? = some o → l.getD i false = true → ∀ e ∈ o.after, Region.binds .any e = true → l.getD e.on false = true
theorem waitsQ_spec {full : Array Oper} {l : Array Bool} (hd : Down full l) : ∀ (f : Nat) {o : Oper} {j : Nat}, waitsQ full f o j = true → (∀ e ∈ o.after, Region.binds .any e = true → l.getD e.on false = true) → l.getD j false = true
  | 0, o, j, h, he => waits_spec h he
  | f + 1, o, j, h, he => by
    unfold waitsQ at h
    rw [Bool.or_eq_true] at h
    rcases h with h | h
    · exact waits_spec h he
    · rw [Array.any_eq_true'] at h
      obtain ⟨e, hm, h2⟩ := h
      rw [Bool.and_eq_true] at h2
      have hl := he e hm h2.1
      cases ho : full[e.on]? with
      | none => rw [ho] at h2; exact absurd h2.2 (by simp)
      | some o' =>
        rw [ho] at h2
        exact waitsQ_spec hd f h2.2 (hd ho hl)
/-- The rest, in its order. -/
theorem rest_any {full : Array Oper} (p : Nat) (hup : ∀ {i : Nat} {o : Oper}, full[i]? = some o → ∀ e ∈ o.after, Region.binds .any e = true → e.on < i)
    (hwt : ∀ {i : Nat} {o : Oper}, full[i]? = some o → p ≤ i → ∀ j, j < i → waitsQ full 6 o j = true) : ∀ (m fuel q : Nat) (l : Array Bool) (a : Act) (w : World), q + m = full.size → p ≤ q → l.size = full.size → m ≤ fuel →
      (∀ i, i < q → l.getD i false = true) → (∀ i, q ≤ i → i < full.size → l.getD i true = false) → wpOps P full Q (List.range' q m) a w → wpAny P .any full Q fuel l a w := by
  intro m
  induction m with
  | zero =>
    intro fuel q l a w hq hpq hsz hfu hl hu h
    have hr : Region.ready .any full l = [] := by
      refine List.eq_nil_iff_forall_not_mem.2 fun i hi => ?_
      obtain ⟨h1, o, ho, _⟩ := mem_ready.1 hi
      have h2 := hl i (by have := (Array.getElem?_eq_some_iff.1 ho).1; omega)
      rw [(getD_same h1).1] at h2
      cases h2
    have hQ : Q .normal a w := h
    cases fuel with
    | zero => exact ⟨hr, hQ⟩
    | succ f => exact ⟨fun _ => hQ, by rw [hr]; simp⟩
  | succ m ih =>
    intro fuel q l a w hq hpq hsz hfu hl hu h
    cases fuel with
    | zero => omega
    | succ f =>
      have hqs : q < full.size := by omega
      have hqr : q ∈ Region.ready .any full l := mem_ready.2 ⟨hu q (Nat.le_refl _) hqs, full[q], Array.getElem?_eq_getElem hqs, fun e he hb => hl _ (hup (Array.getElem?_eq_getElem hqs) e he hb)⟩
      refine ⟨fun hr => absurd hqr (by rw [hr]; simp), fun i hi => ?_⟩
      obtain ⟨hun, o, ho, hedge⟩ := mem_ready.1 hi
      have hilt : i < full.size := (Array.getElem?_eq_some_iff.1 ho).1
      have hiq : i = q := by
        rcases Nat.lt_trichotomy i q with h' | h' | h'
        · have h2 := hl i h'
          rw [(getD_same hun).1] at h2
          cases h2
        · exact h'
        · have hd : Down full l := fun {i' o'} ho' hl' e he hb => by
            have h3 := hup ho' e he hb
            rcases Nat.lt_or_ge i' q with h4 | h4
            · exact hl _ (by omega)
            · have h5 := (getD_same (hu i' h4 (Array.getElem?_eq_some_iff.1 ho').1)).1
              rw [h5] at hl'
              cases hl'
          have h2 := waitsQ_spec hd 6 (hwt ho (by omega) q h') hedge
          rw [(getD_same (hu q (Nat.le_refl _) hqs)).1] at h2
          cases h2
      subst hiq
      rw [List.range'_succ, wpOps_cons] at h
      refine wpOp_mono (fun a' w' h' => ?_) h
      refine ih f (i + 1) _ a' w' (by omega) (by omega) (by simp [hsz]) (by omega) (fun j hj => ?_) (fun j hj hj2 => ?_) h'
      · rcases Nat.lt_or_ge j i with h2 | h2
        · exact getD_true (hl j h2)
        · have : j = i := by omega
          subst this
          exact (getD_same hun).2
      · rw [getD_set_ne true (by omega)]
        exact hu j (by omega) hj2
theorem whole_of {p : Nat} {l : Array Bool} {γ : Nat → Nat} {a : Act} (hp : ops.size = p) (h : Agree ops ks a₀ l γ a) (hl : ∀ i, i < p → l.getD i false = true) : a = fill γ 0 ops.toList ks a₀ := h.whole (fun i hi => hl i (by omega))
theorem down_set {full : Array Oper} {l : Array Bool} (hd : Down full l) {i : Nat} {o : Oper} (ho : full[i]? = some o) (hedge : ∀ e ∈ o.after, Region.binds .any e = true → l.getD e.on false = true) : Down full (l.setIfInBounds i true) := by
  intro i' o' ho' hl' e he hb
  by_cases h : i = i'
  · subst h
    rw [ho] at ho'
    injection ho' with ho'
    subst ho'
    exact getD_true (hedge e he hb)
  · rw [getD_set_ne false h] at hl'
    exact getD_true (hd ho' hl' e he hb)
theorem first_any {full : Array Oper} {n p : Nat} (hO : Orderly ops ks n) (hn : n = a₀.tmps.size) (hL : LaidOk ks ks) {S : World → Prop} (hS : ∀ w, Below w₀.heap.size w₀ w → S w)
    (hp : ops.size = p) (hpf : p ≤ full.size) (hfull : ∀ i, i < p → full[i]? = ops[i]?) (hgd : ∀ {i : Nat} {o : Oper} {g : Nat} {b : Bool}, ops[i]? = some o → o.guard = some (g, b) → g < p)
    (hup : ∀ {i : Nat} {o : Oper}, full[i]? = some o → ∀ e ∈ o.after, Region.binds .any e = true → e.on < i)
    (hwt : ∀ {i : Nat} {o : Oper}, full[i]? = some o → p ≤ i → ∀ j, j < i → waitsQ full 6 o j = true)
    (hops : AllOk P ops S (fun γ => fill γ 0 ops.toList ks a₀) ops.toList ks)
    (hend : ∀ γ w l, Mem ks w₀ l γ w → (∀ i, i < p → l.getD i false = true) → wpOps P full Q (List.range' p (full.size - p)) (fill γ 0 ops.toList ks a₀) w) :
    ∀ (fuel : Nat) (l : Array Bool) (γ : Nat → Nat) (a : Act) (w : World), l.size = full.size → l.toList.count false ≤ fuel → full.size - p ≤ fuel → (∀ i, p ≤ i → i < full.size → l.getD i true = false) → Down full l → Agree ops ks a₀ l γ a → Mem ks w₀ l γ w → wpAny P .any full Q fuel l a w := by
  intro fuel
  induction fuel with
  | zero =>
    intro l γ a w hsz hc hpl hu hdn hA hM
    have hall : ∀ i, i < p → l.getD i false = true := fun i hi => by
      cases hb : l.getD i true with
      | false => have := count_set hb; omega
      | true =>
        have hi' : i < l.size := by omega
        simpa [hi'] using hb
    rw [whole_of hp hA hall]
    exact rest_any p hup hwt (full.size - p) 0 p l _ w (by omega) (Nat.le_refl _) hsz (by omega) hall hu (hend γ w l hM hall)
  | succ fuel ih =>
    intro l γ a w hsz hc hpl hu hdn hA hM
    by_cases hall : ∀ i, i < p → l.getD i false = true
    · rw [whole_of hp hA hall]
      exact rest_any p hup hwt (full.size - p) (fuel + 1) p l _ w (by omega) (Nat.le_refl _) hsz (by omega) hall hu (hend γ w l hM hall)
    · have hex : ∃ x, x < p ∧ l.getD x false = false := by
        apply Classical.byContradiction
        intro hno
        apply hall
        intro i hi
        cases hb : l.getD i false with
        | true => rfl
        | false => exact absurd ⟨i, hi, hb⟩ hno
      obtain ⟨x, hx, hxf⟩ := hex
      have hlow : ∀ i ∈ Region.ready .any full l, i < p := fun i hi => by
        obtain ⟨hun, o, ho, hedge⟩ := mem_ready.1 hi
        rcases Nat.lt_or_ge i p with h' | h'
        · exact h'
        · have := waitsQ_spec hdn 6 (hwt ho h' x (by omega)) hedge
          rw [hxf] at this
          cases this
      have hcnt : full.size - p + 1 ≤ l.toList.count false := by
        have h1 : l.getD x true = false := by
          have hx' : x < l.size := by omega
          simpa [hx'] using hxf
        have h2 := count_set h1
        have h3 : ∀ (m : Nat) (l : Array Bool), l.size = full.size → m ≤ full.size - p → (∀ i, full.size - m ≤ i → i < full.size → l.getD i true = false) → m ≤ l.toList.count false := by
          intro m
          induction m with
          | zero => intro l _ _ _; omega
          | succ m ih =>
            intro l hs hm hl
            have h4 := count_set (hl (full.size - (m + 1)) (Nat.le_refl _) (by omega))
            have h5 := ih (l.setIfInBounds (full.size - (m + 1)) true) (by simp [hs]) (by omega) (fun i hi1 hi2 => by rw [getD_set_ne true (by omega)]; exact hl i (by omega) hi2)
            omega
        have h6 := h3 (full.size - p) (l.setIfInBounds x true) (by simp [hsz]) (Nat.le_refl _) (fun i hi1 hi2 => by rw [getD_set_ne true (by omega)]; exact hu i (by omega) hi2)
        omega
      refine ⟨fun hr => ?_, fun i hi => ?_⟩
      · exfalso
        have : ∀ i, i < full.size → l.getD i false = true := by
          intro i
          induction i using Nat.strongRecOn with
          | _ i ih2 =>
            intro hi
            have hi' : i < l.size := by omega
            cases hl : l.getD i true with
            | true => simpa [hi'] using hl
            | false =>
              exfalso
              have : i ∈ Region.ready .any full l := mem_ready.2 ⟨hl, full[i], Array.getElem?_eq_getElem hi, fun e he hb => by
                have h1 := hup (Array.getElem?_eq_getElem hi) e he hb
                exact ih2 e.on h1 (by omega)⟩
              rw [hr] at this
              cases this
        rw [this x (by omega)] at hxf
        cases hxf
      · have hip := hlow i hi
        obtain ⟨hun, o, ho, hedge⟩ := mem_ready.1 hi
        have ho' : ops[i]? = some o := by rw [← hfull i hip]; exact ho
        have hc' := count_set hun
        refine kind_step hO hn hL hS hfull hgd hops hA hM hip ho' hun hedge (fun γ' a' w' hA' hM' => ?_)
        exact ih _ γ' a' w' (by simp [hsz]) (by omega) (by omega) (fun j hj hj2 => by rw [getD_set_ne true (by omega)]; exact hu j hj hj2) (down_set hdn ho hedge) hA' hM'
/-- What is to be looked up of the whole region: nobody waits for a later one; who comes behind the first p waits for all ahead. -/
def chained (full : Array Oper) (p : Nat) : Bool :=
  eachOp full (fun i o => o.after.all fun e => !Region.binds .any e || decide (e.on < i)) &&
  eachOp full (fun i o => decide (i < p) || (List.range i).all fun j => waitsQ full 6 o j)
def guarded (ops : Array Oper) (p : Nat) : Bool := eachOp ops (fun _ o => match o.guard with | some (g, _) => decide (g < p) | none => true)
theorem guarded_spec {ops : Array Oper} {p : Nat} (h : guarded ops p = true) {i : Nat} {o : Oper} {g : Nat} {b : Bool} (ho : ops[i]? = some o) (hg : o.guard = some (g, b)) : g < p := by
  have := eachOp_spec h ho
  simpa [hg] using this
theorem first_full {full : Array Oper} {p i : Nat} (h : i < p) : full[i]? = (full.extract 0 p)[i]? := by
  by_cases hi : i < full.size
  · rw [Array.getElem?_eq_getElem hi, Array.getElem?_eq_getElem (by simp; omega)]
    simp
  · rw [Array.getElem?_eq_none (by omega), Array.getElem?_eq_none (by simp; omega)]
theorem none_listed (n i : Nat) : (Array.replicate n false).getD i false = false := by
  rcases Nat.lt_or_ge i n with h | h <;> simp [h]
theorem none_listed' {n i : Nat} (h : i < n) : (Array.replicate n false).getD i true = false := by simp [h]
theorem start_agree {ops : Array Oper} {ks : List Kind} {a : Act} (n : Nat) (γ : Nat → Nat) : Agree ops ks a (Array.replicate n false) γ a := by
  refine ⟨rfl, rfl, fun d hd => ?_⟩
  have hno : ∀ o' ∈ ops.toList, o'.dst ≠ some d := fun o' ho' hd' => by
    obtain ⟨j, hj, ej⟩ := List.getElem_of_mem ho'
    have := hd j o' (by rw [← Array.getElem?_toList, List.getElem?_eq_getElem hj, ej]) hd'
    rw [none_listed] at this
    cases this
  rw [fill_other _ d 0 _ _ _ hno]
theorem start_mem {ks : List Kind} {w w' : World} (n : Nat) (γ : Nat → Nat) (h : Below w.heap.size w w') : Mem ks w (Array.replicate n false) γ w' := by
  refine ⟨h, ?_, ?_, ?_, ?_, ?_, ?_, ?_, ?_⟩
  · intro i zs _ h; rw [none_listed] at h; cases h
  · intro i zs _ h; rw [none_listed] at h; cases h
  · intro s i zs cs _ h; rw [none_listed] at h; cases h
  · intro s i zs cs _ h; rw [none_listed] at h; cases h
  · intro i j zs zs' _ _ h; rw [none_listed] at h; cases h
  · intro s v t _ h; rw [none_listed] at h; cases h
  · intro i v cs t _ h; rw [none_listed] at h; cases h
  · intro i v cs t _ h; rw [none_listed] at h; cases h
/-- **The law of a region that draws its order**: its first p operations in no order, the rest in its order. -/
theorem region_any {full : Array Oper} {id : Nat} {a : Act} {w : World} (hm : P.follows .mixedOrders = true) (p : Nat) (ks : List Kind) (S : World → Prop) (F : (Nat → Nat) → Act)
    (hF : ∀ γ, fill γ 0 (full.extract 0 p).toList ks a = F γ) (hor : (orderly (full.extract 0 p) ks a.tmps.size && guarded (full.extract 0 p) p && chained full p && decide (p ≤ full.size)) = true) (hL : LaidOk ks ks) (hS : ∀ w', Below w.heap.size w w' → S w')
    (hops : AllOk P (full.extract 0 p) S F (full.extract 0 p).toList ks)
    (hend : ∀ γ w' l, Mem ks w l γ w' → (∀ i, i < p → l.getD i false = true) → wpOps P full Q (List.range' p (full.size - p)) (F γ) w') :
    (Code.region id full true).wp P Q a w := by
  obtain rfl : (fun γ => fill γ 0 (full.extract 0 p).toList ks a) = F := funext hF
  simp only [Bool.and_eq_true, decide_eq_true_eq] at hor
  obtain ⟨⟨⟨h1, h2⟩, h3⟩, h4⟩ := hor
  unfold chained at h3
  simp only [Bool.and_eq_true] at h3
  obtain ⟨h5, h6⟩ := h3
  refine wp_region_any hm (first_any (Orderly.of h1) rfl hL hS (by simp; omega) h4 (fun i hi => first_full hi) (fun ho hg => guarded_spec h2 ho hg) (fun ho e he hb => ?_) (fun ho hi j hj => ?_) hops hend full.size _ (fun _ => 0) a w.drew (by simp) (by simp) (by omega) (fun i _ hi => none_listed' hi) (fun _ hl _ _ _ => by rw [none_listed] at hl; cases hl) (start_agree _ _) (start_mem _ _ (Below.refl _ _).drew))
  · have := Array.all_eq_true_iff_forall_mem.1 (eachOp_spec h5 ho) e he
    simpa [hb] using this
  · have := eachOp_spec h6 ho
    simp only [Bool.or_eq_true, decide_eq_true_eq] at this
    rcases this with h7 | h7
    · omega
    · exact List.all_eq_true.1 h7 j (List.mem_range.2 hj)
end
/-! The rest, one by one. -/
section
variable {P : Program} {ops : Array Oper} {Q : Exit → Act → World → Prop} {a : Act} {w : World}
theorem rest_nil (h : Q .normal a w) : wpOps P ops Q [] a w := h
theorem rest_value {i : Nat} {r : List Nat} {o : Oper} {v : Value} {w' : World} (ho : ops[i]? = some o) (hw : Region.wanted o (yielded ops a.tmps) = true) (hx : (execOp a.eval o).run P w = .ok (.value v) w') (h : wpOps P ops Q r (a.put o.dst v) w') : wpOps P ops Q (i :: r) a w := by
  rw [wpOps_cons]
  refine wpOp_step ho (fun K' hK => ?_)
  rw [if_pos hw]
  unfold Oper.wp
  rw [hx]
  exact hK _ _ h
theorem rest_gone {i : Nat} {r : List Nat} {o : Oper} (ho : ops[i]? = some o) (hw : Region.wanted o (yielded ops a.tmps) = false) (h : wpOps P ops Q r (a.put o.dst undef) w) : wpOps P ops Q (i :: r) a w := by
  rw [wpOps_cons]
  refine wpOp_step ho (fun K' hK => ?_)
  rw [if_neg (by rw [hw]; decide)]
  exact hK _ _ h
theorem rest_skip {i : Nat} {r : List Nat} {o : Oper} {w' : World} (ho : ops[i]? = some o) (hw : Region.wanted o (yielded ops a.tmps) = true) (hx : (execOp a.eval o).run P w = .ok .skip w') (h : wpOps P ops Q r (a.put o.dst undef) w') : wpOps P ops Q (i :: r) a w := by
  rw [wpOps_cons]
  refine wpOp_step ho (fun K' hK => ?_)
  rw [if_pos hw]
  unfold Oper.wp
  rw [hx]
  exact hK _ _ h
theorem rest_call {i : Nat} {r : List Nat} {o : Oper} {f : FuncId} {args : Array Value} {R : Value → World → Prop} (ho : ops[i]? = some o) (hw : Region.wanted o (yielded ops a.tmps) = true) (hx : (execOp a.eval o).run P w = .ok (.enter f args) w)
    (hc : Calls P f args w (fun e w' => ∃ v, e = .returned v ∧ R v w')) (h : ∀ v w', R v w' → wpOps P ops Q r (a.put o.dst v) w') : wpOps P ops Q (i :: r) a w := by
  rw [wpOps_cons]
  refine wpOp_step ho (fun K' hK => ?_)
  rw [if_pos hw]
  unfold Oper.wp
  rw [hx]
  refine Calls.mono hc ?_
  rintro e w' ⟨v, rfl, hr⟩
  exact hK _ _ (h v w' hr)
end
end Rg
end Go.Proofs.Ytidicdlfjdlpnaa
end
section
namespace Go.Proofs.Ytidicdlfjdlpnaa
open Go.RowKit
namespace Rg
/-- The blocks of the list are there, apart from each other, and hold these cells. -/
structure Mm (w : World) (l : List (Nat × List Value)) : Prop where
  blk : ∀ p ∈ l, p.1 < w.heap.size ∧ Blk w p.1 p.2
  nd : l.Pairwise (fun a b => a.1 ≠ b.1)
theorem Mm.nil (w : World) : Mm w [] := ⟨fun p h => absurd h (by simp), List.Pairwise.nil⟩
theorem Mm.below {w w1 : World} {l : List (Nat × List Value)} (h : Mm w l) (hb : Below w.heap.size w w1) : Mm w1 l :=
  ⟨fun p hp => ⟨Nat.lt_of_lt_of_le (h.blk p hp).1 hb.size, (h.blk p hp).2.below hb (h.blk p hp).1⟩, h.nd⟩
theorem Mm.drew {w : World} {l : List (Nat × List Value)} (h : Mm w l) : Mm w.drew l := h.below (Below.refl _ _).drew
theorem Mm.cons {w : World} {l : List (Nat × List Value)} (h : Mm w l) {g : Nat} {cs : List Value} (hb : Blk w g cs) (hg : g < w.heap.size) (hn : ∀ p ∈ l, p.1 ≠ g) : Mm w ((g, cs) :: l) :=
  ⟨fun p hp => by
    rcases List.mem_cons.1 hp with e | hp
    · subst e; exact ⟨hg, hb⟩
    · exact h.blk p hp, List.Pairwise.cons (fun p hp => (hn p hp).symm) h.nd⟩
theorem Mm.alloc {w : World} {l : List (Nat × List Value)} (h : Mm w l) (cs : List Value) (t : TypeId) {g : Nat} (hg : g = w.heap.size) : Mm (w.alloc (.cells cs.toArray t)) ((g, cs) :: l) := by
  subst hg
  exact (h.below ((Below.refl _ _).alloc (Nat.le_refl _) _)).cons (Blk.new w cs t) (by simp) (fun p hp => by have := (h.blk p hp).1; omega)
theorem Mm.sub {w : World} {l l' : List (Nat × List Value)} (h : Mm w l) (hs : l'.Sublist l) : Mm w l' := ⟨fun p hp => h.blk p (hs.subset hp), h.nd.sublist hs⟩
theorem Mm.cell {w : World} {l : List (Nat × List Value)} (h : Mm w l) {g : Nat} {cs : List Value} (hm : (g, cs) ∈ l) {k : Nat} {v : Value} (hk : cs[k]? = some v) : w.cell? ⟨g, k, none⟩ = some v := ((h.blk _ hm).2 k v hk).1
theorem Mm.free {w : World} {l : List (Nat × List Value)} (h : Mm w l) {g : Nat} {cs : List Value} (hm : (g, cs) ∈ l) {k : Nat} {v : Value} (hk : cs[k]? = some v) : w.frozen? ⟨g, k, none⟩ = false := ((h.blk _ hm).2 k v hk).2
theorem Mm.lt {w : World} {l : List (Nat × List Value)} (h : Mm w l) {g : Nat} {cs : List Value} (hm : (g, cs) ∈ l) : g < w.heap.size := (h.blk _ hm).1
/-! What a region leaves. -/
def laidOn (i : Nat) : List Kind → Option (List Value)
  | [] => none
  | (Sum.inr (Sum.inr (Sum.inr (Sum.inr (Sum.inl (j, _, cs)))))) :: r => if j = i then some cs else laidOn i r
  | _ :: r => laidOn i r
def fin (ks : List Kind) (i : Nat) : List Value := match laidOn i ks with | some cs => cs | none => (fresh ks i).getD []
theorem laidOn_some {i : Nat} {cs : List Value} : ∀ {ks : List Kind}, laidOn i ks = some cs → ∃ (s : Nat) (zs : List Value), ks[s]? = some (.laid i zs cs)
  | [], h => by cases h
  | k :: r, h => by
    cases k using Kind.each with
    | laid j zs cs' =>
      unfold laidOn at h
      split at h
      · rename_i e
        injection h with h
        subst h e
        exact ⟨0, zs, rfl⟩
      · obtain ⟨s, z, hs⟩ := laidOn_some h
        exact ⟨s + 1, z, hs⟩
    | _ =>
      obtain ⟨s, z, hs⟩ := laidOn_some (ks := r) h
      exact ⟨s + 1, z, hs⟩
theorem laidOn_none {i : Nat} : ∀ {ks : List Kind}, laidOn i ks = none → ∀ (s : Nat) (zs cs : List Value), ks[s]? ≠ some (.laid i zs cs)
  | [], _ => fun _ _ _ h => by simp at h
  | k :: r, h => by
    intro s zs cs hs
    have hr : laidOn i r = none := by
      cases k using Kind.each with
      | laid j z c => unfold laidOn at h; split at h <;> first | cases h | exact h
      | _ => exact h
    cases s with
    | zero =>
      simp at hs
      subst hs
      unfold laidOn at h
      rw [if_pos rfl] at h
      cases h
    | succ s => exact laidOn_none hr s zs cs (by simpa using hs)
theorem Mem.fin {ks : List Kind} {w₀ w : World} {l : Array Bool} {γ : Nat → Nat} (h : Mem ks w₀ l γ w) {p : Nat} (hp : ks.length ≤ p) (hl : ∀ i, i < p → l.getD i false = true) {i : Nat} (hi : (fresh ks i).isSome = true) :
    Blk w (γ i) (fin ks i) ∧ w₀.heap.size ≤ γ i ∧ γ i < w.heap.size := by
  obtain ⟨zs, hz⟩ := Option.isSome_iff_exists.1 hi
  have hlt : ∀ (s : Nat) (k : Kind), ks[s]? = some k → l.getD s false = true := fun s k hs => hl s (by have := (List.getElem?_eq_some_iff.1 hs).1; omega)
  have hil : l.getD i false = true := by
    unfold fresh at hz
    cases hk : ks[i]? with
    | none => rw [hk] at hz; cases hz
    | some k => exact hlt i k hk
  refine ⟨?_, h.made i zs hz hil⟩
  unfold Rg.fin
  cases hL : laidOn i ks with
  | some cs =>
    obtain ⟨s, z, hs⟩ := laidOn_some hL
    exact (h.full s i z cs hs (hlt s _ hs)).1
  | none =>
    rw [hz]
    exact h.raw i zs hz hil (fun s z c hs => absurd hs (laidOn_none hL s z c))
/-- The blocks that a region made, beside those that were there. -/
theorem Mm.grow {ks : List Kind} {w₀ w : World} {l : Array Bool} {γ : Nat → Nat} {L : List (Nat × List Value)} (hm : Mm w₀ L) (h : Mem ks w₀ l γ w) {p : Nat} (hp : ks.length ≤ p) (hl : ∀ i, i < p → l.getD i false = true) :
    ∀ (is : List Nat), (is.all fun i => (fresh ks i).isSome) = true → is.Pairwise (· ≠ ·) → Mm w (is.map (fun i => (γ i, fin ks i)) ++ L)
  | [], _, _ => hm.below h.below
  | i :: is, ha, hn => by
    simp only [List.all_cons, Bool.and_eq_true] at ha
    have ih := Mm.grow hm h hp hl is ha.2 (List.Pairwise.of_cons hn)
    obtain ⟨h1, h2, h3⟩ := h.fin hp hl ha.1
    refine ih.cons h1 h3 (fun q hq => ?_)
    rcases List.mem_append.1 hq with hq | hq
    · obtain ⟨j, hj, e⟩ := List.mem_map.1 hq
      subst e
      have hjs := List.all_eq_true.1 ha.2 j hj
      obtain ⟨zi, hzi⟩ := Option.isSome_iff_exists.1 ha.1
      obtain ⟨zj, hzj⟩ := Option.isSome_iff_exists.1 hjs
      have hlist : ∀ {x : Nat} {z : List Value}, fresh ks x = some z → l.getD x false = true := fun {x z} hx => by
        unfold fresh at hx
        cases hk : ks[x]? with
        | none => rw [hk] at hx; cases hx
        | some k => exact hl x (by have := (List.getElem?_eq_some_iff.1 hk).1; omega)
      exact h.apart j i zj zi hzj hzi (hlist hzj) (hlist hzi) (fun e => (List.rel_of_pairwise_cons hn hj) e.symm)
    · have := (hm.blk q hq).1
      omega
/-- A store into a block of the list. -/
def patch (cs : List Value) (off : Nat) (vs : List Value) : List Value := cs.take off ++ vs ++ cs.drop (off + vs.length)
theorem patch_get (cs : List Value) (off : Nat) (vs : List Value) (h : off + vs.length ≤ cs.length) (k : Nat) : (patch cs off vs)[k]? = if off ≤ k ∧ k < off + vs.length then vs[k - off]? else cs[k]? := by
  unfold patch
  by_cases h1 : k < off
  · rw [if_neg (by omega), List.append_assoc, List.getElem?_append_left (by simp; omega), List.getElem?_take, if_pos h1]
  · by_cases h2 : k < off + vs.length
    · rw [if_pos ⟨by omega, h2⟩, List.append_assoc, List.getElem?_append_right (by simp; omega), List.getElem?_append_left (by simp; omega)]
      congr 1
      simp; omega
    · rw [if_neg (by omega), List.getElem?_append_right (by simp; omega), List.getElem?_drop]
      congr 1
      simp; omega
theorem Blk.patch {w : World} {g : Nat} {cs : List Value} (h : Blk w g cs) (off : Nat) (vs : List Value) (hl : off + vs.length ≤ cs.length) : Blk (w.setCells g off vs) g (patch cs off vs) := fun j v hv => by
  rw [patch_get _ _ _ hl] at hv
  split at hv
  · rename_i hj
    have hz : cs[j]? = some (cs[j]'(by omega)) := List.getElem?_eq_getElem _
    refine ⟨?_, by rw [World.frozen?_setCells]; exact (h j _ hz).2⟩
    have := World.cell?_setCells_in g vs off w (fun i hi => by
      have := (h (off + i) _ (List.getElem?_eq_getElem (show off + i < cs.length by omega))).1
      rw [this]; rfl) (j - off) (by omega)
    rw [show off + (j - off) = j by omega] at this
    rw [this]
    obtain ⟨h1, h2⟩ := List.getElem?_eq_some_iff.1 hv
    rw [← h2]
  · rename_i hj
    exact ⟨by rw [World.cell?_setCells_out g vs off w _ (fun _ => by simp; omega)]; exact (h j v hv).1, by rw [World.frozen?_setCells]; exact (h j v hv).2⟩
theorem Blk.apart {w : World} {g g' off : Nat} {cs vs : List Value} (h : Blk w g cs) (hg : g ≠ g') : Blk (w.setCells g' off vs) g cs := fun j v hv =>
  ⟨by rw [World.cell?_setCells_out g' vs off w _ (fun e => absurd e hg)]; exact (h j v hv).1, by rw [World.frozen?_setCells]; exact (h j v hv).2⟩
theorem Mm.put {w : World} {l : List (Nat × List Value)} (h : Mm w l) (k : Nat) {g off : Nat} {cs vs : List Value} (hk : l[k]? = some (g, cs)) (hl : off + vs.length ≤ cs.length) : Mm (w.setCells g off vs) (l.set k (g, patch cs off vs)) := by
  have hkl : k < l.length := (List.getElem?_eq_some_iff.1 hk).1
  have hke : l[k] = (g, cs) := (List.getElem?_eq_some_iff.1 hk).2
  have hpw := List.pairwise_iff_getElem.1 h.nd
  refine ⟨fun p hp => ?_, ?_⟩
  · rw [size_setCells]
    obtain ⟨j, hj, e⟩ := List.getElem_of_mem hp
    rw [List.getElem_set] at e
    have hj' : j < l.length := by simpa using hj
    split at e
    · subst e
      have := h.blk _ (List.mem_of_getElem? hk)
      exact ⟨this.1, Blk.patch this.2 off vs hl⟩
    · rename_i hne
      subst e
      have := h.blk _ (List.getElem_mem hj')
      refine ⟨this.1, Blk.apart this.2 ?_⟩
      rcases Nat.lt_or_ge j k with h' | h'
      · have := hpw j k hj' hkl h'
        rw [hke] at this
        exact this
      · have := hpw k j hkl hj' (by omega)
        rw [hke] at this
        exact this.symm
  · refine List.pairwise_iff_getElem.2 fun i j hi hj hij => ?_
    have hi' : i < l.length := by simpa using hi
    have hj' : j < l.length := by simpa using hj
    have := hpw i j hi' hj' hij
    rw [List.getElem_set, List.getElem_set]
    split
    · rename_i e1
      subst e1
      rw [if_neg (by omega)]
      rw [hke] at this
      exact this
    · split
      · rename_i e2
        subst e2
        rw [hke] at this
        exact this
      · exact this
end Rg
end Go.Proofs.Ytidicdlfjdlpnaa
end
section
namespace Go.Proofs.Ytidicdlfjdlpnaa
open Go.RowKit
namespace Rg
theorem exec_call {P : Program} {ρ : Operand → Value} {o : Oper} {f : FuncId} {xs : Array Operand} {ts : Array TypeId} {args : Array Value} {w : World} (ho : o.op = .call { callee := .value (.func f), args := xs, argTypes := ts }) (hc : ∀ args w, (callFunc f args).run P w = .ok (.enter f args) w) (hf : ρ (.func f) = .func (.func f) #[] #[]) (hx : xs.map ρ = args) :
    (execOp ρ o).run P w = .ok (.enter f args) w := by
  subst hx
  simp only [execOp, ho, resolve, hf]
  simp [go_sem, Deferred.ofValue, invoke, hc]
abbrev PT (g off : Nat) : Value := .pointer (some ⟨g, off, none⟩)
theorem Mm.one {w : World} {l : List (Nat × List Value)} (h : Mm w l) (k : Nat) {p : Nat × List Value} (hk : l[k]? = some p) : Mm w [p] :=
  ⟨fun q hq => by rw [List.mem_singleton.1 hq]; exact h.blk p (List.mem_of_getElem? hk), List.pairwise_singleton _ _⟩
theorem Mm.get {w : World} {l : List (Nat × List Value)} (h : Mm w l) (k : Nat) {g : Nat} {cs : List Value} (hk : l[k]? = some (g, cs)) (j : Nat) {v : Value} (hj : cs[j]? = some v) : w.cell? ⟨g, j, none⟩ = some v := h.cell (List.mem_of_getElem? hk) hj
/-! The laws of regions, as a walk uses them. -/
section
variable {P : Program} {Q : Exit → Act → World → Prop} {full : Array Oper} {a : Act} {w : World}
theorem take_arr (full : Array Oper) (p : Nat) : full.extract 0 p = (full.toList.take p).toArray := by
  apply Array.toList_inj.1
  simp [List.extract_eq_take_drop]
theorem walk_any {id : Nat} (hm : P.follows .mixedOrders = true) (p : Nat) (ks : List Kind) (S : World → Prop) (pre : List Oper) (F : (Nat → Nat) → Act) (hpre : full.toList.take p = pre)
    (hF : ∀ γ, fill γ 0 pre ks a = F γ) (hor : (orderly pre.toArray ks a.tmps.size && guarded pre.toArray p && chained full p && decide (p ≤ full.size)) = true) (hL : LaidOk ks ks) (hS : ∀ w', Below w.heap.size w w' → S w')
    (hops : AllOk P pre.toArray S F pre ks)
    (hend : ∀ γ w' l, Mem ks w l γ w' → (∀ i, i < p → l.getD i false = true) → wpOps P full Q (List.range' p (full.size - p)) (F γ) w') :
    (Code.region id full true).wp P Q a w := by
  subst hpre
  rw [← take_arr] at hor hops
  refine region_any hm p ks S F (fun γ => ?_) hor hL hS ?_ hend
  · rw [take_arr]; exact hF γ
  · have e : (full.extract 0 p).toList = full.toList.take p := by rw [take_arr]
    rw [e]; exact hops
theorem AllOk.cons {ops : Array Oper} {S : World → Prop} {F : (Nat → Nat) → Act} {o : Oper} {os : List Oper} {k : Kind} {ks : List Kind} (h : KindOk P ops S F o k) (hs : AllOk P ops S F os ks) : AllOk P ops S F (o :: os) (k :: ks) := ⟨h, hs⟩
theorem rest_at {p m : Nat} {l : List Nat} (h : List.range' p m = l) (hw : wpOps P full Q l a w) : wpOps P full Q (List.range' p m) a w := by rw [h]; exact hw
theorem then_normal {K : Act → World → Prop} (h : K a w) : Exit.then K Q .normal a w := h
theorem then_ret {K : Act → World → Prop} (h : Q .ret a w) : Exit.then K Q .ret a w := h
theorem then_exit {K : Act → World → Prop} {id : Nat} (h : Q (.exit id) a w) : Exit.then K Q (.exit id) a w := h
theorem block_ret {id : Nat} (h : Q .ret a w) : Exit.inBlock id Q .ret a w := h
theorem rest_set {i d : Nat} {r : List Nat} {o : Oper} {v : Value} {w' : World} (ho : full[i]? = some o) (hd : o.dst = some d) (hw : Region.wanted o (yielded full a.tmps) = true) (hx : (execOp a.eval o).run P w = .ok (.value v) w') (h : wpOps P full Q r (a.put (some d) v) w') : wpOps P full Q (i :: r) a w :=
  rest_value ho hw hx (by rw [hd]; exact h)
theorem rest_store {i : Nat} {r : List Nat} {o : Oper} {w' : World} (ho : full[i]? = some o) (hd : o.dst = none) (hw : Region.wanted o (yielded full a.tmps) = true) (hx : (execOp a.eval o).run P w = .ok .skip w') (h : wpOps P full Q r a w') : wpOps P full Q (i :: r) a w :=
  rest_skip ho hw hx (by rw [hd]; exact h)
theorem rest_enter {i d : Nat} {r : List Nat} {o : Oper} {f : FuncId} {args : Array Value} {R : Value → World → Prop} (ho : full[i]? = some o) (hd : o.dst = some d) (hw : Region.wanted o (yielded full a.tmps) = true) (hx : (execOp a.eval o).run P w = .ok (.enter f args) w)
    (hc : Calls P f args w (fun e w' => ∃ v, e = .returned v ∧ R v w')) (h : ∀ v w', R v w' → wpOps P full Q r (a.put (some d) v) w') : wpOps P full Q (i :: r) a w :=
  rest_call ho hw hx hc (fun v w' hr => by rw [hd]; exact h v w' hr)
theorem block_exit {id : Nat} (h : Q .normal a w) : Exit.inBlock id Q (.exit id) a w := by simp only [Exit.inBlock, if_true]; exact h
theorem block_normal {id : Nat} (h : Q .normal a w) : Exit.inBlock id Q .normal a w := h
/-- A loop, by what is known at each round's beginning. -/
theorem loop_ghost {α : Type} {c : Code} (I : α → Act → World → Prop) (μ : α → Nat) (x₀ : α) (h₀ : I x₀ a w)
    (round : ∀ x a w, I x a w → c.wp P (Exit.then (fun a' w' => ∃ x', I x' a' w' ∧ μ x' < μ x) Q) a w) : (Code.loop c).wp P Q a w := by
  have least : ∀ (n : Nat) (a : Act) (w : World) (x : α), μ x = n → I x a w → ∃ y, I y a w ∧ ∀ z, I z a w → μ y ≤ μ z := by
    intro n
    induction n using Nat.strongRecOn with
    | _ n ih =>
      intro a w x hn hx
      by_cases h : ∃ z, I z a w ∧ μ z < μ x
      · obtain ⟨z, hz, hlt⟩ := h
        exact ih (μ z) (by omega) a w z rfl hz
      · refine ⟨x, hx, fun z hz => ?_⟩
        rcases Nat.lt_or_ge (μ z) (μ x) with h' | h'
        · exact absurd ⟨z, hz, h'⟩ h
        · exact h'
  have pick : ∀ (a : Act) (w : World), ∃ m : Nat, ∀ x, I x a w → (∃ y, I y a w ∧ μ y = m) ∧ m ≤ μ x := by
    intro a w
    by_cases h : ∃ x, I x a w
    · obtain ⟨x, hx⟩ := h
      obtain ⟨y, hy, hmin⟩ := least _ a w x rfl hx
      exact ⟨μ y, fun z hz => ⟨⟨y, hy, rfl⟩, hmin z hz⟩⟩
    · exact ⟨0, fun x hx => absurd ⟨x, hx⟩ h⟩
  refine wp_loop (fun a w => ∃ x, I x a w) (fun a w => Classical.choose (pick a w)) ⟨x₀, h₀⟩ ?_
  rintro a w ⟨x, hx⟩
  obtain ⟨⟨y, hy, hm⟩, hle⟩ := Classical.choose_spec (pick a w) x hx
  refine Code.wp_mono (fun e a' w' h => ?_) (round y a w hy)
  cases e with
  | normal =>
    obtain ⟨x', hx', hlt⟩ := h
    refine ⟨⟨x', hx'⟩, ?_⟩
    have := (Classical.choose_spec (pick a' w') x' hx').2
    show Classical.choose (pick a' w') < Classical.choose (pick a w)
    omega
  | _ => exact h
end
/-! Shorter words for what stands behind each region. -/
theorem keepB {w₀ w w' : World} {L : List (Nat × List Value)} (H : Hid (Mm w L ∧ Below w₀.heap.size w₀ w)) (hb : Below w.heap.size w w') : Hid (Mm w' L ∧ Below w₀.heap.size w₀ w') :=
  ⟨H.out.1.below hb, H.out.2.trans (hb.mono H.out.2.size)⟩
theorem growB {ks : List Kind} {w₀ w w' : World} {l : Array Bool} {γ : Nat → Nat} {L : List (Nat × List Value)} (H : Hid (Mm w L ∧ Below w₀.heap.size w₀ w)) (h : Mem ks w l γ w') {p : Nat} (hp : ks.length ≤ p) (hl : ∀ i, i < p → l.getD i false = true)
    (is : List Nat) (ha : (is.all fun i => (fresh ks i).isSome) = true) (hn : is.Pairwise (· ≠ ·)) : Hid (Mm w' (is.map (fun i => (γ i, fin ks i)) ++ L) ∧ Below w₀.heap.size w₀ w') :=
  ⟨H.out.1.grow h hp hl is ha hn, H.out.2.trans (h.below.mono H.out.2.size)⟩
theorem ownB {ks : List Kind} {w₀ w w' : World} {l : Array Bool} {γ : Nat → Nat} {L : List (Nat × List Value)} (H : Hid (Mm w L ∧ Below w₀.heap.size w₀ w)) (h : Mem ks w l γ w') {p : Nat} (hp : ks.length ≤ p) (hl : ∀ i, i < p → l.getD i false = true) {i : Nat} (hi : (fresh ks i).isSome = true) : Hid (w₀.heap.size ≤ γ i) :=
  Nat.le_trans H.out.2.size (h.fin hp hl hi).2.1
theorem sB {w : World} {L : List (Nat × List Value)} {R : World → Prop} (H : Hid (Mm w L ∧ R w)) (w' : World) (hb : Below w.heap.size w w') : Mm w' L := H.out.1.below hb
theorem sa {l : List Value} {i : Nat} {x : Value} : l.toArray.setIfInBounds i x = (l.set i x).toArray := List.setIfInBounds_toArray ..
theorem sz {l : List Value} {x y : Value} : (x :: l).set 0 y = y :: l := rfl
theorem ss {l : List Value} {n : Nat} {x y : Value} : (x :: l).set (n + 1) y = x :: l.set n y := rfl
theorem tk {α : Type} {l : List α} {n : Nat} {x : α} : (x :: l).take (n + 1) = x :: l.take n := rfl
theorem tz {α : Type} {l : List α} : l.take 0 = [] := rfl
theorem walk_anyB {P : Program} {Q : Exit → Act → World → Prop} {full : Array Oper} {a : Act} {w w₀ : World} {L : List (Nat × List Value)} {id : Nat} (p : Nat) (ks : List Kind) {pre : List Oper} {F : (Nat → Nat) → Act} (H : Hid (Mm w L ∧ Below w₀.heap.size w₀ w))
    (hops : AllOk P pre.toArray (fun w' => Mm w' L) F pre ks)
    (hend : ∀ γ w', Hid (Mm w' L ∧ Below w₀.heap.size w₀ w') → wpOps P full Q (List.range' p (full.size - p)) (F γ) w')
    (hq : full.toList.take p = pre ∧ (∀ γ, fill γ 0 pre ks a = F γ) ∧ (orderly pre.toArray ks a.tmps.size && guarded pre.toArray p && chained full p && decide (p ≤ full.size)) = true := by
      refine ⟨?_, ?_, ?_⟩
      · simp only [List.append_eq, List.cons_append, List.nil_append, tk, tz]; rfl
      · intro _; simp only [fill, Kind.val, Act.put, sa, sz, ss]; rfl
      · kernel_rfl)
    (hm : P.follows .mixedOrders = true := by kernel_rfl)
    (hL : LaidOk ks ks := by trivial) :
    (Code.region id full true).wp P Q a w :=
  walk_any hm p ks _ pre F hq.1 hq.2.1 hq.2.2 hL (sB H) hops (fun γ w' _ hM _ => hend γ w' (keepB H hM.below))
theorem ak {P : Program} {ops : Array Oper} {S : World → Prop} {F : (Nat → Nat) → Act} {o : Oper} {os : List Oper} {k : Kind} {ks : List Kind} (h : KindOk P ops S F o k) (hs : AllOk P ops S F os ks) : AllOk P ops S F (o :: os) (k :: ks) := ⟨h, hs⟩
theorem mpn {ρ : Operand → Value} {xs : List Operand} {vs : List Value} (h : xs.map ρ = vs) : xs.toArray.map ρ = vs.toArray := by rw [List.map_toArray, h]
end Rg
end Go.Proofs.Ytidicdlfjdlpnaa
end
section
namespace Go.Proofs.Ytidicdlfjdlpnaa
open Go.RowKit
namespace Rg
section
variable {P : Program} {ops : Array Oper} {ks : List Kind} {a₀ : Act} {w₀ : World} {Q : Exit → Act → World → Prop}
/-- An operation that the store need not wait for: it tells its value in whatever world. -/
def LateOk (P : Program) (ops : Array Oper) (ks : List Kind) (F : (Nat → Nat) → Act) : List Nat → Prop
  | [] => True
  | i :: r => (∃ o v, ops[i]? = some o ∧ ks[i]? = some (.quiet v) ∧ ∀ γ, Region.wanted o (yielded ops (F γ).tmps) = true ∧ ∀ w, (execOp (F γ).eval o).run P w = .ok (.value v) w) ∧ LateOk P ops ks F r
theorem LateOk.at {F : (Nat → Nat) → Act} : ∀ {late : List Nat}, LateOk P ops ks F late → ∀ {i : Nat}, i ∈ late → ∃ o v, ops[i]? = some o ∧ ks[i]? = some (.quiet v) ∧ ∀ γ, Region.wanted o (yielded ops (F γ).tmps) = true ∧ ∀ w, (execOp (F γ).eval o).run P w = .ok (.value v) w
  | [], _, _, h => by cases h
  | j :: r, hl, i, h => by
    rcases List.mem_cons.1 h with e | h
    · subst e; exact hl.1
    · exact hl.2.at h
theorem mem_late {F : (Nat → Nat) → Act} {γ : Nat → Nat} {w : World} : ∀ {late : List Nat} {l : Array Bool}, LateOk P ops ks F late → Mem ks w₀ l γ w → ∃ l', Mem ks w₀ l' γ w ∧ l'.size = l.size ∧ (∀ i, l.getD i false = true → l'.getD i false = true) ∧ ∀ i ∈ late, i < l.size → l'.getD i false = true
  | [], l, _, h => ⟨l, h, rfl, fun _ h => h, fun _ h => by cases h⟩
  | j :: r, l, hl, h => by
    obtain ⟨o, v, _, hk, _⟩ := hl.1
    obtain ⟨l', h1, h2, h3, h4⟩ := mem_late (late := r) hl.2 (h.still (Below.refl _ _) hk rfl (fun _ _ _ h => by cases h))
    refine ⟨l', h1, by rw [h2]; simp, fun i hi => h3 i (getD_true hi), fun i hi hlt => ?_⟩
    rcases List.mem_cons.1 hi with e | hi
    · subst e
      exact h3 i (by simp [hlt])
    · exact h4 i hi (by simpa using hlt)
theorem see_all {full : Array Oper} {l : Array Bool} {γ : Nat → Nat} {a : Act} (h : Agree ops ks a₀ l γ a) {o : Oper} (hn : ∀ cs b, o.op ≠ .select cs b)
    (hlook : ∀ d ∈ o.looksAt full, ∀ j oj, ops[j]? = some oj → oj.dst = some d → l.getD j false = true) :
    execOp a.eval o = execOp (fill γ 0 ops.toList ks a₀).eval o := by
  refine execOp_congr o hn (fun x hx => ?_)
  cases x with
  | tmp t =>
    have := h.slots t (hlook t (List.mem_append_left _ (List.mem_filterMap.2 ⟨.tmp t, by simpa using hx, rfl⟩)))
    simp only [Act.eval, Array.getD_eq_getD_getElem?, this]
  | _ => rfl
/-- The operations that have come up: with each, all that it waits for. -/
def Closed (full : Array Oper) (l : Array Bool) : Prop := ∀ (i : Nat) (o : Oper), full[i]? = some o → l.getD i false = true → ∀ e ∈ o.after, Region.binds .any e = true → l.getD e.on false = true
theorem Closed.none (full : Array Oper) (n : Nat) : Closed full (Array.replicate n false) := fun i o _ h => by rw [none_listed] at h; cases h
theorem Closed.step {full : Array Oper} {l : Array Bool} (h : Closed full l) {i : Nat} {o : Oper} (ho : full[i]? = some o) (hedge : ∀ e ∈ o.after, Region.binds .any e = true → l.getD e.on false = true) : Closed full (l.setIfInBounds i true) := fun j oj hj hl e he hb => by
  by_cases hij : i = j
  · subst hij
    rw [ho] at hj
    injection hj with hj
    subst hj
    exact getD_true (hedge e he hb)
  · rw [getD_set_ne false hij] at hl
    exact getD_true (h j oj hj hl e he hb)
/-- Who waits for operation j, by others or not. -/
def waitsT (full : Array Oper) : Nat → Oper → Nat → Bool
  | 0, o, j => waits o j
  | f + 1, o, j => waits o j || o.after.any fun e => Region.binds .any e && (match full[e.on]? with | some o' => waitsT full f o' j | none => false)
theorem waitsT_spec {full : Array Oper} {l : Array Bool} (h : Closed full l) {j : Nat} : ∀ (f : Nat) (o : Oper), waitsT full f o j = true → (∀ e ∈ o.after, Region.binds .any e = true → l.getD e.on false = true) → l.getD j false = true
  | 0, o, hw, he => waits_spec hw he
  | f + 1, o, hw, he => by
    unfold waitsT at hw
    rw [Bool.or_eq_true] at hw
    rcases hw with hw | hw
    · exact waits_spec hw he
    · obtain ⟨e, hm, hx⟩ := Array.any_eq_true'.1 hw
      rw [Bool.and_eq_true] at hx
      obtain ⟨hb, hx⟩ := hx
      cases ho : full[e.on]? with
      | none => rw [ho] at hx; cases hx
      | some o' =>
        rw [ho] at hx
        exact waitsT_spec h f o' hx (fun e' he' hb' => h e.on o' ho (he e hm hb) e' he' hb')
theorem rest_anyT {full : Array Oper} (p : Nat) (hup : ∀ {i : Nat} {o : Oper}, full[i]? = some o → ∀ e ∈ o.after, Region.binds .any e = true → e.on < i)
    (hwt : ∀ {i : Nat} {o : Oper}, full[i]? = some o → p ≤ i → ∀ j, j < i → waitsT full 4 o j = true) : ∀ (m fuel q : Nat) (l : Array Bool) (a : Act) (w : World), q + m = full.size → p ≤ q → l.size = full.size → m ≤ fuel → Closed full l →
      (∀ i, i < q → l.getD i false = true) → (∀ i, q ≤ i → i < full.size → l.getD i true = false) → wpOps P full Q (List.range' q m) a w → wpAny P .any full Q fuel l a w := by
  intro m
  induction m with
  | zero =>
    intro fuel q l a w hq hpq hsz hfu hcl hl hu h
    have hr : Region.ready .any full l = [] := by
      refine List.eq_nil_iff_forall_not_mem.2 fun i hi => ?_
      obtain ⟨h1, o, ho, _⟩ := mem_ready.1 hi
      have h2 := hl i (by have := (Array.getElem?_eq_some_iff.1 ho).1; omega)
      rw [(getD_same h1).1] at h2
      cases h2
    have hQ : Q .normal a w := h
    cases fuel with
    | zero => exact ⟨hr, hQ⟩
    | succ f => exact ⟨fun _ => hQ, by rw [hr]; simp⟩
  | succ m ih =>
    intro fuel q l a w hq hpq hsz hfu hcl hl hu h
    cases fuel with
    | zero => omega
    | succ f =>
      have hqs : q < full.size := by omega
      have hqr : q ∈ Region.ready .any full l := mem_ready.2 ⟨hu q (Nat.le_refl _) hqs, full[q], Array.getElem?_eq_getElem hqs, fun e he hb => hl _ (hup (Array.getElem?_eq_getElem hqs) e he hb)⟩
      refine ⟨fun hr => absurd hqr (by rw [hr]; simp), fun i hi => ?_⟩
      obtain ⟨hun, o, ho, hedge⟩ := mem_ready.1 hi
      have hilt : i < full.size := (Array.getElem?_eq_some_iff.1 ho).1
      have hiq : i = q := by
        rcases Nat.lt_trichotomy i q with h' | h' | h'
        · have h2 := hl i h'
          rw [(getD_same hun).1] at h2
          cases h2
        · exact h'
        · have h2 := waitsT_spec hcl 4 o (hwt ho (by omega) q h') hedge
          rw [(getD_same (hu q (Nat.le_refl _) hqs)).1] at h2
          cases h2
      subst hiq
      rw [List.range'_succ, wpOps_cons] at h
      refine wpOp_mono (fun a' w' h' => ?_) h
      refine ih f (i + 1) _ a' w' (by omega) (by omega) (by simp [hsz]) (by omega) (hcl.step ho hedge) (fun j hj => ?_) (fun j hj hj2 => ?_) h'
      · rcases Nat.lt_or_ge j i with h2 | h2
        · exact getD_true (hl j h2)
        · have : j = i := by omega
          subst this
          exact (getD_same hun).2
      · rw [getD_set_ne true (by omega)]
        exact hu j (by omega) hj2
theorem tail_count (n : Nat) : ∀ (m : Nat) (l : Array Bool), l.size = n → m ≤ n → (∀ i, n - m ≤ i → i < n → l.getD i true = false) → m ≤ l.toList.count false := by
  intro m
  induction m with
  | zero => intro l _ _ _; omega
  | succ m ih =>
    intro l hs hm hl
    have h4 := count_set (hl (n - (m + 1)) (Nat.le_refl _) (by omega))
    have h5 := ih (l.setIfInBounds (n - (m + 1)) true) (by simp [hs]) (by omega) (fun i hi1 hi2 => by rw [getD_set_ne true (by omega)]; exact hl i (by omega) hi2)
    omega
theorem ready_all {full : Array Oper} (hup : ∀ {i : Nat} {o : Oper}, full[i]? = some o → ∀ e ∈ o.after, Region.binds .any e = true → e.on < i) {l : Array Bool} (hsz : l.size = full.size) (hr : Region.ready .any full l = []) : ∀ i, i < full.size → l.getD i false = true := by
  intro i
  induction i using Nat.strongRecOn with
  | _ i ih2 =>
    intro hi
    have hi' : i < l.size := by omega
    cases hl : l.getD i true with
    | true => simpa [hi'] using hl
    | false =>
      exfalso
      have : i ∈ Region.ready .any full l := mem_ready.2 ⟨hl, full[i], Array.getElem?_eq_getElem hi, fun e he hb => ih2 e.on (hup (Array.getElem?_eq_getElem hi) e he hb) (by have := hup (Array.getElem?_eq_getElem hi) e he hb; omega)⟩
      rw [hr] at this
      cases this
theorem after_put {full : Array Oper} {n p : Nat} (hO : Orderly ops ks n) (hn : n = a₀.tmps.size) (hp : ops.size = p) (hpf : p + 1 ≤ full.size) (hfull : ∀ i, i < p → full[i]? = ops[i]?) (hgd : ∀ {i : Nat} {o : Oper} {g : Nat} {b : Bool}, ops[i]? = some o → o.guard = some (g, b) → g < p)
    (hup : ∀ {i : Nat} {o : Oper}, full[i]? = some o → ∀ e ∈ o.after, Region.binds .any e = true → e.on < i)
    (hwt : ∀ {i : Nat} {o : Oper}, full[i]? = some o → p + 1 ≤ i → ∀ j, j < i → waitsT full 4 o j = true)
    {late : List Nat} (hlate : LateOk P ops ks (fun γ => fill γ 0 ops.toList ks a₀) late) {γ : Nat → Nat} {w : World} (hQ : wpOps P full Q (List.range' (p + 1) (full.size - (p + 1))) (fill γ 0 ops.toList ks a₀) w) :
    ∀ (fuel : Nat) (l : Array Bool) (a : Act), l.size = full.size → l.toList.count false ≤ fuel → Closed full l → (∀ i, i ≤ p → l.getD i true = false → i ∈ late) → (∀ i, p + 1 ≤ i → i < full.size → l.getD i true = false) → Agree ops ks a₀ l γ a → wpAny P .any full Q fuel l a w := by
  intro fuel
  induction fuel with
  | zero =>
    intro l a hsz hc hcl hu ht hA
    have hall : ∀ i, i < full.size → l.getD i false = true := fun i hi => by
      cases hb : l.getD i true with
      | false => have := count_set hb; omega
      | true =>
        have hi' : i < l.size := by omega
        simpa [hi'] using hb
    rw [hA.whole (fun i hi => hall i (by omega))]
    have h0 := tail_count full.size (full.size - (p + 1)) l hsz (by omega) (fun i hi1 hi2 => ht i (by omega) hi2)
    exact rest_anyT (p + 1) hup hwt (full.size - (p + 1)) 0 (p + 1) l _ w (by omega) (Nat.le_refl _) hsz (by omega) hcl (fun i hi => hall i (by omega)) ht hQ
  | succ fuel ih =>
    intro l a hsz hc hcl hu ht hA
    by_cases hall : ∀ i, i < p + 1 → l.getD i false = true
    · rw [hA.whole (fun i hi => hall i (by omega))]
      have h0 := tail_count full.size (full.size - (p + 1)) l hsz (by omega) (fun i hi1 hi2 => ht i (by omega) hi2)
      exact rest_anyT (p + 1) hup hwt (full.size - (p + 1)) (fuel + 1) (p + 1) l _ w (by omega) (Nat.le_refl _) hsz (by omega) hcl hall ht hQ
    · have hex : ∃ x, x < p + 1 ∧ l.getD x false = false := by
        apply Classical.byContradiction
        intro hno
        apply hall
        intro i hi
        cases hb : l.getD i false with
        | true => rfl
        | false => exact absurd ⟨i, hi, hb⟩ hno
      obtain ⟨x, hx, hxf⟩ := hex
      refine ⟨fun hr => ?_, fun i hi => ?_⟩
      · have := ready_all hup hsz hr x (by omega)
        rw [hxf] at this
        cases this
      · obtain ⟨hun, o, ho, hedge⟩ := mem_ready.1 hi
        have hilt : i < full.size := (Array.getElem?_eq_some_iff.1 ho).1
        have hip1 : i < p + 1 := by
          rcases Nat.lt_or_ge i (p + 1) with h' | h'
          · exact h'
          · have := waitsT_spec hcl 4 o (hwt ho h' x (by omega)) hedge
            rw [hxf] at this
            cases this
        obtain ⟨o', v, ho', hk, hxq⟩ := hlate.at (hu i (by omega) hun)
        have hip : i < p := by rw [← hp]; exact (Array.getElem?_eq_some_iff.1 ho').1
        have hof := ho
        rw [hfull i hip, ho'] at ho
        injection ho with ho
        subst ho
        obtain ⟨he, hw0⟩ := hA.sees hO ho' hedge
        have hy : ∀ ts, Region.wanted o' (yielded full ts) = Region.wanted o' (yielded ops ts) := fun ts => by
          unfold Region.wanted
          cases hg : o'.guard with
          | none => rfl
          | some gw =>
            obtain ⟨g, want⟩ := gw
            have : yielded full ts g = yielded ops ts g := by unfold yielded; rw [hfull g (hgd ho' hg)]
            simp only [this]
        have hc' := count_set hun
        refine wpOp_step hof (fun K' hK => ?_)
        rw [hy, hw0, if_pos (hxq γ).1]
        unfold Oper.wp
        rw [he, (hxq γ).2 w]
        refine hK _ _ (ih _ _ (by simp [hsz]) (by omega) (hcl.step hof hedge) (fun j hj hj2 => ?_) (fun j hj hj2 => ?_) (hA.step hO hn ho' hk (fun _ _ _ _ => rfl)))
        · by_cases e : i = j
          · subst e
            have hi' : i < l.size := by omega
            simp [hi'] at hj2
          · rw [getD_set_ne true e] at hj2
            exact hu j hj hj2
        · rw [getD_set_ne true (by omega)]
          exact ht j hj hj2
theorem first_put {full : Array Oper} {n p : Nat} {op : Oper} (hO : Orderly ops ks n) (hn : n = a₀.tmps.size) (hL : LaidOk ks ks) {S : World → Prop} (hS : ∀ w, Below w₀.heap.size w₀ w → S w)
    (hp : ops.size = p) (hpf : p + 1 ≤ full.size) (hfull : ∀ i, i < p → full[i]? = ops[i]?) (hgd : ∀ {i : Nat} {o : Oper} {g : Nat} {b : Bool}, ops[i]? = some o → o.guard = some (g, b) → g < p)
    (hup : ∀ {i : Nat} {o : Oper}, full[i]? = some o → ∀ e ∈ o.after, Region.binds .any e = true → e.on < i)
    (hop : full[p]? = some op) (hdst : op.dst = none) (hgu : op.guard = none) (hsel : ∀ cs b, op.op ≠ .select cs b)
    {late : List Nat} (hwp : ∀ j, j < p → waitsT full 4 op j = true ∨ j ∈ late) (hlook : ∀ d ∈ op.looksAt full, ∀ j oj, ops[j]? = some oj → oj.dst = some d → waitsT full 4 op j = true)
    (hwt : ∀ {i : Nat} {o : Oper}, full[i]? = some o → p + 1 ≤ i → ∀ j, j < i → waitsT full 4 o j = true)
    (hlate : LateOk P ops ks (fun γ => fill γ 0 ops.toList ks a₀) late)
    (hops : AllOk P ops S (fun γ => fill γ 0 ops.toList ks a₀) ops.toList ks)
    (hend : ∀ γ w l, Mem ks w₀ l γ w → (∀ i, i < p → l.getD i false = true) → ∃ w', (execOp (fill γ 0 ops.toList ks a₀).eval op).run P w = .ok .skip w' ∧ wpOps P full Q (List.range' (p + 1) (full.size - (p + 1))) (fill γ 0 ops.toList ks a₀) w') :
    ∀ (fuel : Nat) (l : Array Bool) (γ : Nat → Nat) (a : Act) (w : World), l.size = full.size → l.toList.count false ≤ fuel → Closed full l → (∀ i, p ≤ i → i < full.size → l.getD i true = false) → Agree ops ks a₀ l γ a → Mem ks w₀ l γ w → wpAny P .any full Q fuel l a w := by
  intro fuel
  induction fuel with
  | zero =>
    intro l γ a w hsz hc hcl ht hA hM
    have := count_set (ht p (Nat.le_refl _) (by omega))
    omega
  | succ fuel ih =>
    intro l γ a w hsz hc hcl ht hA hM
    have hpu := ht p (Nat.le_refl _) (by omega)
    refine ⟨fun hr => ?_, fun i hi => ?_⟩
    · have := ready_all hup hsz hr p (by omega)
      rw [(getD_same hpu).1] at this
      cases this
    · obtain ⟨hun, o, ho, hedge⟩ := mem_ready.1 hi
      have hilt : i < full.size := (Array.getElem?_eq_some_iff.1 ho).1
      have hc' := count_set hun
      have hip1 : i < p + 1 := by
        rcases Nat.lt_or_ge i (p + 1) with h' | h'
        · exact h'
        · have := waitsT_spec hcl 4 o (hwt ho h' p (by omega)) hedge
          rw [(getD_same hpu).1] at this
          cases this
      by_cases hip : i = p
      · subst hip
        have ho2 := ho
        rw [hop] at ho
        injection ho with ho
        subst ho
        have hbefore : ∀ j, j < i → j ∉ late → l.getD j false = true := fun j hj hnl => by
          rcases hwp j hj with h | h
          · exact waitsT_spec hcl 4 _ h hedge
          · exact absurd h hnl
        obtain ⟨l', hM', hs', hl1, hl2⟩ := mem_late hlate hM
        have hfin : ∀ j, j < i → l'.getD j false = true := fun j hj => by
          by_cases h : j ∈ late
          · exact hl2 j h (by omega)
          · exact hl1 j (hbefore j hj h)
        obtain ⟨w', hx, hQ⟩ := hend γ w l' hM' hfin
        have he := see_all (full := full) hA hsel (fun d hd j oj hj hdj => waitsT_spec hcl 4 _ (hlook d hd j oj hj hdj) hedge)
        refine wpOp_step hop (fun K' hK => ?_)
        have hwn : Region.wanted op (yielded full a.tmps) = true := by unfold Region.wanted; rw [hgu]
        rw [if_pos hwn]
        unfold Oper.wp
        rw [he, hx]
        have hA' : Agree ops ks a₀ (l.setIfInBounds i true) γ (a.put op.dst undef) := by
          rw [hdst]
          refine ⟨hA.defers, hA.size, fun d hd => hA.slots d (fun j oj hj hdj => ?_)⟩
          have h1 := hd j oj hj hdj
          have hj' : j < i := by rw [← hp]; exact (Array.getElem?_eq_some_iff.1 hj).1
          rwa [getD_set_ne false (by omega)] at h1
        refine hK _ _ (after_put hO hn hp hpf hfull hgd hup hwt hlate hQ fuel _ _ (by simp [hsz]) (by omega) (hcl.step ho2 hedge) (fun j hj hj2 => ?_) (fun j hj hj2 => ?_) hA')
        · by_cases e : i = j
          · subst e
            have hi' : i < l.size := by omega
            simp [hi'] at hj2
          · rw [getD_set_ne true e] at hj2
            apply Classical.byContradiction
            intro hnl
            have := hbefore j (by omega) hnl
            rw [(getD_same hj2).1] at this
            cases this
        · rw [getD_set_ne true (by omega)]
          exact ht j (by omega) hj2
      · have hlt : i < p := by omega
        have ho' : ops[i]? = some o := by rw [← hfull i hlt]; exact ho
        refine kind_step hO hn hL hS hfull hgd hops hA hM hlt ho' hun hedge (fun γ' a' w' hA' hM' => ?_)
        exact ih _ γ' a' w' (by simp [hsz]) (by omega) (hcl.step ho hedge) (fun j hj hj2 => by rw [getD_set_ne true (by omega)]; exact ht j hj hj2) hA' hM'
/-- What is to be looked up of the whole region. -/
def putly (full : Array Oper) (p : Nat) (late : List Nat) : Bool :=
  eachOp full (fun i o => o.after.all fun e => !Region.binds .any e || decide (e.on < i)) && decide (p + 1 ≤ full.size) && Region.noSelect full &&
  (match full[p]? with
   | none => false
   | some op => op.dst.isNone && op.guard.isNone && ((List.range p).all fun j => waitsT full 4 op j || late.contains j) && (op.looksAt full).all fun d => eachOp full fun j oj => oj.dst != some d || waitsT full 4 op j || decide (p ≤ j)) &&
  eachOp full (fun i o => decide (i < p + 1) || (List.range i).all fun j => waitsT full 4 o j)
/-- **The law of such a region.** -/
theorem walk_put {full : Array Oper} {a : Act} {w : World} {id : Nat} (hm : P.follows .mixedOrders = true) (p : Nat) (late : List Nat) (ks : List Kind) (S : World → Prop) (pre : List Oper) (F : (Nat → Nat) → Act) (op : Oper) (hpre : full.toList.take p = pre)
    (hF : ∀ γ, fill γ 0 pre ks a = F γ) (hor : (orderly pre.toArray ks a.tmps.size && guarded pre.toArray p && putly full p late) = true) (hop : full[p]? = some op) (hL : LaidOk ks ks) (hS : ∀ w', Below w.heap.size w w' → S w')
    (hops : AllOk P pre.toArray S F pre ks) (hlate : LateOk P pre.toArray ks F late)
    (hend : ∀ γ w' l, Mem ks w l γ w' → (∀ i, i < p → l.getD i false = true) → ∃ w'', (execOp (F γ).eval op).run P w' = .ok .skip w'' ∧ wpOps P full Q (List.range' (p + 1) (full.size - (p + 1))) (F γ) w'') :
    (Code.region id full true).wp P Q a w := by
  subst hpre
  obtain rfl : (fun γ => fill γ 0 (full.toList.take p) ks a) = F := funext hF
  simp only [Bool.and_eq_true] at hor
  obtain ⟨⟨h1, h2⟩, h3⟩ := hor
  unfold putly at h3
  rw [hop] at h3
  simp only [Bool.and_eq_true, decide_eq_true_eq, Option.isNone_iff_eq_none] at h3
  obtain ⟨⟨⟨⟨h5, h6⟩, h7⟩, ⟨⟨h8, h9⟩, h10⟩, h11⟩, h12⟩ := h3
  have hsz : (full.toList.take p).toArray.size = p := by simp; omega
  have hfu : ∀ i, i < p → full[i]? = (full.toList.take p).toArray[i]? := fun i hi => by rw [← take_arr]; exact first_full hi
  refine wp_region_any hm (first_put (ops := (full.toList.take p).toArray) (Orderly.of h1) rfl hL hS hsz h6 hfu (fun ho hg => guarded_spec h2 ho hg) (fun ho e he hb => ?_) hop h8 h9 (fun cs b => Region.noSelect_spec h7 p op cs b hop) (late := late) (fun j hj => ?_) (fun d hd j oj hj hdj => ?_) (fun ho hi j hj => ?_) hlate hops hend full.size _ (fun _ => 0) a w.drew (by simp) (by simp) (Closed.none _ _) (fun i _ hi => none_listed' hi) (start_agree _ _) (start_mem _ _ (Below.refl _ _).drew))
  · have := Array.all_eq_true_iff_forall_mem.1 (eachOp_spec h5 ho) e he
    simpa [hb] using this
  · have := List.all_eq_true.1 h10 j (List.mem_range.2 hj)
    simpa using this
  · have hj' : j < p := by rw [← hsz]; exact (Array.getElem?_eq_some_iff.1 hj).1
    have := eachOp_spec (List.all_eq_true.1 h11 d hd) (by rw [hfu j hj']; exact hj)
    simp only [hdj, bne_self_eq_false, Bool.false_or, Bool.or_eq_true, decide_eq_true_eq] at this
    rcases this with h | h
    · exact h
    · omega
  · have := eachOp_spec h12 ho
    simp only [Bool.or_eq_true, decide_eq_true_eq] at this
    rcases this with h | h
    · omega
    · exact List.all_eq_true.1 h j (List.mem_range.2 hj)
end
end Rg
end Go.Proofs.Ytidicdlfjdlpnaa
end
section
namespace Go.Proofs.Ytidicdlfjdlpnaa
open Go.RowKit
namespace Rg
section
variable {P : Program} {ops : Array Oper} {ks : List Kind} {a₀ : Act} {w₀ : World} {Q : Exit → Act → World → Prop}
theorem fill_off (γ : Nat → Nat) (d : Nat) : ∀ (os : List Oper) (ks : List Kind) (a : Act) (i : Nat), (∀ (j : Nat) (o : Oper), os[j]? = some o → o.dst ≠ some d) → (fill γ i os ks a).tmps[d]? = a.tmps[d]?
  | [], _, _, _, _ => rfl
  | _ :: _, [], _, _, _ => rfl
  | o :: os, k :: ks, a, i, h => by
    show (fill γ (i + 1) os ks (a.put o.dst (k.val γ i))).tmps[d]? = _
    rw [fill_off γ d os ks _ (i + 1) (fun j o' hj => h (j + 1) o' (by simpa using hj))]
    have h0 := h 0 o rfl
    cases hd : o.dst with
    | none => rfl
    | some t =>
      rw [hd] at h0
      simp only [Act.put, Array.getElem?_setIfInBounds]
      rw [if_neg (fun e => h0 (by rw [e]))]
theorem put_comm (a : Act) (d t : Nat) (v u : Value) (h : t ≠ d) : (a.put (some d) v).put (some t) u = (a.put (some t) u).put (some d) v := by
  simp only [Act.put, Act.mk.injEq, and_true]
  exact Array.setIfInBounds_comm _ _ (Ne.symm h)
theorem fill_put (γ : Nat → Nat) (d : Nat) (v : Value) : ∀ (os : List Oper) (ks : List Kind) (a : Act) (i : Nat), (∀ (j : Nat) (o : Oper), os[j]? = some o → o.dst ≠ some d) → fill γ i os ks (a.put (some d) v) = (fill γ i os ks a).put (some d) v
  | [], _, _, _, _ => rfl
  | _ :: _, [], _, _, _ => rfl
  | o :: os, k :: ks, a, i, h => by
    show fill γ (i + 1) os ks ((a.put (some d) v).put o.dst (k.val γ i)) = (fill γ (i + 1) os ks (a.put o.dst (k.val γ i))).put (some d) v
    have h0 := h 0 o rfl
    rw [← fill_put γ d v os ks _ (i + 1) (fun j o' hj => h (j + 1) o' (by simpa using hj))]
    cases hd : o.dst with
    | none => rfl
    | some t => rw [put_comm a d t v _ (fun e => by rw [hd, e] at h0; exact h0 rfl)]
theorem rest_anyU {full : Array Oper} (p : Nat) (hup : ∀ {i : Nat} {o : Oper}, full[i]? = some o → ∀ e ∈ o.after, Region.binds .any e = true → e.on < i)
    (hwt : ∀ {i : Nat} {o : Oper}, full[i]? = some o → p ≤ i → ∀ j, j < i → waitsT full 12 o j = true) : ∀ (m fuel q : Nat) (l : Array Bool) (a : Act) (w : World), q + m = full.size → p ≤ q → l.size = full.size → m ≤ fuel → Closed full l →
      (∀ i, i < q → l.getD i false = true) → (∀ i, q ≤ i → i < full.size → l.getD i true = false) → wpOps P full Q (List.range' q m) a w → wpAny P .any full Q fuel l a w := by
  intro m
  induction m with
  | zero =>
    intro fuel q l a w hq hpq hsz hfu hcl hl hu h
    have hr : Region.ready .any full l = [] := by
      refine List.eq_nil_iff_forall_not_mem.2 fun i hi => ?_
      obtain ⟨h1, o, ho, _⟩ := mem_ready.1 hi
      have h2 := hl i (by have := (Array.getElem?_eq_some_iff.1 ho).1; omega)
      rw [(getD_same h1).1] at h2
      cases h2
    have hQ : Q .normal a w := h
    cases fuel with
    | zero => exact ⟨hr, hQ⟩
    | succ f => exact ⟨fun _ => hQ, by rw [hr]; simp⟩
  | succ m ih =>
    intro fuel q l a w hq hpq hsz hfu hcl hl hu h
    cases fuel with
    | zero => omega
    | succ f =>
      have hqs : q < full.size := by omega
      have hqr : q ∈ Region.ready .any full l := mem_ready.2 ⟨hu q (Nat.le_refl _) hqs, full[q], Array.getElem?_eq_getElem hqs, fun e he hb => hl _ (hup (Array.getElem?_eq_getElem hqs) e he hb)⟩
      refine ⟨fun hr => absurd hqr (by rw [hr]; simp), fun i hi => ?_⟩
      obtain ⟨hun, o, ho, hedge⟩ := mem_ready.1 hi
      have hilt : i < full.size := (Array.getElem?_eq_some_iff.1 ho).1
      have hiq : i = q := by
        rcases Nat.lt_trichotomy i q with h' | h' | h'
        · have h2 := hl i h'
          rw [(getD_same hun).1] at h2
          cases h2
        · exact h'
        · have h2 := waitsT_spec hcl 12 o (hwt ho (by omega) q h') hedge
          rw [(getD_same (hu q (Nat.le_refl _) hqs)).1] at h2
          cases h2
      subst hiq
      rw [List.range'_succ, wpOps_cons] at h
      refine wpOp_mono (fun a' w' h' => ?_) h
      refine ih f (i + 1) _ a' w' (by omega) (by omega) (by simp [hsz]) (by omega) (hcl.step ho hedge) (fun j hj => ?_) (fun j hj hj2 => ?_) h'
      · rcases Nat.lt_or_ge j i with h2 | h2
        · exact getD_true (hl j h2)
        · have : j = i := by omega
          subst this
          exact (getD_same hun).2
      · rw [getD_set_ne true (by omega)]
        exact hu j (by omega) hj2
theorem after_putU {full : Array Oper} {n p : Nat} (hO : Orderly ops ks n) (hn : n = a₀.tmps.size) (hp : ops.size = p) (hpf : p + 1 ≤ full.size) (hfull : ∀ i, i < p → full[i]? = ops[i]?) (hgd : ∀ {i : Nat} {o : Oper} {g : Nat} {b : Bool}, ops[i]? = some o → o.guard = some (g, b) → g < p)
    (hup : ∀ {i : Nat} {o : Oper}, full[i]? = some o → ∀ e ∈ o.after, Region.binds .any e = true → e.on < i)
    (hwt : ∀ {i : Nat} {o : Oper}, full[i]? = some o → p + 1 ≤ i → ∀ j, j < i → waitsT full 12 o j = true)
    {late : List Nat} (hlate : LateOk P ops ks (fun γ => fill γ 0 ops.toList ks a₀) late) {γ : Nat → Nat} {w : World} (hQ : wpOps P full Q (List.range' (p + 1) (full.size - (p + 1))) (fill γ 0 ops.toList ks a₀) w) :
    ∀ (fuel : Nat) (l : Array Bool) (a : Act), l.size = full.size → l.toList.count false ≤ fuel → Closed full l → (∀ i, i ≤ p → l.getD i true = false → i ∈ late) → (∀ i, p + 1 ≤ i → i < full.size → l.getD i true = false) → Agree ops ks a₀ l γ a → wpAny P .any full Q fuel l a w := by
  intro fuel
  induction fuel with
  | zero =>
    intro l a hsz hc hcl hu ht hA
    have hall : ∀ i, i < full.size → l.getD i false = true := fun i hi => by
      cases hb : l.getD i true with
      | false => have := count_set hb; omega
      | true =>
        have hi' : i < l.size := by omega
        simpa [hi'] using hb
    rw [hA.whole (fun i hi => hall i (by omega))]
    have h0 := tail_count full.size (full.size - (p + 1)) l hsz (by omega) (fun i hi1 hi2 => ht i (by omega) hi2)
    exact rest_anyU (p + 1) hup hwt (full.size - (p + 1)) 0 (p + 1) l _ w (by omega) (Nat.le_refl _) hsz (by omega) hcl (fun i hi => hall i (by omega)) ht hQ
  | succ fuel ih =>
    intro l a hsz hc hcl hu ht hA
    by_cases hall : ∀ i, i < p + 1 → l.getD i false = true
    · rw [hA.whole (fun i hi => hall i (by omega))]
      have h0 := tail_count full.size (full.size - (p + 1)) l hsz (by omega) (fun i hi1 hi2 => ht i (by omega) hi2)
      exact rest_anyU (p + 1) hup hwt (full.size - (p + 1)) (fuel + 1) (p + 1) l _ w (by omega) (Nat.le_refl _) hsz (by omega) hcl hall ht hQ
    · have hex : ∃ x, x < p + 1 ∧ l.getD x false = false := by
        apply Classical.byContradiction
        intro hno
        apply hall
        intro i hi
        cases hb : l.getD i false with
        | true => rfl
        | false => exact absurd ⟨i, hi, hb⟩ hno
      obtain ⟨x, hx, hxf⟩ := hex
      refine ⟨fun hr => ?_, fun i hi => ?_⟩
      · have := ready_all hup hsz hr x (by omega)
        rw [hxf] at this
        cases this
      · obtain ⟨hun, o, ho, hedge⟩ := mem_ready.1 hi
        have hilt : i < full.size := (Array.getElem?_eq_some_iff.1 ho).1
        have hip1 : i < p + 1 := by
          rcases Nat.lt_or_ge i (p + 1) with h' | h'
          · exact h'
          · have := waitsT_spec hcl 12 o (hwt ho h' x (by omega)) hedge
            rw [hxf] at this
            cases this
        obtain ⟨o', v, ho', hk, hxq⟩ := hlate.at (hu i (by omega) hun)
        have hip : i < p := by rw [← hp]; exact (Array.getElem?_eq_some_iff.1 ho').1
        have hof := ho
        rw [hfull i hip, ho'] at ho
        injection ho with ho
        subst ho
        obtain ⟨he, hw0⟩ := hA.sees hO ho' hedge
        have hy : ∀ ts, Region.wanted o' (yielded full ts) = Region.wanted o' (yielded ops ts) := fun ts => by
          unfold Region.wanted
          cases hg : o'.guard with
          | none => rfl
          | some gw =>
            obtain ⟨g, want⟩ := gw
            have : yielded full ts g = yielded ops ts g := by unfold yielded; rw [hfull g (hgd ho' hg)]
            simp only [this]
        have hc' := count_set hun
        refine wpOp_step hof (fun K' hK => ?_)
        rw [hy, hw0, if_pos (hxq γ).1]
        unfold Oper.wp
        rw [he, (hxq γ).2 w]
        refine hK _ _ (ih _ _ (by simp [hsz]) (by omega) (hcl.step hof hedge) (fun j hj hj2 => ?_) (fun j hj hj2 => ?_) (hA.step hO hn ho' hk (fun _ _ _ _ => rfl)))
        · by_cases e : i = j
          · subst e
            have hi' : i < l.size := by omega
            simp [hi'] at hj2
          · rw [getD_set_ne true e] at hj2
            exact hu j hj hj2
        · rw [getD_set_ne true (by omega)]
          exact ht j hj hj2
/-- What is to be looked up of the whole region. -/
def enterly (full : Array Oper) (p d n : Nat) (late : List Nat) : Bool :=
  eachOp full (fun i o => o.after.all fun e => !Region.binds .any e || decide (e.on < i)) && decide (p + 1 ≤ full.size) && Region.noSelect full &&
  (match full[p]? with
   | none => false
   | some op => op.dst == some d && op.guard.isNone && ((List.range p).all fun j => waitsT full 12 op j || late.contains j) && (op.looksAt full).all fun d => eachOp full fun j oj => oj.dst != some d || waitsT full 12 op j || decide (p ≤ j)) &&
  eachOp full (fun i o => decide (i < p + 1) || (List.range i).all fun j => waitsT full 12 o j) && decide (d < n) && eachOp full (fun j oj => decide (p ≤ j) || oj.dst != some d)
end
end Rg
end Go.Proofs.Ytidicdlfjdlpnaa
end
section
namespace Go.Proofs.Ytidicdlfjdlpnaa
open Go.RowKit
namespace Rg
section
variable {P : Program} {ops : Array Oper} {ks : List Kind} {a₀ : Act} {w₀ : World} {Q : Exit → Act → World → Prop}
theorem first_value {full : Array Oper} {n p : Nat} {op : Oper} {d : Nat} (hO : Orderly ops ks n) (hn : n = a₀.tmps.size) (hL : LaidOk ks ks) {S : World → Prop} (hS : ∀ w, Below w₀.heap.size w₀ w → S w)
    (hp : ops.size = p) (hpf : p + 1 ≤ full.size) (hfull : ∀ i, i < p → full[i]? = ops[i]?) (hgd : ∀ {i : Nat} {o : Oper} {g : Nat} {b : Bool}, ops[i]? = some o → o.guard = some (g, b) → g < p)
    (hup : ∀ {i : Nat} {o : Oper}, full[i]? = some o → ∀ e ∈ o.after, Region.binds .any e = true → e.on < i)
    (hop : full[p]? = some op) (hdst : op.dst = some d) (hdn : d < n) (hdo : ∀ (j : Nat) (oj : Oper), ops[j]? = some oj → oj.dst ≠ some d) (hgu : op.guard = none) (hsel : ∀ cs b, op.op ≠ .select cs b)
    {late : List Nat} (hwp : ∀ j, j < p → waitsT full 12 op j = true ∨ j ∈ late) (hlook : ∀ d ∈ op.looksAt full, ∀ j oj, ops[j]? = some oj → oj.dst = some d → waitsT full 12 op j = true)
    (hwt : ∀ {i : Nat} {o : Oper}, full[i]? = some o → p + 1 ≤ i → ∀ j, j < i → waitsT full 12 o j = true)
    (hlate : ∀ v, LateOk P ops ks (fun γ => fill γ 0 ops.toList ks (a₀.put (some d) v)) late)
    (hops : AllOk P ops S (fun γ => fill γ 0 ops.toList ks a₀) ops.toList ks)
    (hend : ∀ γ w l, Mem ks w₀ l γ w → (∀ i, i < p → l.getD i false = true) → ∃ (v : Value) (w' : World), (execOp (fill γ 0 ops.toList ks a₀).eval op).run P w = .ok (.value v) w' ∧ wpOps P full Q (List.range' (p + 1) (full.size - (p + 1))) (fill γ 0 ops.toList ks (a₀.put (some d) v)) w') :
    ∀ (fuel : Nat) (l : Array Bool) (γ : Nat → Nat) (a : Act) (w : World), l.size = full.size → l.toList.count false ≤ fuel → Closed full l → (∀ i, p ≤ i → i < full.size → l.getD i true = false) → Agree ops ks a₀ l γ a → Mem ks w₀ l γ w → wpAny P .any full Q fuel l a w := by
  intro fuel
  induction fuel with
  | zero =>
    intro l γ a w hsz hc hcl ht hA hM
    have := count_set (ht p (Nat.le_refl _) (by omega))
    omega
  | succ fuel ih =>
    intro l γ a w hsz hc hcl ht hA hM
    have hpu := ht p (Nat.le_refl _) (by omega)
    refine ⟨fun hr => ?_, fun i hi => ?_⟩
    · have := ready_all hup hsz hr p (by omega)
      rw [(getD_same hpu).1] at this
      cases this
    · obtain ⟨hun, o, ho, hedge⟩ := mem_ready.1 hi
      have hilt : i < full.size := (Array.getElem?_eq_some_iff.1 ho).1
      have hc' := count_set hun
      have hip1 : i < p + 1 := by
        rcases Nat.lt_or_ge i (p + 1) with h' | h'
        · exact h'
        · have := waitsT_spec hcl 12 o (hwt ho h' p (by omega)) hedge
          rw [(getD_same hpu).1] at this
          cases this
      by_cases hip : i = p
      · subst hip
        have ho2 := ho
        rw [hop] at ho
        injection ho with ho
        subst ho
        have hbefore : ∀ j, j < i → j ∉ late → l.getD j false = true := fun j hj hnl => by
          rcases hwp j hj with h | h
          · exact waitsT_spec hcl 12 _ h hedge
          · exact absurd h hnl
        obtain ⟨l', hM', hs', hl1, hl2⟩ := mem_late (hlate undef) hM
        have hfin : ∀ j, j < i → l'.getD j false = true := fun j hj => by
          by_cases h : j ∈ late
          · exact hl2 j h (by omega)
          · exact hl1 j (hbefore j hj h)
        obtain ⟨v, w1, hx, hQ⟩ := hend γ w l' hM' hfin
        have he := see_all (full := full) hA hsel (fun d hd j oj hj hdj => waitsT_spec hcl 12 _ (hlook d hd j oj hj hdj) hedge)
        refine wpOp_step hop (fun K' hK => ?_)
        have hwn : Region.wanted op (yielded full a.tmps) = true := by unfold Region.wanted; rw [hgu]
        rw [if_pos hwn]
        unfold Oper.wp
        rw [he, hx]
        have hA' : Agree ops ks (a₀.put (some d) v) (l.setIfInBounds i true) γ (a.put op.dst v) := by
          rw [hdst]
          refine ⟨by rw [put_defers', put_defers']; exact hA.defers, by rw [put_size, put_size]; exact hA.size, fun t ht => ?_⟩
          by_cases e : t = d
          · subst e
            rw [fill_off γ t ops.toList ks _ 0 (fun j' oj hj => hdo j' oj (by simpa using hj))]
            simp only [Act.put, Array.getElem?_setIfInBounds]
            rw [if_pos trivial, if_pos trivial, hA.size]
          · have h0 := hA.slots t (fun j oj hj hdj => by
              have h1 := ht j oj hj hdj
              have hj' : j < i := by rw [← hp]; exact (Array.getElem?_eq_some_iff.1 hj).1
              rwa [getD_set_ne false (by omega)] at h1)
            rw [fill_put γ d v ops.toList ks a₀ 0 (fun j' oj hj => hdo j' oj (by simpa using hj))]
            simp only [Act.put, Array.getElem?_setIfInBounds]
            rw [if_neg (fun h => e h.symm), if_neg (fun h => e h.symm)]
            exact h0
        refine hK _ _ (after_putU (a₀ := a₀.put (some d) v) hO (by rw [put_size]; exact hn) hp hpf hfull hgd hup hwt (hlate v) hQ fuel _ _ (by simp [hsz]) (by omega) (hcl.step ho2 hedge) (fun j hj hj2 => ?_) (fun j hj hj2 => ?_) hA')
        · by_cases e : i = j
          · subst e
            have hi' : i < l.size := by omega
            simp [hi'] at hj2
          · rw [getD_set_ne true e] at hj2
            apply Classical.byContradiction
            intro hnl
            have := hbefore j (by omega) hnl
            rw [(getD_same hj2).1] at this
            cases this
        · rw [getD_set_ne true (by omega)]
          exact ht j (by omega) hj2
      · have hlt : i < p := by omega
        have ho' : ops[i]? = some o := by rw [← hfull i hlt]; exact ho
        refine kind_step hO hn hL hS hfull hgd hops hA hM hlt ho' hun hedge (fun γ' a' w' hA' hM' => ?_)
        exact ih _ γ' a' w' (by simp [hsz]) (by omega) (hcl.step ho hedge) (fun j hj hj2 => by rw [getD_set_ne true (by omega)]; exact ht j hj hj2) hA' hM'
theorem walk_value {full : Array Oper} {a : Act} {w : World} {id : Nat} (hm : P.follows .mixedOrders = true) (p : Nat) (late : List Nat) (ks : List Kind) (S : World → Prop) (pre : List Oper) (F : (Nat → Nat) → Act) (F' : Value → (Nat → Nat) → Act) (op : Oper) (d : Nat) (hpre : full.toList.take p = pre)
    (hF : ∀ γ, fill γ 0 pre ks a = F γ) (hF' : ∀ v γ, fill γ 0 pre ks (a.put (some d) v) = F' v γ) (hor : (orderly pre.toArray ks a.tmps.size && guarded pre.toArray p && enterly full p d a.tmps.size late) = true) (hop : full[p]? = some op) (hL : LaidOk ks ks) (hS : ∀ w', Below w.heap.size w w' → S w')
    (hops : AllOk P pre.toArray S F pre ks) (hlate : ∀ v, LateOk P pre.toArray ks (F' v) late)
    (hend : ∀ γ w' l, Mem ks w l γ w' → (∀ i, i < p → l.getD i false = true) → ∃ (v : Value) (w'' : World), (execOp (F γ).eval op).run P w' = .ok (.value v) w'' ∧ wpOps P full Q (List.range' (p + 1) (full.size - (p + 1))) (F' v γ) w'') :
    (Code.region id full true).wp P Q a w := by
  subst hpre
  obtain rfl : (fun γ => fill γ 0 (full.toList.take p) ks a) = F := funext hF
  obtain rfl : (fun v γ => fill γ 0 (full.toList.take p) ks (a.put (some d) v)) = F' := funext fun v => funext (hF' v)
  simp only [Bool.and_eq_true] at hor
  obtain ⟨⟨h1, h2⟩, h3⟩ := hor
  unfold enterly at h3
  rw [hop] at h3
  simp only [Bool.and_eq_true, decide_eq_true_eq, Option.isNone_iff_eq_none, beq_iff_eq] at h3
  obtain ⟨⟨⟨⟨⟨⟨h5, h6⟩, h7⟩, ⟨⟨h8, h9⟩, h10⟩, h11⟩, h12⟩, h13⟩, h14⟩ := h3
  have hsz : (full.toList.take p).toArray.size = p := by simp; omega
  have hfu : ∀ i, i < p → full[i]? = (full.toList.take p).toArray[i]? := fun i hi => by rw [← take_arr]; exact first_full hi
  refine wp_region_any hm (first_value (ops := (full.toList.take p).toArray) (Orderly.of h1) rfl hL hS hsz h6 hfu (fun ho hg => guarded_spec h2 ho hg) (fun ho e he hb => ?_) hop h8 h13 (fun j oj hj => ?_) h9 (fun cs b => Region.noSelect_spec h7 p op cs b hop) (late := late) (fun j hj => ?_) (fun d hd j oj hj hdj => ?_) (fun ho hi j hj => ?_) hlate hops hend full.size _ (fun _ => 0) a w.drew (by simp) (by simp) (Closed.none _ _) (fun i _ hi => none_listed' hi) (start_agree _ _) (start_mem _ _ (Below.refl _ _).drew))
  · have := Array.all_eq_true_iff_forall_mem.1 (eachOp_spec h5 ho) e he
    simpa [hb] using this
  · have hj' : j < p := by rw [← hsz]; exact (Array.getElem?_eq_some_iff.1 hj).1
    have := eachOp_spec h14 (by rw [hfu j hj']; exact hj)
    simp only [Bool.or_eq_true, decide_eq_true_eq, bne_iff_ne, ne_eq] at this
    rcases this with h | h
    · omega
    · exact h
  · have := List.all_eq_true.1 h10 j (List.mem_range.2 hj)
    simpa using this
  · have hj' : j < p := by rw [← hsz]; exact (Array.getElem?_eq_some_iff.1 hj).1
    have := eachOp_spec (List.all_eq_true.1 h11 d hd) (by rw [hfu j hj']; exact hj)
    simp only [hdj, bne_self_eq_false, Bool.false_or, Bool.or_eq_true, decide_eq_true_eq] at this
    rcases this with h | h
    · exact h
    · omega
  · have := eachOp_spec h12 ho
    simp only [Bool.or_eq_true, decide_eq_true_eq] at this
    rcases this with h | h
    · omega
    · exact List.all_eq_true.1 h j (List.mem_range.2 hj)
end
end Rg
end Go.Proofs.Ytidicdlfjdlpnaa
end
section
namespace Go.Proofs.Ytidicdlfjdlpnaa
open Go.RowKit
namespace Rg
section
variable {P : Program} {full : Array Oper} {Q : Exit → Act → World → Prop} {S : World → Prop}
/-- Operations that come behind the chain's last one. -/
def behind (full : Array Oper) (free chain rm : List Nat) : Bool := rm.all fun j => !(free.contains j) && !(chain.contains j) && (match chain.getLast?, full[j]? with | some c, some o => waitsT full 12 o c | _, _ => false)
/-- A frame that lacks just what free operations have still to bring. -/
structure Ag (full : Array Oper) (free : List Nat) (l : Array Bool) (a b : Act) : Prop where
  defers : a.defers = b.defers
  size : a.tmps.size = b.tmps.size
  slots : ∀ d, (∀ i, i ∈ free → ∀ o, full[i]? = some o → o.dst = some d → l.getD i false = true) → a.tmps[d]? = b.tmps[d]?
theorem Ag.whole {free : List Nat} {l : Array Bool} {a b : Act} (h : Ag full free l a b) (hl : ∀ i, i < full.size → l.getD i false = true) : a = b := by
  obtain ⟨t, df⟩ := a
  obtain ⟨t', df'⟩ := b
  have h1 := h.defers
  have h2 : t = t' := by
    apply Array.ext_getElem?
    intro d
    exact h.slots d (fun i _ o ho _ => hl i (Array.getElem?_eq_some_iff.1 ho).1)
  simp only at h1 h2
  rw [h1, h2]
/-- The free operations, each with its slot and its value. -/
def FreeOk (P : Program) (full : Array Oper) (S : World → Prop) (b : Act) : List Nat → List (Nat × Value) → Prop
  | i :: r, (d, v) :: s => (∃ o, full[i]? = some o ∧ o.dst = some d ∧ b.tmps[d]? = some v ∧ ∀ w, S w → (execOp b.eval o).run P w = .ok (.value v) w) ∧ FreeOk P full S b r s
  | [], [] => True
  | _, _ => False
theorem FreeOk.at {b : Act} : ∀ {f : List Nat} {s : List (Nat × Value)}, FreeOk P full S b f s → ∀ {i : Nat}, i ∈ f → ∃ o d v, full[i]? = some o ∧ o.dst = some d ∧ (d, v) ∈ s ∧ b.tmps[d]? = some v ∧ ∀ w, S w → (execOp b.eval o).run P w = .ok (.value v) w
  | [], _, _, i, h => by cases h
  | j :: f, [], h, _, _ => by cases h
  | j :: f, (d, v) :: s, h, i, hi => by
    rcases List.mem_cons.1 hi with e | hi
    · subst e
      obtain ⟨o, h1, h2, h3, h4⟩ := h.1
      exact ⟨o, d, v, h1, h2, by simp, h3, h4⟩
    · obtain ⟨o, d', v', h1, h2, h3, h4, h5⟩ := h.2.at hi
      exact ⟨o, d', v', h1, h2, by simp [h3], h4, h5⟩
end
end Rg
end Go.Proofs.Ytidicdlfjdlpnaa
end
section
namespace Go.Proofs.Ytidicdlfjdlpnaa
open Go.RowKit
namespace Rg
/-- All that was there is as it was, but block g. -/
structure Kp (g : Nat) (w w' : World) : Prop where
  os : w'.os = w.os
  tape : w'.tape = w.tape
  output : w'.output = w.output
  size : w.heap.size ≤ w'.heap.size
  block : ∀ k, k < w.heap.size → k ≠ g → w'.heap[k]? = w.heap[k]?
theorem Kp.refl (g : Nat) (w : World) : Kp g w w := ⟨rfl, rfl, rfl, Nat.le_refl _, fun _ _ _ => rfl⟩
theorem Kp.trans {g : Nat} {a b c : World} (h : Kp g a b) (k : Below b.heap.size b c) : Kp g a c :=
  ⟨k.os.trans h.os, k.tape.trans h.tape, k.output.trans h.output, Nat.le_trans h.size k.size, fun i hi hg => (k.block i (Nat.lt_of_lt_of_le hi h.size)).trans (h.block i hi hg)⟩
theorem heap_setCells (g : Nat) (k : Nat) (hk : k ≠ g) : ∀ (vs : List Value) (o : Nat) (w : World), (w.setCells g o vs).heap[k]? = w.heap[k]?
  | [], _, _ => rfl
  | v :: r, o, w => by
    rw [World.setCells, heap_setCells g k hk r, Below.heap_setCell _ _ _ _ hk]
theorem Kp.put {g b off : Nat} {vs : List Value} {a w : World} (h : Kp g a w) (hb : b = g ∨ a.heap.size ≤ b) : Kp g a (w.setCells b off vs) := by
  have hB := below_setCells (B := 0) (w0 := w) b (Nat.zero_le _) vs off w (Below.refl _ _)
  refine ⟨hB.os.trans h.os, hB.tape.trans h.tape, hB.output.trans h.output, by rw [size_setCells]; exact h.size, fun k hk hg => ?_⟩
  rw [heap_setCells b k (by rcases hb with e | e <;> omega) vs off w]
  exact h.block k hk hg
theorem Below.kp {B g : Nat} {a w w' : World} (h : Below B a w) (k : Kp g w w') (hg : B ≤ g) (hB : B ≤ w.heap.size) : Below B a w' :=
  ⟨k.os.trans h.os, k.tape.trans h.tape, k.output.trans h.output, Nat.le_trans h.size k.size, fun i hi => (k.block i (Nat.lt_of_lt_of_le hi hB) (by omega)).trans (h.block i hi)⟩
theorem Blk.kp {g b : Nat} {cs : List Value} {w w' : World} (h : Blk w b cs) (k : Kp g w w') (hb : b < w.heap.size) (hg : b ≠ g) : Blk w' b cs := fun j v hv => by
  have e := k.block b hb hg
  exact ⟨by rw [World.cell?_of_block (w := w) (a := ⟨b, j, none⟩) e]; exact (h j v hv).1, by rw [World.frozen?_of_block (w := w) (a := ⟨b, j, none⟩) e]; exact (h j v hv).2⟩
theorem Mm.change {w w' : World} {l : List (Nat × List Value)} (h : Mm w l) (k : Nat) {g : Nat} {cs cs' : List Value} (hk : l[k]? = some (g, cs)) (hp : Kp g w w') (hn : Mm w' [(g, cs')]) : Mm w' (l.set k (g, cs')) := by
  have hkl : k < l.length := (List.getElem?_eq_some_iff.1 hk).1
  have hke : l[k] = (g, cs) := (List.getElem?_eq_some_iff.1 hk).2
  have hpw := List.pairwise_iff_getElem.1 h.nd
  refine ⟨fun p hp2 => ?_, ?_⟩
  · obtain ⟨j, hj, e⟩ := List.getElem_of_mem hp2
    rw [List.getElem_set] at e
    have hj' : j < l.length := by simpa using hj
    split at e
    · subst e
      exact hn.blk _ (List.mem_singleton.2 rfl)
    · rename_i hne
      subst e
      have hb := h.blk _ (List.getElem_mem hj')
      refine ⟨Nat.lt_of_lt_of_le hb.1 hp.size, Blk.kp hb.2 hp hb.1 ?_⟩
      rcases Nat.lt_or_ge j k with h' | h'
      · have := hpw j k hj' hkl h'
        rw [hke] at this
        exact this
      · have := hpw k j hkl hj' (by omega)
        rw [hke] at this
        exact this.symm
  · refine List.pairwise_iff_getElem.2 fun i j hi hj hij => ?_
    have hi' : i < l.length := by simpa using hi
    have hj' : j < l.length := by simpa using hj
    have := hpw i j hi' hj' hij
    rw [List.getElem_set, List.getElem_set]
    split
    · rename_i e1
      subst e1
      rw [if_neg (by omega)]
      rw [hke] at this
      exact this
    · split
      · rename_i e2
        subst e2
        rw [hke] at this
        exact this
      · exact this
theorem Mm.two {w : World} {l : List (Nat × List Value)} (h : Mm w l) (i j : Nat) {p q : Nat × List Value} (hi : l[i]? = some p) (hj : l[j]? = some q) (hij : i ≠ j) : Mm w [p, q] := by
  have hpw := List.pairwise_iff_getElem.1 h.nd
  obtain ⟨hi1, hi2⟩ := List.getElem?_eq_some_iff.1 hi
  obtain ⟨hj1, hj2⟩ := List.getElem?_eq_some_iff.1 hj
  have hne : p.1 ≠ q.1 := by
    rcases Nat.lt_or_ge i j with h' | h'
    · have := hpw i j hi1 hj1 h'
      rw [hi2, hj2] at this
      exact this
    · have := hpw j i hj1 hi1 (by omega)
      rw [hi2, hj2] at this
      exact this.symm
  refine ⟨fun r hr => ?_, ?_⟩
  · simp only [List.mem_cons, List.not_mem_nil, or_false] at hr
    rcases hr with e | e
    · rw [e]; exact h.blk p (List.mem_of_getElem? hi)
    · rw [e]; exact h.blk q (List.mem_of_getElem? hj)
  · exact List.Pairwise.cons (fun r hr => by rw [List.mem_singleton.1 hr]; exact hne) (List.pairwise_singleton _ _)
theorem growK {ks : List Kind} {q : Nat} {w₀ w w' : World} {l : Array Bool} {γ : Nat → Nat} {L : List (Nat × List Value)} (H : Hid (Mm w L ∧ Kp q w₀ w)) (h : Mem ks w l γ w') {p : Nat} (hp : ks.length ≤ p) (hl : ∀ i, i < p → l.getD i false = true)
    (is : List Nat) (ha : (is.all fun i => (fresh ks i).isSome) = true) (hn : is.Pairwise (· ≠ ·)) : Hid (Mm w' (is.map (fun i => (γ i, fin ks i)) ++ L) ∧ Kp q w₀ w') :=
  ⟨H.out.1.grow h hp hl is ha hn, H.out.2.trans h.below⟩
theorem ownK {ks : List Kind} {q : Nat} {w₀ w w' : World} {l : Array Bool} {γ : Nat → Nat} {L : List (Nat × List Value)} (H : Hid (Mm w L ∧ Kp q w₀ w)) (h : Mem ks w l γ w') {p : Nat} (hp : ks.length ≤ p) (hl : ∀ i, i < p → l.getD i false = true) {i : Nat} (hi : (fresh ks i).isSome = true) : Hid (w₀.heap.size ≤ γ i) :=
  Nat.le_trans H.out.2.size (h.fin hp hl hi).2.1
end Rg
end Go.Proofs.Ytidicdlfjdlpnaa
end
section
namespace Go.Proofs.Ytidicdlfjdlpnaa
open Go.RowKit
namespace Rg
section
variable {P : Program} {ops : Array Oper} {ks : List Kind} {a₀ : Act} {w₀ : World} {Q : Exit → Act → World → Prop}
/-- An operation that the store need not wait for: it tells its value behind it. -/
def LateAt (P : Program) (ops : Array Oper) (ks : List Kind) (a : Act) (w : World) : List Nat → Prop
  | [] => True
  | i :: r => (∃ o v, ops[i]? = some o ∧ ks[i]? = some (.quiet v) ∧ Region.wanted o (yielded ops a.tmps) = true ∧ (execOp a.eval o).run P w = .ok (.value v) w) ∧ LateAt P ops ks a w r
theorem LateAt.at {a : Act} {w : World} : ∀ {late : List Nat}, LateAt P ops ks a w late → ∀ {i : Nat}, i ∈ late → ∃ o v, ops[i]? = some o ∧ ks[i]? = some (.quiet v) ∧ Region.wanted o (yielded ops a.tmps) = true ∧ (execOp a.eval o).run P w = .ok (.value v) w
  | [], _, _, h => by cases h
  | j :: r, hl, i, h => by
    rcases List.mem_cons.1 h with e | h
    · subst e; exact hl.1
    · exact hl.2.at h
end
end Rg
end Go.Proofs.Ytidicdlfjdlpnaa
end
section
namespace Go.Proofs.Ytidicdlfjdlpnaa
open Go.RowKit
namespace Rg
section
variable {P : Program} {ops : Array Oper} {a₀ : Act} {Q : Exit → Act → World → Prop}
/-- Others than the first one do not hang on what it will answer. -/
theorem Agree.other {n : Nat} {v v' : Value} {qs : List Kind} (hO : Orderly ops (.call v :: qs) n) (hO' : Orderly ops (.call v' :: qs) n) (hn : n = a₀.tmps.size) {l : Array Bool} {γ : Nat → Nat} {a : Act} (h : Agree ops (.call v :: qs) a₀ l γ a) (h0 : l.getD 0 false = false) : Agree ops (.call v' :: qs) a₀ l γ a := by
  refine ⟨h.defers, h.size, fun d hd => ?_⟩
  rw [h.slots d hd]
  by_cases hw : ∃ (j : Nat) (oj : Oper), ops[j]? = some oj ∧ oj.dst = some d
  · obtain ⟨j, oj, hj, hdj⟩ := hw
    have hl := hd j oj hj hdj
    cases j with
    | zero => rw [h0] at hl; cases hl
    | succ j =>
      obtain ⟨kj, hkj⟩ := kind_at hO hj
      have hkj' : (Kind.call v' :: qs)[j + 1]? = some kj := by simpa using hkj
      rw [fill_one hO hn γ hj hkj hdj, fill_one hO' hn γ hj hkj' hdj]
  · have hno : ∀ o' ∈ ops.toList, o'.dst ≠ some d := fun o' ho' hd' => by
      obtain ⟨j, hj, ej⟩ := List.getElem_of_mem ho'
      exact hw ⟨j, o', by rw [← Array.getElem?_toList, List.getElem?_eq_getElem hj, ej], hd'⟩
    rw [fill_other γ d 0 _ _ _ hno, fill_other γ d 0 _ _ _ hno]
end
end Rg
end Go.Proofs.Ytidicdlfjdlpnaa
end
