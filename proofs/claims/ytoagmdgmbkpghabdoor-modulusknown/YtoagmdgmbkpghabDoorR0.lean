/- Regions, whether they draw their order or not: what each of the first operations does is asked once, in no order; the rest is taken in its order. -/
import Derived.Test.YtoagmdgmbkpghabDoorB0
namespace Go.Proofs.YtoagmdgmbkpghabDoor
open Go.RowKit
namespace Rg

/-- What an operation of the region is: it tells a value and leaves the world; its guard shuts it out; it calls, and the answer is a value; it makes a block of these cells; it lays these cells into the block that operation j made of those; it calls, and the answer bears a new block of these cells. -/
def Kind : Type := ((Value)) ⊕ (Unit) ⊕ ((Value)) ⊕ ((List Value) × (TypeId)) ⊕ ((Nat) × (List Value) × (List Value)) ⊕ ((Nat → Value) × (List Value))
abbrev Kind.quiet (v : Value) : Kind := Sum.inl v
abbrev Kind.gone : Kind := Sum.inr (Sum.inl ())
abbrev Kind.call (v : Value) : Kind := Sum.inr (Sum.inr (Sum.inl v))
abbrev Kind.made (zs : List Value) (t : TypeId) : Kind := Sum.inr (Sum.inr (Sum.inr (Sum.inl (zs, t))))
abbrev Kind.laid (j : Nat) (zs : List Value) (cs : List Value) : Kind := Sum.inr (Sum.inr (Sum.inr (Sum.inr (Sum.inl (j, zs, cs)))))
abbrev Kind.born (v : Nat → Value) (cs : List Value) : Kind := Sum.inr (Sum.inr (Sum.inr (Sum.inr (Sum.inr (v, cs)))))
theorem Kind.each {M : Kind → Prop} (quiet : ∀ (v : Value), M (Kind.quiet v)) (gone : M Kind.gone) (call : ∀ (v : Value), M (Kind.call v)) (made : ∀ (zs : List Value) (t : TypeId), M (Kind.made zs t)) (laid : ∀ (j : Nat) (zs : List Value) (cs : List Value), M (Kind.laid j zs cs)) (born : ∀ (v : Nat → Value) (cs : List Value), M (Kind.born v cs)) (k : Kind) : M k := by
  rcases k with v | _ | v | ⟨x0, x1⟩ | ⟨x0, x1, x2⟩ | ⟨x0, x1⟩
  · exact quiet _
  · exact gone
  · exact call _
  · exact made _ _
  · exact laid _ _ _
  · exact born _ _
theorem Kind.laidInj {j j' : Nat} {zs zs' : List Value} {cs cs' : List Value} (h : Kind.laid j zs cs = Kind.laid j' zs' cs') : j = j' ∧ zs = zs' ∧ cs = cs' := by
  have h' := Sum.inl.inj (Sum.inr.inj (Sum.inr.inj (Sum.inr.inj (Sum.inr.inj h))))
  exact ⟨congrArg (fun x => x.1) h', congrArg (fun x => x.2.1) h', congrArg (fun x => x.2.2) h'⟩

/-- What lies in its slot behind it; γ i: the block that operation i made. -/
def Kind.val (γ : Nat → Nat) (i : Nat) : Kind → Value
  | (Sum.inl v) => v
  | (Sum.inr (Sum.inl ())) => undef
  | (Sum.inr (Sum.inr (Sum.inl v))) => v
  | (Sum.inr (Sum.inr (Sum.inr (Sum.inl (_, _))))) => .pointer (some ⟨γ i, 0, none⟩)
  | (Sum.inr (Sum.inr (Sum.inr (Sum.inr (Sum.inl (_, _, _)))))) => undef
  | (Sum.inr (Sum.inr (Sum.inr (Sum.inr (Sum.inr (v, _)))))) => v (γ i)
/-- The cells of a block that it makes. -/
def Kind.cells : Kind → Option (List Value)
  | (Sum.inr (Sum.inr (Sum.inr (Sum.inl (zs, _))))) => some zs
  | (Sum.inr (Sum.inr (Sum.inr (Sum.inr (Sum.inr (_, cs)))))) => some cs
  | _ => none
def fresh (ks : List Kind) (i : Nat) : Option (List Value) := (ks[i]?).bind Kind.cells

/-- The frame behind the region. -/
def fill (γ : Nat → Nat) : Nat → List Oper → List Kind → Act → Act
  | i, o :: os, k :: ks, a => fill γ (i + 1) os ks (a.put o.dst (k.val γ i))
  | _, _, _, a => a

theorem fill_size (γ : Nat → Nat) : ∀ (i : Nat) (os : List Oper) (ks : List Kind) (a : Act), (fill γ i os ks a).tmps.size = a.tmps.size
  | _, [], _, _ => rfl
  | _, _ :: _, [], _ => rfl
  | i, o :: os, k :: ks, a => by
    unfold fill
    rw [fill_size γ (i + 1) os ks, put_size]
theorem fill_defers (γ : Nat → Nat) : ∀ (i : Nat) (os : List Oper) (ks : List Kind) (a : Act), (fill γ i os ks a).defers = a.defers
  | _, [], _, _ => rfl
  | _, _ :: _, [], _ => rfl
  | i, o :: os, k :: ks, a => by
    unfold fill
    rw [fill_defers γ (i + 1) os ks, put_defers']
theorem fill_other (γ : Nat → Nat) (d : Tmp) : ∀ (i : Nat) (os : List Oper) (ks : List Kind) (a : Act), (∀ o ∈ os, o.dst ≠ some d) → (fill γ i os ks a).tmps[d]? = a.tmps[d]?
  | _, [], _, _, _ => rfl
  | _, _ :: _, [], _, _ => rfl
  | i, o :: os, k :: ks, a, h => by
    unfold fill
    rw [fill_other γ d (i + 1) os ks _ (fun o' ho => h o' (List.mem_cons_of_mem _ ho)), put_other _ _ _ _ (h o (List.mem_cons_self ..))]
theorem fill_at (γ : Nat → Nat) (d : Tmp) (o : Oper) (k : Kind) (hd : o.dst = some d) : ∀ (j i : Nat) (os : List Oper) (ks : List Kind) (a : Act), os[j]? = some o → ks[j]? = some k → d < a.tmps.size →
    (∀ j' o', j < j' → os[j']? = some o' → o'.dst ≠ some d) → (fill γ i os ks a).tmps[d]? = some (k.val γ (i + j))
  | _, _, [], _, _, h, _, _, _ => by simp at h
  | _, _, _ :: _, [], _, _, h, _, _ => by simp at h
  | 0, i, o' :: os, k' :: ks, a, ho, hk, hs, hl => by
    simp at ho hk
    subst ho hk
    unfold fill
    rw [fill_other γ d (i + 1) os ks _ (fun o2 ho2 => ?_), hd, put_same _ _ _ hs]
    · rfl
    · obtain ⟨m, hm, e⟩ := List.getElem_of_mem ho2
      exact hl (m + 1) o2 (by omega) (by rw [List.getElem?_cons_succ, List.getElem?_eq_getElem hm, e])
  | j + 1, i, o' :: os, k' :: ks, a, ho, hk, hs, hl => by
    unfold fill
    rw [fill_at γ d o k hd j (i + 1) os ks _ (by simpa using ho) (by simpa using hk) (by rw [put_size]; exact hs) (fun j' o2 h1 h2 => hl (j' + 1) o2 (by omega) (by simpa using h2))]
    rw [show i + 1 + j = i + (j + 1) by omega]

section
variable {P : Program} {ops : Array Oper} {ks : List Kind} {a₀ : Act} {w₀ : World} {Q : Exit → Act → World → Prop}

/-- What is known of the memory when the operations l have come up. -/
structure Mem (ks : List Kind) (w₀ : World) (l : Array Bool) (γ : Nat → Nat) (w : World) : Prop where
  below : Below w₀.heap.size w₀ w
  made : ∀ i zs, fresh ks i = some zs → l.getD i false = true → w₀.heap.size ≤ γ i ∧ γ i < w.heap.size
  raw : ∀ i zs, fresh ks i = some zs → l.getD i false = true → (∀ s zs' cs, ks[s]? = some (.laid i zs' cs) → l.getD s false = false) → Blk w (γ i) zs
  full : ∀ s i zs cs, ks[s]? = some (.laid i zs cs) → l.getD s false = true → Blk w (γ i) cs ∧ γ i < w.heap.size
  order : ∀ s i zs cs, ks[s]? = some (.laid i zs cs) → l.getD s false = true → l.getD i false = true
  apart : ∀ i j zs zs', fresh ks i = some zs → fresh ks j = some zs' → l.getD i false = true → l.getD j false = true → i ≠ j → γ i ≠ γ j

/-- What is to be shown of an operation. -/
def KindOk (P : Program) (ops : Array Oper) (S : World → Prop) (F : (Nat → Nat) → Act) (o : Oper) : Kind → Prop
  | (Sum.inl v) => ∀ γ, Region.wanted o (yielded ops (F γ).tmps) = true ∧ ∀ w, S w → (execOp (F γ).eval o).run P w = .ok (.value v) w
  | (Sum.inr (Sum.inl ())) => ∀ γ, Region.wanted o (yielded ops (F γ).tmps) = false
  | (Sum.inr (Sum.inr (Sum.inl v))) => ∀ γ, Region.wanted o (yielded ops (F γ).tmps) = true ∧ ∀ w, S w → ∃ f args, (execOp (F γ).eval o).run P w = .ok (.enter f args) w ∧ Calls P f args w (fun e w' => e = .returned v ∧ Below w.heap.size w w')
  | (Sum.inr (Sum.inr (Sum.inr (Sum.inl (zs, t))))) => ∀ γ, Region.wanted o (yielded ops (F γ).tmps) = true ∧ ∀ w, (execOp (F γ).eval o).run P w = .ok (.value (.pointer (some ⟨w.heap.size, 0, none⟩))) (w.alloc (.cells zs.toArray t))
  | (Sum.inr (Sum.inr (Sum.inr (Sum.inr (Sum.inr (v, cs)))))) => ∀ γ, Region.wanted o (yielded ops (F γ).tmps) = true ∧ ∀ w, S w → ∃ f args, (execOp (F γ).eval o).run P w = .ok (.enter f args) w ∧ Calls P f args w (fun e w' => Below w.heap.size w w' ∧ ∃ g, e = .returned (v g) ∧ w.heap.size ≤ g ∧ g < w'.heap.size ∧ Blk w' g cs)
  | (Sum.inr (Sum.inr (Sum.inr (Sum.inr (Sum.inl (j, zs, cs)))))) => ∀ γ, Region.wanted o (yielded ops (F γ).tmps) = true ∧ o.dst = none ∧ zs.length = cs.length ∧ ∀ w, Blk w (γ j) zs → (execOp (F γ).eval o).run P w = .ok .skip (w.setCells (γ j) 0 cs)
def AllOk (P : Program) (ops : Array Oper) (S : World → Prop) (F : (Nat → Nat) → Act) : List Oper → List Kind → Prop
  | o :: os, k :: ks => KindOk P ops S F o k ∧ AllOk P ops S F os ks
  | _, _ => True
theorem AllOk.at {S : World → Prop} {F : (Nat → Nat) → Act} : ∀ {os : List Oper} {ks : List Kind}, AllOk P ops S F os ks → ∀ {i : Nat} {o : Oper} {k : Kind}, os[i]? = some o → ks[i]? = some k → KindOk P ops S F o k
  | [], _, _, _, _, _, h, _ => by simp at h
  | _ :: _, [], _, _, _, _, _, h => by simp at h
  | o' :: os, k' :: ks, h, 0, o, k, ho, hk => by simp at ho hk; subst ho hk; exact h.1
  | o' :: os, k' :: ks, h, i + 1, o, k, ho, hk => AllOk.at (os := os) (ks := ks) h.2 (by simpa using ho) (by simpa using hk)

/-- The region is such that what it says of the order suffices: nobody waits for a later one; every slot is there; who looks at a slot waits for all that write it; no slot is written twice; who lays cells waits for the block's maker, and nobody else lays there. -/
def orderly (ops : Array Oper) (ks : List Kind) (n : Nat) : Bool :=
  Region.noSelect ops && ks.length == ops.size &&
  eachOp ops (fun i o => o.after.all fun e => !Region.binds .any e || decide (e.on < i)) &&
  eachOp ops (fun _ o => match o.dst with | none => true | some d => decide (d < n)) &&
  eachOp ops (fun _ o => (o.looksAt ops).all fun d => eachOp ops fun j oj => oj.dst != some d || waits o j) &&
  eachOp ops (fun i o => match o.dst with | none => true | some d => eachOp ops fun j oj => j == i || oj.dst != some d) &&
  eachOp ops (fun i o => match ks[i]? with | some ((Sum.inr (Sum.inr (Sum.inr (Sum.inr (Sum.inl (j, _, _))))))) => waits o j && eachOp ops fun s _ => s == i || (match ks[s]? with | some ((Sum.inr (Sum.inr (Sum.inr (Sum.inr (Sum.inl (j', _, _))))))) => j' != j | _ => true) | _ => true)
structure Orderly (ops : Array Oper) (ks : List Kind) (n : Nat) : Prop where
  noSelect : Region.noSelect ops = true
  size : ks.length = ops.size
  up : ∀ {i : Nat} {o : Oper}, ops[i]? = some o → ∀ e ∈ o.after, Region.binds .any e = true → e.on < i
  dst : ∀ {i : Nat} {o : Oper} {d : Tmp}, ops[i]? = some o → o.dst = some d → d < n
  looks : ∀ {i : Nat} {o : Oper} {d : Tmp} {j : Nat} {oj : Oper}, ops[i]? = some o → d ∈ o.looksAt ops → ops[j]? = some oj → oj.dst = some d → waits o j = true
  once : ∀ {i : Nat} {o : Oper} {d : Tmp} {j : Nat} {oj : Oper}, ops[i]? = some o → o.dst = some d → ops[j]? = some oj → oj.dst = some d → j = i
  laid : ∀ {i : Nat} {o : Oper} {j : Nat} {zs cs : List Value}, ops[i]? = some o → ks[i]? = some (.laid j zs cs) → waits o j = true
  lone : ∀ {i : Nat} {o : Oper} {j : Nat} {zs cs : List Value} {s : Nat} {zs' cs' : List Value}, ops[i]? = some o → ks[i]? = some (.laid j zs cs) → ks[s]? = some (.laid j zs' cs') → s = i
theorem Orderly.of {n : Nat} (h : orderly ops ks n = true) : Orderly ops ks n := by
  unfold orderly at h
  simp only [Bool.and_eq_true] at h
  obtain ⟨⟨⟨⟨⟨⟨h1, h2⟩, h3⟩, h4⟩, h5⟩, h6⟩, h7⟩ := h
  have hsz : ks.length = ops.size := by simpa using h2
  refine ⟨h1, hsz, ?_, ?_, ?_, ?_, ?_, ?_⟩
  · intro i o ho e he hb
    have := eachOp_spec h3 ho
    have := Array.all_eq_true_iff_forall_mem.1 this e he
    simpa [hb] using this
  · intro i o d ho hd
    have := eachOp_spec h4 ho
    rw [hd] at this
    simpa using this
  · intro i o d j oj ho hd hj hdj
    have := eachOp_spec (List.all_eq_true.1 (eachOp_spec h5 ho) d hd) hj
    simpa [hdj] using this
  · intro i o d j oj ho hd hj hdj
    have := eachOp_spec h6 ho
    rw [hd] at this
    have := eachOp_spec this hj
    simpa [hdj] using this
  · intro i o j zs cs ho hk
    have := eachOp_spec h7 ho
    rw [hk] at this
    simp only [Bool.and_eq_true] at this
    exact this.1
  · intro i o j zs cs s zs' cs' ho hk hs
    have := eachOp_spec h7 ho
    rw [hk] at this
    simp only [Bool.and_eq_true] at this
    have hlt : s < ops.size := by rw [← hsz]; exact (List.getElem?_eq_some_iff.1 hs).1
    have := eachOp_spec this.2 (Array.getElem?_eq_getElem hlt)
    rw [hs] at this
    simpa using this
def LaidOk (all : List Kind) : List Kind → Prop
  | [] => True
  | (Sum.inr (Sum.inr (Sum.inr (Sum.inr (Sum.inl (j, zs, _)))))) :: r => (∃ t, all[j]? = some (.made zs t)) ∧ LaidOk all r
  | _ :: r => LaidOk all r
theorem LaidOk.at {all : List Kind} : ∀ {r : List Kind}, LaidOk all r → ∀ {s j : Nat} {zs cs : List Value}, r[s]? = some (.laid j zs cs) → ∃ t, all[j]? = some (.made zs t)
  | [], _, _, _, _, _, h => by simp at h
  | k :: r, hl, 0, j, zs, cs, h => by
    simp at h
    subst h
    exact hl.1
  | k :: r, hl, s + 1, j, zs, cs, h => by
    have hr : LaidOk all r := by
      cases k using Kind.each <;> first | exact hl | exact hl.2
    exact hr.at (s := s) (by simpa using h)
structure Agree (ops : Array Oper) (ks : List Kind) (a₀ : Act) (l : Array Bool) (γ : Nat → Nat) (a : Act) : Prop where
  defers : a.defers = a₀.defers
  size : a.tmps.size = a₀.tmps.size
  slots : ∀ d, (∀ i o, ops[i]? = some o → o.dst = some d → l.getD i false = true) → a.tmps[d]? = (fill γ 0 ops.toList ks a₀).tmps[d]?

theorem kind_at {n : Nat} (hO : Orderly ops ks n) {i : Nat} {o : Oper} (ho : ops[i]? = some o) : ∃ k, ks[i]? = some k := by
  have hi : i < ops.size := (Array.getElem?_eq_some_iff.1 ho).1
  exact ⟨_, List.getElem?_eq_getElem (by rw [hO.size]; exact hi)⟩
theorem fill_one {n : Nat} (hO : Orderly ops ks n) (hn : n = a₀.tmps.size) (γ : Nat → Nat) {i : Nat} {o : Oper} {k : Kind} {d : Tmp} (ho : ops[i]? = some o) (hk : ks[i]? = some k) (hd : o.dst = some d) :
    (fill γ 0 ops.toList ks a₀).tmps[d]? = some (k.val γ i) := by
  have := fill_at γ d o k hd i 0 ops.toList ks a₀ (by simpa using ho) hk (by rw [← hn]; exact hO.dst ho hd) (fun j' o' hlt ho' hd' => by
    have := hO.once ho hd (by simpa using ho' : ops[j']? = some o') hd'
    omega)
  rw [Nat.zero_add] at this
  exact this
theorem Agree.step {n : Nat} (hO : Orderly ops ks n) (hn : n = a₀.tmps.size) {l : Array Bool} {γ γ' : Nat → Nat} {a : Act} (h : Agree ops ks a₀ l γ a) {i : Nat} {o : Oper} {k : Kind} (ho : ops[i]? = some o) (hk : ks[i]? = some k)
    (hγ : ∀ j, j ≠ i → γ' j = γ j) : Agree ops ks a₀ (l.setIfInBounds i true) γ' (a.put o.dst (k.val γ' i)) := by
  refine ⟨by rw [put_defers']; exact h.defers, by rw [put_size]; exact h.size, fun d hd => ?_⟩
  by_cases e : o.dst = some d
  · rw [fill_one hO hn γ' ho hk e, e, put_same _ _ _ (by rw [h.size, ← hn]; exact hO.dst ho e)]
  · rw [put_other _ _ _ _ e, h.slots d (fun j oj hj hdj => by
      have hne : i ≠ j := fun he => by subst he; rw [ho] at hj; injection hj with hj; subst hj; exact e hdj
      have := hd j oj hj hdj
      rw [getD_set_ne false hne] at this
      exact this)]
    by_cases hw : ∃ (j : Nat) (oj : Oper), ops[j]? = some oj ∧ oj.dst = some d
    · obtain ⟨j, oj, hj, hdj⟩ := hw
      obtain ⟨kj, hkj⟩ := kind_at hO hj
      have hne : j ≠ i := fun he => by subst he; rw [ho] at hj; injection hj with hj; subst hj; exact e hdj
      rw [fill_one hO hn γ hj hkj hdj, fill_one hO hn γ' hj hkj hdj]
      unfold Kind.val
      rw [hγ j hne]
    · have hno : ∀ o' ∈ ops.toList, o'.dst ≠ some d := fun o' ho' hd' => by
        obtain ⟨j, hj, ej⟩ := List.getElem_of_mem ho'
        exact hw ⟨j, o', by rw [← Array.getElem?_toList, List.getElem?_eq_getElem hj, ej], hd'⟩
      rw [fill_other γ d 0 _ _ _ hno, fill_other γ' d 0 _ _ _ hno]
/-- An operation that may come up sees what it will have seen in the end. -/
theorem Agree.sees {n : Nat} (hO : Orderly ops ks n) {l : Array Bool} {γ : Nat → Nat} {a : Act} (h : Agree ops ks a₀ l γ a) {i : Nat} {o : Oper} (ho : ops[i]? = some o)
    (hl : ∀ e ∈ o.after, Region.binds .any e = true → l.getD e.on false = true) :
    execOp a.eval o = execOp (fill γ 0 ops.toList ks a₀).eval o ∧ Region.wanted o (yielded ops a.tmps) = Region.wanted o (yielded ops (fill γ 0 ops.toList ks a₀).tmps) := by
  have hs : ∀ d ∈ o.looksAt ops, a.tmps[d]? = (fill γ 0 ops.toList ks a₀).tmps[d]? := fun d hd =>
    h.slots d (fun j oj hj hdj => waits_spec (hO.looks ho hd hj hdj) hl)
  refine ⟨execOp_congr o (fun cs b => Region.noSelect_spec hO.noSelect i o cs b ho) (fun x hx => ?_), ?_⟩
  · cases x with
    | tmp t =>
      have := hs t (List.mem_append_left _ (List.mem_filterMap.2 ⟨.tmp t, by simpa using hx, rfl⟩))
      simp only [Act.eval, Array.getD_eq_getD_getElem?, this]
    | _ => rfl
  · unfold Region.wanted
    cases hg : o.guard with
    | none => rfl
    | some gw =>
      obtain ⟨g, want⟩ := gw
      have hy : yielded ops a.tmps g = yielded ops (fill γ 0 ops.toList ks a₀).tmps g := by
        unfold yielded
        cases ht : (ops[g]?).bind (·.dst) with
        | none => rfl
        | some t =>
          have := hs t (by simp [Oper.looksAt, hg, ht])
          simp only [Option.bind_some, this]
      simp only [hy]
theorem all_listed {n : Nat} (hO : Orderly ops ks n) {l : Array Bool} (hsz : l.size = ops.size) (hr : Region.ready .any ops l = []) : ∀ i, i < ops.size → l.getD i false = true := by
  intro i
  induction i using Nat.strongRecOn with
  | _ i ih =>
    intro hi
    have hi' : i < l.size := by omega
    cases hl : l.getD i true with
    | true => simpa [hi'] using hl
    | false =>
      exfalso
      have : i ∈ Region.ready .any ops l := mem_ready.2 ⟨hl, ops[i], Array.getElem?_eq_getElem hi, fun e he hb => by
        have h1 := hO.up (Array.getElem?_eq_getElem hi) e he hb
        exact ih e.on h1 (by omega)⟩
      rw [hr] at this
      cases this
theorem Agree.whole {l : Array Bool} {γ : Nat → Nat} {a : Act} (h : Agree ops ks a₀ l γ a) (hl : ∀ i, i < ops.size → l.getD i false = true) : a = fill γ 0 ops.toList ks a₀ := by
  have ht : a.tmps = (fill γ 0 ops.toList ks a₀).tmps := Array.ext_getElem? fun d =>
    h.slots d (fun i o ho _ => hl i (Array.getElem?_eq_some_iff.1 ho).1)
  have hd : a.defers = (fill γ 0 ops.toList ks a₀).defers := by rw [h.defers, fill_defers]
  cases a
  cases hf : fill γ 0 ops.toList ks a₀
  rw [hf] at ht hd
  simp only at ht hd
  rw [ht, hd]

/-! The memory, step by step. -/
theorem fresh_of {ks : List Kind} {i : Nat} {k : Kind} (hk : ks[i]? = some k) : fresh ks i = k.cells := by unfold fresh; rw [hk]; rfl
theorem Mem.still {l : Array Bool} {γ : Nat → Nat} {w w' : World} (h : Mem ks w₀ l γ w) (hb : Below w.heap.size w w') {i : Nat} {k : Kind} (hk : ks[i]? = some k) (h1 : k.cells = none) (h2 : ∀ j zs cs, k ≠ .laid j zs cs) :
    Mem ks w₀ (l.setIfInBounds i true) γ w' := by
  have ne1 : ∀ j zs, fresh ks j = some zs → i ≠ j := fun j zs hj he => by subst he; rw [fresh_of hk, h1] at hj; cases hj
  have ne2 : ∀ s j zs cs, ks[s]? = some (.laid j zs cs) → i ≠ s := fun s j zs cs hj he => by subst he; rw [hk] at hj; injection hj with hj; exact h2 _ _ _ hj
  refine ⟨h.below.trans (hb.mono h.below.size), ?_, ?_, ?_, ?_, ?_⟩
  · intro j zs hj hl
    rw [getD_set_ne false (ne1 j zs hj)] at hl
    obtain ⟨x, y⟩ := h.made j zs hj hl
    exact ⟨x, Nat.lt_of_lt_of_le y hb.size⟩
  · intro j zs hj hl hs
    rw [getD_set_ne false (ne1 j zs hj)] at hl
    exact (h.raw j zs hj hl (fun s zs' cs hs' => by have := hs s zs' cs hs'; rwa [getD_set_ne false (ne2 s j zs' cs hs')] at this)).below hb (h.made j zs hj hl).2
  · intro s j zs cs hs hl
    rw [getD_set_ne false (ne2 s j zs cs hs)] at hl
    exact ⟨(h.full s j zs cs hs hl).1.below hb (h.full s j zs cs hs hl).2, Nat.lt_of_lt_of_le (h.full s j zs cs hs hl).2 hb.size⟩
  · intro s j zs cs hs hl
    rw [getD_set_ne false (ne2 s j zs cs hs)] at hl
    exact getD_true (h.order s j zs cs hs hl)
  · intro x y zs zs' hx hy hlx hly hne
    rw [getD_set_ne false (ne1 x zs hx)] at hlx
    rw [getD_set_ne false (ne1 y zs' hy)] at hly
    exact h.apart x y zs zs' hx hy hlx hly hne
theorem Mem.make {l : Array Bool} {γ : Nat → Nat} {w w' : World} (h : Mem ks w₀ l γ w) {i : Nat} {k : Kind} {zs : List Value} (hk : ks[i]? = some k) (hc : k.cells = some zs) (h2 : ∀ j zs cs, k ≠ .laid j zs cs) (hun : l.getD i true = false)
    (hb : Below w.heap.size w w') {g : Nat} (hg1 : w.heap.size ≤ g) (hg2 : g < w'.heap.size) (hg3 : Blk w' g zs) :
    Mem ks w₀ (l.setIfInBounds i true) (fun j => if j = i then g else γ j) w' := by
  obtain ⟨hf, _⟩ := getD_same hun
  have ne2 : ∀ s j zs cs, ks[s]? = some (.laid j zs cs) → i ≠ s := fun s j zs cs hj he => by subst he; rw [hk] at hj; injection hj with hj; exact h2 _ _ _ hj
  have hsz := h.below.size
  have hsz2 := hb.size
  refine ⟨h.below.trans (hb.mono h.below.size), ?_, ?_, ?_, ?_, ?_⟩
  · intro j zs' hj hl
    by_cases e : j = i
    · simp only [if_pos e]; omega
    · rw [getD_set_ne false (Ne.symm e)] at hl
      have := h.made j zs' hj hl
      simp only [if_neg e]
      omega
  · intro j zs' hj hl hs
    by_cases e : j = i
    · subst e
      rw [fresh_of hk, hc] at hj
      injection hj with hj
      subst hj
      simp only [if_pos]
      exact hg3
    · rw [getD_set_ne false (Ne.symm e)] at hl
      simp only [if_neg e]
      exact (h.raw j zs' hj hl (fun s z c hs' => by have := hs s z c hs'; rwa [getD_set_ne false (ne2 s j z c hs')] at this)).below hb (h.made j zs' hj hl).2
  · intro s j z c hs hl
    rw [getD_set_ne false (ne2 s j z c hs)] at hl
    have e : j ≠ i := fun he => by have := h.order s j z c hs hl; rw [he, hf] at this; cases this
    have := h.full s j z c hs hl
    simp only [if_neg e]
    exact ⟨this.1.below hb this.2, by omega⟩
  · intro s j z c hs hl
    rw [getD_set_ne false (ne2 s j z c hs)] at hl
    exact getD_true (h.order s j z c hs hl)
  · intro x y zs1 zs2 hx hy hlx hly hne
    by_cases ex : x = i
    · have ey : y ≠ i := fun he => hne (by rw [ex, he])
      rw [getD_set_ne false (Ne.symm ey)] at hly
      have := h.made y zs2 hy hly
      simp only [if_pos ex, if_neg ey]
      omega
    · rw [getD_set_ne false (Ne.symm ex)] at hlx
      by_cases ey : y = i
      · have := h.made x zs1 hx hlx
        simp only [if_pos ey, if_neg ex]
        omega
      · rw [getD_set_ne false (Ne.symm ey)] at hly
        simp only [if_neg ex, if_neg ey]
        exact h.apart x y zs1 zs2 hx hy hlx hly hne
theorem Mem.lay {n : Nat} (hO : Orderly ops ks n) (hL : LaidOk ks ks) {l : Array Bool} {γ : Nat → Nat} {w : World} (h : Mem ks w₀ l γ w) {s i : Nat} {o : Oper} {zs cs : List Value} (ho : ops[s]? = some o) (hk : ks[s]? = some (.laid i zs cs)) (hlen : zs.length = cs.length)
    (hun : l.getD s true = false) (hli : l.getD i false = true) : Blk w (γ i) zs ∧ Mem ks w₀ (l.setIfInBounds s true) γ (w.setCells (γ i) 0 cs) := by
  obtain ⟨hf, hset⟩ := getD_same hun
  obtain ⟨t, hmi0⟩ := hL.at hk
  have hmi : fresh ks i = some zs := fresh_of hmi0
  have ne1 : ∀ j zs, fresh ks j = some zs → s ≠ j := fun j zs hj he => by subst he; rw [fresh_of hk] at hj; cases hj
  have hraw : Blk w (γ i) zs := h.raw i zs hmi hli (fun s' z c hs' => by rw [hO.lone ho hk hs']; exact hf)
  refine ⟨hraw, below_setCells _ (h.made i zs hmi hli).1 _ _ _ h.below, ?_, ?_, ?_, ?_, ?_⟩
  · intro j zs' hj hl
    rw [getD_set_ne false (ne1 j zs' hj)] at hl
    rw [size_setCells]
    exact h.made j zs' hj hl
  · intro j zs' hj hl hs
    rw [getD_set_ne false (ne1 j zs' hj)] at hl
    have e : j ≠ i := fun he => by
      subst he
      have := hs s zs cs hk
      rw [hset] at this
      cases this
    refine (h.raw j zs' hj hl (fun s' z c hs' => ?_)).other (h.apart j i zs' zs hj hmi hl hli e)
    have := hs s' z c hs'
    cases hb : l.getD s' false with
    | false => rfl
    | true => rw [getD_true hb] at this; exact this
  · intro s' j z c hs' hl
    rw [size_setCells]
    by_cases e : s' = s
    · subst e
      rw [hk] at hs'
      injection hs' with hs'
      obtain ⟨e1, e2, e3⟩ := Kind.laidInj hs'
      subst e1 e2 e3
      exact ⟨hraw.laid hlen, (h.made i zs hmi hli).2⟩
    · rw [getD_set_ne false (Ne.symm e)] at hl
      have hj : j ≠ i := fun he => by
        subst he
        exact e (hO.lone ho hk hs')
      obtain ⟨t', hmj0⟩ := hL.at hs'
      have hmj : fresh ks j = some z := fresh_of hmj0
      have := h.full s' j z c hs' hl
      exact ⟨this.1.other (h.apart j i z zs hmj hmi (h.order s' j z c hs' hl) hli hj), this.2⟩
  · intro s' j z c hs' hl
    by_cases e : s' = s
    · subst e
      rw [hk] at hs'
      injection hs' with hs'
      obtain ⟨e1, _, _⟩ := Kind.laidInj hs'
      subst e1
      exact getD_true hli
    · rw [getD_set_ne false (Ne.symm e)] at hl
      exact getD_true (h.order s' j z c hs' hl)
  · intro x y zs1 zs2 hx hy hlx hly hne
    rw [getD_set_ne false (ne1 x zs1 hx)] at hlx
    rw [getD_set_ne false (ne1 y zs2 hy)] at hly
    exact h.apart x y zs1 zs2 hx hy hlx hly hne


/-- One of the first operations. -/
theorem kind_step {full : Array Oper} {n p : Nat} (hO : Orderly ops ks n) (hn : n = a₀.tmps.size) (hL : LaidOk ks ks) {S : World → Prop} (hS : ∀ w, Below w₀.heap.size w₀ w → S w)
    (hfull : ∀ i, i < p → full[i]? = ops[i]?) (hgd : ∀ {i : Nat} {o : Oper} {g : Nat} {b : Bool}, ops[i]? = some o → o.guard = some (g, b) → g < p)
    (hops : AllOk P ops S (fun γ => fill γ 0 ops.toList ks a₀) ops.toList ks) {K : Act → World → Prop} {l : Array Bool} {γ : Nat → Nat} {a : Act} {w : World} (hA : Agree ops ks a₀ l γ a) (hM : Mem ks w₀ l γ w)
    {i : Nat} {o : Oper} (hip : i < p) (ho : ops[i]? = some o) (hun : l.getD i true = false) (hedge : ∀ e ∈ o.after, Region.binds .any e = true → l.getD e.on false = true)
    (hnext : ∀ γ' a' w', Agree ops ks a₀ (l.setIfInBounds i true) γ' a' → Mem ks w₀ (l.setIfInBounds i true) γ' w' → K a' w') : wpOp P full Q i K a w := by
  obtain ⟨k, hk⟩ := kind_at hO ho
  have hok := hops.at (by simpa using ho) hk
  obtain ⟨he, hw0⟩ := hA.sees hO ho hedge
  have hy : ∀ ts, Region.wanted o (yielded full ts) = Region.wanted o (yielded ops ts) := fun ts => by
    unfold Region.wanted
    cases hg : o.guard with
    | none => rfl
    | some gw =>
      obtain ⟨g, want⟩ := gw
      have : yielded full ts g = yielded ops ts g := by unfold yielded; rw [hfull g (hgd ho hg)]
      simp only [this]
  have hw : Region.wanted o (yielded full a.tmps) = Region.wanted o (yielded ops (fill γ 0 ops.toList ks a₀).tmps) := by rw [hy, hw0]
  have next : ∀ (γ' : Nat → Nat) (w' : World), (∀ j, j ≠ i → γ' j = γ j) → Mem ks w₀ (l.setIfInBounds i true) γ' w' → K (a.put o.dst (k.val γ' i)) w' := fun γ' w' hγ hM' =>
    hnext γ' _ w' (hA.step hO hn ho hk hγ) hM'
  refine wpOp_step (by rw [hfull i hip]; exact ho) (fun K' hK => ?_)
  rw [hw]
  cases k using Kind.each with
  | quiet v =>
    obtain ⟨h1, h2⟩ := hok γ
    rw [if_pos h1]
    unfold Oper.wp
    rw [he, h2 w (hS w hM.below)]
    exact hK _ _ (next γ w (fun _ _ => rfl) (hM.still (Below.refl _ _) hk rfl (fun _ _ _ h => by cases h)))
  | gone =>
    rw [if_neg (by rw [hok γ]; decide)]
    exact hK _ _ (next γ w (fun _ _ => rfl) (hM.still (Below.refl _ _) hk rfl (fun _ _ _ h => by cases h)))
  | call v =>
    obtain ⟨h1, h2⟩ := hok γ
    rw [if_pos h1]
    obtain ⟨f, args, h3, h4⟩ := h2 w (hS w hM.below)
    unfold Oper.wp
    rw [he, h3]
    refine Calls.mono h4 ?_
    rintro e w' ⟨rfl, hb⟩
    exact hK _ _ (next γ w' (fun _ _ => rfl) (hM.still hb hk rfl (fun _ _ _ h => by cases h)))
  | made zs t =>
    obtain ⟨h1, h2⟩ := hok γ
    rw [if_pos h1]
    unfold Oper.wp
    rw [he, h2 w]
    have := next _ _ (fun j hj => if_neg hj) (hM.make hk rfl (fun _ _ _ h => by cases h) hun ((Below.refl _ _).alloc (Nat.le_refl _) _) (Nat.le_refl _) (by simp) (Blk.new w zs t))
    simp only [Kind.val, if_pos] at this
    exact hK _ _ this
  | born v cs =>
    obtain ⟨h1, h2⟩ := hok γ
    rw [if_pos h1]
    obtain ⟨f, args, h3, h4⟩ := h2 w (hS w hM.below)
    unfold Oper.wp
    rw [he, h3]
    refine Calls.mono h4 ?_
    rintro e w' ⟨hb, g, rfl, hg1, hg2, hg3⟩
    have := next _ w' (fun j hj => if_neg hj) (hM.make hk rfl (fun _ _ _ h => by cases h) hun hb hg1 hg2 hg3)
    simp only [Kind.val, if_pos] at this
    exact hK _ _ this
  | laid j zs cs =>
    obtain ⟨h1, h2, h3, h4⟩ := hok γ
    rw [if_pos h1]
    have hli : l.getD j false = true := waits_spec (hO.laid ho hk) hedge
    obtain ⟨hr, hM'⟩ := hM.lay hO hL ho hk h3 hun hli
    unfold Oper.wp
    rw [he, h4 w hr]
    exact hK _ _ (next γ _ (fun _ _ => rfl) hM')

/-- The rest, in its order. -/
theorem rest_any {full : Array Oper} (p : Nat) (hup : ∀ {i : Nat} {o : Oper}, full[i]? = some o → ∀ e ∈ o.after, Region.binds .any e = true → e.on < i)
    (hwt : ∀ {i : Nat} {o : Oper}, full[i]? = some o → p ≤ i → ∀ j, j < i → waits o j = true) : ∀ (m fuel q : Nat) (l : Array Bool) (a : Act) (w : World), q + m = full.size → p ≤ q → l.size = full.size → m ≤ fuel →
      (∀ i, i < q → l.getD i false = true) → (∀ i, q ≤ i → i < full.size → l.getD i true = false) → wpOps P full Q (List.range' q m) a w → wpAny P .any full Q fuel l a w := by
  intro m
  induction m with
  | zero =>
    intro fuel q l a w hq hpq hsz hfu hl hu h
    have hr : Region.ready .any full l = [] := by
      refine List.eq_nil_iff_forall_not_mem.2 fun i hi => ?_
      obtain ⟨h1, o, ho, _⟩ := mem_ready.1 hi
      have h2 := hl i (by have := (Array.getElem?_eq_some_iff.1 ho).1; omega)
      rw [(getD_same h1).1] at h2
      cases h2
    have hQ : Q .normal a w := h
    cases fuel with
    | zero => exact ⟨hr, hQ⟩
    | succ f => exact ⟨fun _ => hQ, by rw [hr]; simp⟩
  | succ m ih =>
    intro fuel q l a w hq hpq hsz hfu hl hu h
    cases fuel with
    | zero => omega
    | succ f =>
      have hqs : q < full.size := by omega
      have hqr : q ∈ Region.ready .any full l := mem_ready.2 ⟨hu q (Nat.le_refl _) hqs, full[q], Array.getElem?_eq_getElem hqs, fun e he hb => hl _ (hup (Array.getElem?_eq_getElem hqs) e he hb)⟩
      refine ⟨fun hr => absurd hqr (by rw [hr]; simp), fun i hi => ?_⟩
      obtain ⟨hun, o, ho, hedge⟩ := mem_ready.1 hi
      have hilt : i < full.size := (Array.getElem?_eq_some_iff.1 ho).1
      have hiq : i = q := by
        rcases Nat.lt_trichotomy i q with h' | h' | h'
        · have h2 := hl i h'
          rw [(getD_same hun).1] at h2
          cases h2
        · exact h'
        · have h2 := waits_spec (hwt ho (by omega) q h') hedge
          rw [(getD_same (hu q (Nat.le_refl _) hqs)).1] at h2
          cases h2
      subst hiq
      rw [List.range'_succ, wpOps_cons] at h
      refine wpOp_mono (fun a' w' h' => ?_) h
      refine ih f (i + 1) _ a' w' (by omega) (by omega) (by simp [hsz]) (by omega) (fun j hj => ?_) (fun j hj hj2 => ?_) h'
      · rcases Nat.lt_or_ge j i with h2 | h2
        · exact getD_true (hl j h2)
        · have : j = i := by omega
          subst this
          exact (getD_same hun).2
      · rw [getD_set_ne true (by omega)]
        exact hu j (by omega) hj2

theorem whole_of {p : Nat} {l : Array Bool} {γ : Nat → Nat} {a : Act} (hp : ops.size = p) (h : Agree ops ks a₀ l γ a) (hl : ∀ i, i < p → l.getD i false = true) : a = fill γ 0 ops.toList ks a₀ := h.whole (fun i hi => hl i (by omega))

theorem first_any {full : Array Oper} {n p : Nat} (hO : Orderly ops ks n) (hn : n = a₀.tmps.size) (hL : LaidOk ks ks) {S : World → Prop} (hS : ∀ w, Below w₀.heap.size w₀ w → S w)
    (hp : ops.size = p) (hpf : p ≤ full.size) (hfull : ∀ i, i < p → full[i]? = ops[i]?) (hgd : ∀ {i : Nat} {o : Oper} {g : Nat} {b : Bool}, ops[i]? = some o → o.guard = some (g, b) → g < p)
    (hup : ∀ {i : Nat} {o : Oper}, full[i]? = some o → ∀ e ∈ o.after, Region.binds .any e = true → e.on < i)
    (hwt : ∀ {i : Nat} {o : Oper}, full[i]? = some o → p ≤ i → ∀ j, j < i → waits o j = true)
    (hops : AllOk P ops S (fun γ => fill γ 0 ops.toList ks a₀) ops.toList ks)
    (hend : ∀ γ w l, Mem ks w₀ l γ w → (∀ i, i < p → l.getD i false = true) → wpOps P full Q (List.range' p (full.size - p)) (fill γ 0 ops.toList ks a₀) w) :
    ∀ (fuel : Nat) (l : Array Bool) (γ : Nat → Nat) (a : Act) (w : World), l.size = full.size → l.toList.count false ≤ fuel → full.size - p ≤ fuel → (∀ i, p ≤ i → i < full.size → l.getD i true = false) → Agree ops ks a₀ l γ a → Mem ks w₀ l γ w → wpAny P .any full Q fuel l a w := by
  intro fuel
  induction fuel with
  | zero =>
    intro l γ a w hsz hc hpl hu hA hM
    have hall : ∀ i, i < p → l.getD i false = true := fun i hi => by
      cases hb : l.getD i true with
      | false => have := count_set hb; omega
      | true =>
        have hi' : i < l.size := by omega
        simpa [hi'] using hb
    rw [whole_of hp hA hall]
    exact rest_any p hup hwt (full.size - p) 0 p l _ w (by omega) (Nat.le_refl _) hsz (by omega) hall hu (hend γ w l hM hall)
  | succ fuel ih =>
    intro l γ a w hsz hc hpl hu hA hM
    by_cases hall : ∀ i, i < p → l.getD i false = true
    · rw [whole_of hp hA hall]
      exact rest_any p hup hwt (full.size - p) (fuel + 1) p l _ w (by omega) (Nat.le_refl _) hsz (by omega) hall hu (hend γ w l hM hall)
    · have hex : ∃ x, x < p ∧ l.getD x false = false := by
        apply Classical.byContradiction
        intro hno
        apply hall
        intro i hi
        cases hb : l.getD i false with
        | true => rfl
        | false => exact absurd ⟨i, hi, hb⟩ hno
      obtain ⟨x, hx, hxf⟩ := hex
      have hlow : ∀ i ∈ Region.ready .any full l, i < p := fun i hi => by
        obtain ⟨hun, o, ho, hedge⟩ := mem_ready.1 hi
        rcases Nat.lt_or_ge i p with h' | h'
        · exact h'
        · have := waits_spec (hwt ho h' x (by omega)) hedge
          rw [hxf] at this
          cases this
      have hcnt : full.size - p + 1 ≤ l.toList.count false := by
        have h1 : l.getD x true = false := by
          have hx' : x < l.size := by omega
          simpa [hx'] using hxf
        have h2 := count_set h1
        have h3 : ∀ (m : Nat) (l : Array Bool), l.size = full.size → m ≤ full.size - p → (∀ i, full.size - m ≤ i → i < full.size → l.getD i true = false) → m ≤ l.toList.count false := by
          intro m
          induction m with
          | zero => intro l _ _ _; omega
          | succ m ih =>
            intro l hs hm hl
            have h4 := count_set (hl (full.size - (m + 1)) (Nat.le_refl _) (by omega))
            have h5 := ih (l.setIfInBounds (full.size - (m + 1)) true) (by simp [hs]) (by omega) (fun i hi1 hi2 => by rw [getD_set_ne true (by omega)]; exact hl i (by omega) hi2)
            omega
        have h6 := h3 (full.size - p) (l.setIfInBounds x true) (by simp [hsz]) (Nat.le_refl _) (fun i hi1 hi2 => by rw [getD_set_ne true (by omega)]; exact hu i (by omega) hi2)
        omega
      refine ⟨fun hr => ?_, fun i hi => ?_⟩
      · exfalso
        have : ∀ i, i < full.size → l.getD i false = true := by
          intro i
          induction i using Nat.strongRecOn with
          | _ i ih2 =>
            intro hi
            have hi' : i < l.size := by omega
            cases hl : l.getD i true with
            | true => simpa [hi'] using hl
            | false =>
              exfalso
              have : i ∈ Region.ready .any full l := mem_ready.2 ⟨hl, full[i], Array.getElem?_eq_getElem hi, fun e he hb => by
                have h1 := hup (Array.getElem?_eq_getElem hi) e he hb
                exact ih2 e.on h1 (by omega)⟩
              rw [hr] at this
              cases this
        rw [this x (by omega)] at hxf
        cases hxf
      · have hip := hlow i hi
        obtain ⟨hun, o, ho, hedge⟩ := mem_ready.1 hi
        have ho' : ops[i]? = some o := by rw [← hfull i hip]; exact ho
        have hc' := count_set hun
        refine kind_step hO hn hL hS hfull hgd hops hA hM hip ho' hun hedge (fun γ' a' w' hA' hM' => ?_)
        exact ih _ γ' a' w' (by simp [hsz]) (by omega) (by omega) (fun j hj hj2 => by rw [getD_set_ne true (by omega)]; exact hu j hj hj2) hA' hM'

theorem first_seq {full : Array Oper} {n p : Nat} (hO : Orderly ops ks n) (hn : n = a₀.tmps.size) (hL : LaidOk ks ks) {S : World → Prop} (hS : ∀ w, Below w₀.heap.size w₀ w → S w)
    (hp : ops.size = p) (hpf : p ≤ full.size) (hfull : ∀ i, i < p → full[i]? = ops[i]?) (hgd : ∀ {i : Nat} {o : Oper} {g : Nat} {b : Bool}, ops[i]? = some o → o.guard = some (g, b) → g < p)
    (hops : AllOk P ops S (fun γ => fill γ 0 ops.toList ks a₀) ops.toList ks)
    (hend : ∀ γ w l, Mem ks w₀ l γ w → (∀ i, i < p → l.getD i false = true) → wpOps P full Q (List.range' p (full.size - p)) (fill γ 0 ops.toList ks a₀) w) :
    ∀ (m q : Nat) (l : Array Bool) (γ : Nat → Nat) (a : Act) (w : World), q + m = p → l.size = p → (∀ i, i < q → l.getD i false = true) → (∀ i, q ≤ i → i < p → l.getD i true = false) → Agree ops ks a₀ l γ a → Mem ks w₀ l γ w → wpOps P full Q (List.range' q (full.size - q)) a w := by
  intro m
  induction m with
  | zero =>
    intro q l γ a w hq hsz hl hu hA hM
    have hqp : q = p := by omega
    subst hqp
    rw [whole_of hp hA hl]
    exact hend γ w l hM hl
  | succ m ih =>
    intro q l γ a w hq hsz hl hu hA hM
    have hqs : q < ops.size := by omega
    have ho : ops[q]? = some ops[q] := Array.getElem?_eq_getElem hqs
    have hun := hu q (Nat.le_refl _) (by omega)
    obtain ⟨r, hr⟩ : ∃ r, full.size - q = r + 1 := ⟨full.size - q - 1, by omega⟩
    rw [hr, List.range'_succ, wpOps_cons]
    refine kind_step hO hn hL hS hfull hgd hops hA hM (by omega) ho hun (fun e he hb => hl _ (hO.up ho e he hb)) (fun γ' a' w' hA' hM' => ?_)
    have := ih (q + 1) _ γ' a' w' (by omega) (by simp [hsz]) (fun j hj => ?_) (fun j hj hj2 => ?_) hA' hM'
    · rwa [show full.size - (q + 1) = r by omega] at this
    · rcases Nat.lt_or_ge j q with h2 | h2
      · exact getD_true (hl j h2)
      · have : j = q := by omega
        subst this
        exact (getD_same hun).2
    · rw [getD_set_ne true (by omega)]
      exact hu j (by omega) hj2

/-- What is to be looked up of the whole region: nobody waits for a later one; who comes behind the first p waits for all ahead. -/
def chained (full : Array Oper) (p : Nat) : Bool :=
  eachOp full (fun i o => o.after.all fun e => !Region.binds .any e || decide (e.on < i)) &&
  eachOp full (fun i o => decide (i < p) || (List.range i).all fun j => waits o j)
def guarded (ops : Array Oper) (p : Nat) : Bool := eachOp ops (fun _ o => match o.guard with | some (g, _) => decide (g < p) | none => true)
theorem guarded_spec {ops : Array Oper} {p : Nat} (h : guarded ops p = true) {i : Nat} {o : Oper} {g : Nat} {b : Bool} (ho : ops[i]? = some o) (hg : o.guard = some (g, b)) : g < p := by
  have := eachOp_spec h ho
  simpa [hg] using this
theorem first_full {full : Array Oper} {p i : Nat} (h : i < p) : full[i]? = (full.extract 0 p)[i]? := by
  by_cases hi : i < full.size
  · rw [Array.getElem?_eq_getElem hi, Array.getElem?_eq_getElem (by simp; omega)]
    simp
  · rw [Array.getElem?_eq_none (by omega), Array.getElem?_eq_none (by simp; omega)]
theorem none_listed (n i : Nat) : (Array.replicate n false).getD i false = false := by
  rcases Nat.lt_or_ge i n with h | h <;> simp [h]
theorem none_listed' {n i : Nat} (h : i < n) : (Array.replicate n false).getD i true = false := by simp [h]
theorem start_agree {ops : Array Oper} {ks : List Kind} {a : Act} (n : Nat) (γ : Nat → Nat) : Agree ops ks a (Array.replicate n false) γ a := by
  refine ⟨rfl, rfl, fun d hd => ?_⟩
  have hno : ∀ o' ∈ ops.toList, o'.dst ≠ some d := fun o' ho' hd' => by
    obtain ⟨j, hj, ej⟩ := List.getElem_of_mem ho'
    have := hd j o' (by rw [← Array.getElem?_toList, List.getElem?_eq_getElem hj, ej]) hd'
    rw [none_listed] at this
    cases this
  rw [fill_other _ d 0 _ _ _ hno]
theorem start_mem {ks : List Kind} {w w' : World} (n : Nat) (γ : Nat → Nat) (h : Below w.heap.size w w') : Mem ks w (Array.replicate n false) γ w' := by
  refine ⟨h, ?_, ?_, ?_, ?_, ?_⟩
  · intro i zs _ h; rw [none_listed] at h; cases h
  · intro i zs _ h; rw [none_listed] at h; cases h
  · intro s i zs cs _ h; rw [none_listed] at h; cases h
  · intro s i zs cs _ h; rw [none_listed] at h; cases h
  · intro i j zs zs' _ _ h; rw [none_listed] at h; cases h

/-- **The law of a region that draws its order**: its first p operations in no order, the rest in its order. -/
theorem region_any {full : Array Oper} {id : Nat} {a : Act} {w : World} (hm : P.follows .mixedOrders = true) (p : Nat) (ks : List Kind) (S : World → Prop) (F : (Nat → Nat) → Act)
    (hF : ∀ γ, fill γ 0 (full.extract 0 p).toList ks a = F γ) (hor : (orderly (full.extract 0 p) ks a.tmps.size && guarded (full.extract 0 p) p && chained full p && decide (p ≤ full.size)) = true) (hL : LaidOk ks ks) (hS : ∀ w', Below w.heap.size w w' → S w')
    (hops : AllOk P (full.extract 0 p) S F (full.extract 0 p).toList ks)
    (hend : ∀ γ w' l, Mem ks w l γ w' → (∀ i, i < p → l.getD i false = true) → wpOps P full Q (List.range' p (full.size - p)) (F γ) w') :
    (Code.region id full true).wp P Q a w := by
  obtain rfl : (fun γ => fill γ 0 (full.extract 0 p).toList ks a) = F := funext hF
  simp only [Bool.and_eq_true, decide_eq_true_eq] at hor
  obtain ⟨⟨⟨h1, h2⟩, h3⟩, h4⟩ := hor
  unfold chained at h3
  simp only [Bool.and_eq_true] at h3
  obtain ⟨h5, h6⟩ := h3
  refine wp_region_any hm (first_any (Orderly.of h1) rfl hL hS (by simp; omega) h4 (fun i hi => first_full hi) (fun ho hg => guarded_spec h2 ho hg) (fun ho e he hb => ?_) (fun ho hi j hj => ?_) hops hend full.size _ (fun _ => 0) a w.drew (by simp) (by simp) (by omega) (fun i _ hi => none_listed' hi) (start_agree _ _) (start_mem _ _ (Below.refl _ _).drew))
  · have := Array.all_eq_true_iff_forall_mem.1 (eachOp_spec h5 ho) e he
    simpa [hb] using this
  · have := eachOp_spec h6 ho
    simp only [Bool.or_eq_true, decide_eq_true_eq] at this
    rcases this with h7 | h7
    · omega
    · exact List.all_eq_true.1 h7 j (List.mem_range.2 hj)
/-- **The law of a region that keeps its order.** -/
theorem region_seq {full : Array Oper} {id : Nat} {a : Act} {w : World} (p : Nat) (ks : List Kind) (S : World → Prop) (F : (Nat → Nat) → Act)
    (hF : ∀ γ, fill γ 0 (full.extract 0 p).toList ks a = F γ) (hor : (orderly (full.extract 0 p) ks a.tmps.size && guarded (full.extract 0 p) p && decide (p ≤ full.size)) = true) (hL : LaidOk ks ks) (hS : ∀ w', Below w.heap.size w w' → S w')
    (hops : AllOk P (full.extract 0 p) S F (full.extract 0 p).toList ks)
    (hend : ∀ γ w' l, Mem ks w l γ w' → (∀ i, i < p → l.getD i false = true) → wpOps P full Q (List.range' p (full.size - p)) (F γ) w') :
    (Code.region id full false).wp P Q a w := by
  obtain rfl : (fun γ => fill γ 0 (full.extract 0 p).toList ks a) = F := funext hF
  simp only [Bool.and_eq_true, decide_eq_true_eq] at hor
  obtain ⟨⟨h1, h2⟩, h4⟩ := hor
  refine wp_region ?_
  rw [List.range_eq_range']
  exact first_seq (Orderly.of h1) rfl hL hS (by simp; omega) h4 (fun i hi => first_full hi) (fun ho hg => guarded_spec h2 ho hg) hops hend p 0 (Array.replicate p false) (fun _ => 0) a w (by omega) (by simp) (fun i hi => by omega) (fun i _ hi => none_listed' hi) (start_agree _ _) (start_mem _ _ (Below.refl _ _))
end
/-! The rest, one by one. -/
section
variable {P : Program} {ops : Array Oper} {Q : Exit → Act → World → Prop} {a : Act} {w : World}
theorem rest_nil (h : Q .normal a w) : wpOps P ops Q [] a w := h
theorem rest_value {i : Nat} {r : List Nat} {o : Oper} {v : Value} {w' : World} (ho : ops[i]? = some o) (hw : Region.wanted o (yielded ops a.tmps) = true) (hx : (execOp a.eval o).run P w = .ok (.value v) w') (h : wpOps P ops Q r (a.put o.dst v) w') : wpOps P ops Q (i :: r) a w := by
  rw [wpOps_cons]
  refine wpOp_step ho (fun K' hK => ?_)
  rw [if_pos hw]
  unfold Oper.wp
  rw [hx]
  exact hK _ _ h
theorem rest_gone {i : Nat} {r : List Nat} {o : Oper} (ho : ops[i]? = some o) (hw : Region.wanted o (yielded ops a.tmps) = false) (h : wpOps P ops Q r (a.put o.dst undef) w) : wpOps P ops Q (i :: r) a w := by
  rw [wpOps_cons]
  refine wpOp_step ho (fun K' hK => ?_)
  rw [if_neg (by rw [hw]; decide)]
  exact hK _ _ h
theorem rest_skip {i : Nat} {r : List Nat} {o : Oper} {w' : World} (ho : ops[i]? = some o) (hw : Region.wanted o (yielded ops a.tmps) = true) (hx : (execOp a.eval o).run P w = .ok .skip w') (h : wpOps P ops Q r (a.put o.dst undef) w') : wpOps P ops Q (i :: r) a w := by
  rw [wpOps_cons]
  refine wpOp_step ho (fun K' hK => ?_)
  rw [if_pos hw]
  unfold Oper.wp
  rw [hx]
  exact hK _ _ h
theorem rest_call {i : Nat} {r : List Nat} {o : Oper} {f : FuncId} {args : Array Value} {R : Value → World → Prop} (ho : ops[i]? = some o) (hw : Region.wanted o (yielded ops a.tmps) = true) (hx : (execOp a.eval o).run P w = .ok (.enter f args) w)
    (hc : Calls P f args w (fun e w' => ∃ v, e = .returned v ∧ R v w')) (h : ∀ v w', R v w' → wpOps P ops Q r (a.put o.dst v) w') : wpOps P ops Q (i :: r) a w := by
  rw [wpOps_cons]
  refine wpOp_step ho (fun K' hK => ?_)
  rw [if_pos hw]
  unfold Oper.wp
  rw [hx]
  refine Calls.mono hc ?_
  rintro e w' ⟨v, rfl, hr⟩
  exact hK _ _ (h v w' hr)
end
end Rg
end Go.Proofs.YtoagmdgmbkpghabDoor
