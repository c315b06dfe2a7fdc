/- Texts of the proof, joined. -/
import Derived.Test.YtmanelnacifgcaaGreatDoorP1
import Derived.Laws.AppendOwn
import Derived.Lib.SliceRun
import Derived.WalkKit
import Derived.Deep.RegionHeld3
set_option maxRecDepth 100000
section
namespace Go.Proofs.YtmanelnacifgcaaGreatDoor
open Go.RowKit
namespace Rg
/-- What an operation of the region is: it tells a value and leaves the world; its guard shuts it out; it calls, and the answer is a value; it makes a block of these cells; it lays these cells into the block that operation j made of those; it calls, and the answer bears a new block of these cells. -/
def Kind : Type := ((Value)) ⊕ (Unit) ⊕ ((Value)) ⊕ ((List Value) × (TypeId)) ⊕ ((Nat) × (List Value) × (List Value)) ⊕ ((Nat → Value) × (List Value)) ⊕ ((Value) × (Nat) × (List Value)) ⊕ ((Nat → Nat → Nat → Value) × (List Value))
abbrev Kind.q (v : Value) : Kind := Sum.inl v
abbrev Kind.gone : Kind := Sum.inr (Sum.inl ())
abbrev Kind.call (v : Value) : Kind := Sum.inr (Sum.inr (Sum.inl v))
abbrev Kind.made (zs : List Value) (t : TypeId) : Kind := Sum.inr (Sum.inr (Sum.inr (Sum.inl (zs, t))))
abbrev Kind.laid (j : Nat) (zs : List Value) (cs : List Value) : Kind := Sum.inr (Sum.inr (Sum.inr (Sum.inr (Sum.inl (j, zs, cs)))))
abbrev Kind.born (v : Nat → Value) (cs : List Value) : Kind := Sum.inr (Sum.inr (Sum.inr (Sum.inr (Sum.inr (Sum.inl (v, cs))))))
abbrev Kind.over (v : Value) (j : Nat) (cs : List Value) : Kind := Sum.inr (Sum.inr (Sum.inr (Sum.inr (Sum.inr (Sum.inr (Sum.inl (v, j, cs)))))))
abbrev Kind.bornX (v : Nat → Nat → Nat → Value) (cs : List Value) : Kind := Sum.inr (Sum.inr (Sum.inr (Sum.inr (Sum.inr (Sum.inr (Sum.inr (v, cs)))))))
theorem Kind.each {M : Kind → Prop} (q : ∀ (v : Value), M (Kind.q v)) (gone : M Kind.gone) (call : ∀ (v : Value), M (Kind.call v)) (made : ∀ (zs : List Value) (t : TypeId), M (Kind.made zs t)) (laid : ∀ (j : Nat) (zs : List Value) (cs : List Value), M (Kind.laid j zs cs)) (born : ∀ (v : Nat → Value) (cs : List Value), M (Kind.born v cs)) (over : ∀ (v : Value) (j : Nat) (cs : List Value), M (Kind.over v j cs)) (bornX : ∀ (v : Nat → Nat → Nat → Value) (cs : List Value), M (Kind.bornX v cs)) (k : Kind) : M k := by
  rcases k with v | _ | v | ⟨x0, x1⟩ | ⟨x0, x1, x2⟩ | ⟨x0, x1⟩ | ⟨x0, x1, x2⟩ | ⟨x0, x1⟩
  · exact q _
  · exact gone
  · exact call _
  · exact made _ _
  · exact laid _ _ _
  · exact born _ _
  · exact over _ _ _
  · exact bornX _ _
theorem Kind.laidInj {j j' : Nat} {zs zs' : List Value} {cs cs' : List Value} (h : Kind.laid j zs cs = Kind.laid j' zs' cs') : j = j' ∧ zs = zs' ∧ cs = cs' := by
  have h' := Sum.inl.inj (Sum.inr.inj (Sum.inr.inj (Sum.inr.inj (Sum.inr.inj h))))
  exact ⟨congrArg (fun x => x.1) h', congrArg (fun x => x.2.1) h', congrArg (fun x => x.2.2) h'⟩
/-- What lies in its slot behind it; J i: the block that operation i made. -/
def Kind.val (J : Nat → Nat) (i : Nat) : Kind → Value
 | (Sum.inl v) => v
 | (Sum.inr (Sum.inl ())) => undef
 | (Sum.inr (Sum.inr (Sum.inl v))) => v
 | (Sum.inr (Sum.inr (Sum.inr (Sum.inl (_, _))))) => .pointer (some ⟨J i, 0, none⟩)
 | (Sum.inr (Sum.inr (Sum.inr (Sum.inr (Sum.inl (_, _, _)))))) => undef
 | (Sum.inr (Sum.inr (Sum.inr (Sum.inr (Sum.inr (Sum.inl (v, _))))))) => v (J i)
 | (Sum.inr (Sum.inr (Sum.inr (Sum.inr (Sum.inr (Sum.inr (Sum.inl (v, _, _)))))))) => v
 | (Sum.inr (Sum.inr (Sum.inr (Sum.inr (Sum.inr (Sum.inr (Sum.inr (v, _)))))))) => v (J i) (J (i + 65536)) (J (i + 131072))
/-- The cells of a block that it makes. -/
def Kind.cells : Kind → Option (List Value)
 | (Sum.inr (Sum.inr (Sum.inr (Sum.inl (zs, _))))) => some zs
 | (Sum.inr (Sum.inr (Sum.inr (Sum.inr (Sum.inr (Sum.inl (_, cs))))))) => some cs
 | (Sum.inr (Sum.inr (Sum.inr (Sum.inr (Sum.inr (Sum.inr (Sum.inr (_, cs)))))))) => some cs
 | _ => none
def fresh (ks : List Kind) (i : Nat) : Option (List Value) := (ks[i]?).bind Kind.cells
/-- The frame behind the region. -/
def zZ (J : Nat → Nat) : Nat → List Oper → List Kind → Act → Act
 | i, o :: os, k :: ks, a => zZ J (i + 1) os ks (a.put o.dst (k.val J i))
 | _, _, _, a => a
theorem fill_defers (J : Nat → Nat) : ∀ (i : Nat) (os : List Oper) (ks : List Kind) (a : Act), (zZ J i os ks a).defers = a.defers
 | _, [], _, _ => rfl
 | _, _ :: _, [], _ => rfl
 | i, o :: os, k :: ks, a => by
  unfold zZ
  rw [fill_defers J (i + 1) os ks, put_defers']
theorem fill_other (J : Nat → Nat) (d : Tmp) : ∀ (i : Nat) (os : List Oper) (ks : List Kind) (a : Act), (∀ o ∈ os, o.dst ≠ some d) → (zZ J i os ks a).tmps[d]? = a.tmps[d]?
 | _, [], _, _, _ => rfl
 | _, _ :: _, [], _, _ => rfl
 | i, o :: os, k :: ks, a, h => by
  unfold zZ
  rw [fill_other J d (i + 1) os ks _ (fun o' ho => h o' (List.mem_cons_of_mem _ ho)), put_other _ _ _ _ (h o (List.mem_cons_self ..))]
theorem fill_at (J : Nat → Nat) (d : Tmp) (o : Oper) (k : Kind) (hd : o.dst = some d) : ∀ (j i : Nat) (os : List Oper) (ks : List Kind) (a : Act), os[j]? = some o → ks[j]? = some k → d < a.tmps.size →
  (∀ j' o', j < j' → os[j']? = some o' → o'.dst ≠ some d) → (zZ J i os ks a).tmps[d]? = some (k.val J (i + j))
 | _, _, [], _, _, h, _, _, _ => by simp at h
 | _, _, _ :: _, [], _, _, h, _, _ => by simp at h
 | 0, i, o' :: os, k' :: ks, a, ho, hk, hs, hl => by
  simp at ho hk
  subst ho hk
  unfold zZ
  rw [fill_other J d (i + 1) os ks _ (fun o2 ho2 => ?_), hd, put_same _ _ _ hs]
  ·rfl
  ·obtain ⟨m, hm, e⟩ := List.getElem_of_mem ho2
   exact hl (m + 1) o2 (by omega) (by rw [List.getElem?_cons_succ, List.getElem?_eq_getElem hm, e])
 | j + 1, i, o' :: os, k' :: ks, a, ho, hk, hs, hl => by
  unfold zZ
  rw [fill_at J d o k hd j (i + 1) os ks _ (by simpa using ho) (by simpa using hk) (by rw [put_size]; exact hs) (fun j' o2 h1 h2 => hl (j' + 1) o2 (by omega) (by simpa using h2))]
  rw [show i + 1 + j = i + (j + 1) by omega]
section
variable {P : Program} {ops : Array Oper} {ks : List Kind} {a₀ : Act} {w₀ : World} {Q : Exit → Act → World → Prop}
/-- What is known of the memory when the operations l have come up. -/
structure Mem (ks : List Kind) (w₀ : World) (l : Array Bool) (J : Nat → Nat) (w : World) : Prop where
 below : Below w₀.heap.size w₀ w
 made : ∀ i zs, fresh ks i = some zs → l.getD i false = true → w₀.heap.size ≤ J i ∧ J i < w.heap.size
 raw : ∀ i zs, fresh ks i = some zs → l.getD i false = true → (∀ s zs' cs, ks[s]? = some (.laid i zs' cs) → l.getD s false = false) → Blk w (J i) zs
 full : ∀ s i zs cs, ks[s]? = some (.laid i zs cs) → l.getD s false = true → Blk w (J i) cs ∧ J i < w.heap.size
 order : ∀ s i zs cs, ks[s]? = some (.laid i zs cs) → l.getD s false = true → l.getD i false = true
 apart : ∀ i j zs zs', fresh ks i = some zs → fresh ks j = some zs' → l.getD i false = true → l.getD j false = true → i ≠ j → J i ≠ J j
/-- What is to be shown of an operation. -/
def KindOk (P : Program) (ops : Array Oper) (S : World → Prop) (F : (Nat → Nat) → Act) (o : Oper) : Kind → Prop
 | (Sum.inl v) => ∀ J, Region.wanted o (yielded ops (F J).tmps) = true ∧ ∀ w, S w → (execOp (F J).eval o).run P w = .ok (.value v) w
 | (Sum.inr (Sum.inl ())) => ∀ J, Region.wanted o (yielded ops (F J).tmps) = false
 | (Sum.inr (Sum.inr (Sum.inl v))) => ∀ J, Region.wanted o (yielded ops (F J).tmps) = true ∧ ∀ w, S w → ∃ f args, (execOp (F J).eval o).run P w = .ok (.enter f args) w ∧ Calls P f args w (fun e w' => e = .returned v ∧ Below w.heap.size w w')
 | (Sum.inr (Sum.inr (Sum.inr (Sum.inl (zs, t))))) => ∀ J, Region.wanted o (yielded ops (F J).tmps) = true ∧ ∀ w, (execOp (F J).eval o).run P w = .ok (.value (.pointer (some ⟨w.heap.size, 0, none⟩))) (w.alloc (.cells zs.toArray t))
 | (Sum.inr (Sum.inr (Sum.inr (Sum.inr (Sum.inr (Sum.inl (v, cs))))))) => ∀ J, Region.wanted o (yielded ops (F J).tmps) = true ∧ ∀ w, S w → ∃ f args, (execOp (F J).eval o).run P w = .ok (.enter f args) w ∧ Calls P f args w (fun e w' => Below w.heap.size w w' ∧ ∃ g, e = .returned (v g) ∧ w.heap.size ≤ g ∧ g < w'.heap.size ∧ Blk w' g cs)
 | (Sum.inr (Sum.inr (Sum.inr (Sum.inr (Sum.inr (Sum.inr (Sum.inr (v, cs)))))))) => ∀ J, Region.wanted o (yielded ops (F J).tmps) = true ∧ ∀ w, S w → ∃ f args, (execOp (F J).eval o).run P w = .ok (.enter f args) w ∧ Calls P f args w (fun e w' => Below w.heap.size w w' ∧ ∃ g x y, e = .returned (v g x y) ∧ w.heap.size ≤ g ∧ g < w'.heap.size ∧ Blk w' g cs)
 | (Sum.inr (Sum.inr (Sum.inr (Sum.inr (Sum.inr (Sum.inr (Sum.inl (v, j, cs)))))))) => ∀ J, Region.wanted o (yielded ops (F J).tmps) = true ∧ ∀ u w, S u → u.heap.size ≤ J j → S w → Blk w (J j) cs → J j < w.heap.size → ∃ f args, (execOp (F J).eval o).run P w = .ok (.enter f args) w ∧ Calls P f args w (fun e w' => e = .returned v ∧ Below w.heap.size w w')
 | (Sum.inr (Sum.inr (Sum.inr (Sum.inr (Sum.inl (j, zs, cs)))))) => ∀ J, Region.wanted o (yielded ops (F J).tmps) = true ∧ o.dst = none ∧ zs.length = cs.length ∧ ∀ w, Blk w (J j) zs → (execOp (F J).eval o).run P w = .ok .skip (w.setCells (J j) 0 cs)
def AllOk (P : Program) (ops : Array Oper) (S : World → Prop) (F : (Nat → Nat) → Act) : List Oper → List Kind → Prop
 | o :: os, k :: ks => KindOk P ops S F o k ∧ AllOk P ops S F os ks
 | _, _ => True
theorem AllOk.at {S : World → Prop} {F : (Nat → Nat) → Act} : ∀ {os : List Oper} {ks : List Kind}, AllOk P ops S F os ks → ∀ {i : Nat} {o : Oper} {k : Kind}, os[i]? = some o → ks[i]? = some k → KindOk P ops S F o k
 | [], _, _, _, _, _, h, _ => by simp at h
 | _ :: _, [], _, _, _, _, _, h => by simp at h
 | o' :: os, k' :: ks, h, 0, o, k, ho, hk => by simp at ho hk; subst ho hk; exact h.1
 | o' :: os, k' :: ks, h, i + 1, o, k, ho, hk => AllOk.at (os := os) (ks := ks) h.2 (by simpa using ho) (by simpa using hk)
/-- The region is such that what it says of the order suffices: nobody waits for a later one; every slot is there; who looks at a slot waits for all that write it; no slot is written twice; who lays cells waits for the block's maker, and nobody else lays there. -/
def orderly (ops : Array Oper) (ks : List Kind) (n : Nat) : Bool :=
 decide (ops.size ≤ 65536) && Region.noSelect ops && ks.length == ops.size &&
 eachOp ops (fun i o => o.after.all fun e => !Region.binds .any e || decide (e.on < i)) &&
 eachOp ops (fun _ o => match o.dst with | none => true | some d => decide (d < n)) &&
 eachOp ops (fun _ o => (o.looksAt ops).all fun d => eachOp ops fun j oj => oj.dst != some d || waits o j) &&
 eachOp ops (fun i o => match o.dst with | none => true | some d => eachOp ops fun j oj => j == i || oj.dst != some d) &&
 eachOp ops (fun i o => match ks[i]? with | some ((Sum.inr (Sum.inr (Sum.inr (Sum.inr (Sum.inl (j, _, _))))))) => waits o j && eachOp ops fun s _ => s == i || (match ks[s]? with | some ((Sum.inr (Sum.inr (Sum.inr (Sum.inr (Sum.inl (j', _, _))))))) => j' != j | _ => true) | some ((Sum.inr (Sum.inr (Sum.inr (Sum.inr (Sum.inr (Sum.inr (Sum.inl (_, j, _))))))))) => waits o j | _ => true)
structure Orderly (ops : Array Oper) (ks : List Kind) (n : Nat) : Prop where
 small : ops.size ≤ 65536
 noSelect : Region.noSelect ops = true
 size : ks.length = ops.size
 up : ∀ {i : Nat} {o : Oper}, ops[i]? = some o → ∀ e ∈ o.after, Region.binds .any e = true → e.on < i
 dst : ∀ {i : Nat} {o : Oper} {d : Tmp}, ops[i]? = some o → o.dst = some d → d < n
 looks : ∀ {i : Nat} {o : Oper} {d : Tmp} {j : Nat} {oj : Oper}, ops[i]? = some o → d ∈ o.looksAt ops → ops[j]? = some oj → oj.dst = some d → waits o j = true
 once : ∀ {i : Nat} {o : Oper} {d : Tmp} {j : Nat} {oj : Oper}, ops[i]? = some o → o.dst = some d → ops[j]? = some oj → oj.dst = some d → j = i
 laid : ∀ {i : Nat} {o : Oper} {j : Nat} {zs cs : List Value}, ops[i]? = some o → ks[i]? = some (.laid j zs cs) → waits o j = true
 over : ∀ {i : Nat} {o : Oper} {v : Value} {j : Nat} {cs : List Value}, ops[i]? = some o → ks[i]? = some (.over v j cs) → waits o j = true
 lone : ∀ {i : Nat} {o : Oper} {j : Nat} {zs cs : List Value} {s : Nat} {zs' cs' : List Value}, ops[i]? = some o → ks[i]? = some (.laid j zs cs) → ks[s]? = some (.laid j zs' cs') → s = i
theorem Orderly.of {n : Nat} (h : orderly ops ks n = true) : Orderly ops ks n := by
 unfold orderly at h
 simp only [Bool.and_eq_true] at h
 obtain ⟨⟨⟨⟨⟨⟨⟨h0, h1⟩, h2⟩, h3⟩, h4⟩, h5⟩, h6⟩, h7⟩ := h
 have hsz : ks.length = ops.size := by simpa using h2
 refine ⟨of_decide_eq_true h0, h1, hsz, ?_, ?_, ?_, ?_, ?_, ?_, ?_⟩
 ·intro i o ho e he hb
  have := zR h3 ho
  have := Array.all_eq_true_iff_forall_mem.1 this e he
  simpa [hb] using this
 ·intro i o d ho hd
  have := zR h4 ho
  rw [hd] at this
  simpa using this
 ·intro i o d j oj ho hd hj hdj
  have := zR (List.all_eq_true.1 (zR h5 ho) d hd) hj
  simpa [hdj] using this
 ·intro i o d j oj ho hd hj hdj
  have := zR h6 ho
  rw [hd] at this
  have := zR this hj
  simpa [hdj] using this
 ·intro i o j zs cs ho hk
  have := zR h7 ho
  rw [hk] at this
  simp only [Bool.and_eq_true] at this
  exact this.1
 ·intro i o v j cs ho hk
  have := zR h7 ho
  rw [hk] at this
  exact this
 ·intro i o j zs cs s zs' cs' ho hk hs
  have := zR h7 ho
  rw [hk] at this
  simp only [Bool.and_eq_true] at this
  have hlt : s < ops.size := by rw [← hsz]; exact (List.getElem?_eq_some_iff.1 hs).1
  have := zR this.2 (Array.getElem?_eq_getElem hlt)
  rw [hs] at this
  simpa using this
def bornAt : Option Kind → Option (List Value × Nat)
 | some ((Sum.inr (Sum.inr (Sum.inr (Sum.inr (Sum.inr (Sum.inl (_, cs)))))))) => some (cs, 0)
 | some ((Sum.inr (Sum.inr (Sum.inr (Sum.inr (Sum.inr (Sum.inr (Sum.inr (_, cs))))))))) => some (cs, 1)
 | _ => none
theorem bornAt_cells {o : Option Kind} {cs : List Value} {c : Nat} (h : bornAt o = some (cs, c)) : o.bind Kind.cells = some cs := by
 cases o with
 | none => cases h
 | some k =>
  cases k using Kind.each <;> first | cases h | skip
  ·rfl
  ·rfl
def LaidOk (all : List Kind) : List Kind → Prop
 | [] => True
 | (Sum.inr (Sum.inr (Sum.inr (Sum.inr (Sum.inl (j, zs, _)))))) :: r => (∃ t, all[j]? = some (.made zs t)) ∧ LaidOk all r
 | (Sum.inr (Sum.inr (Sum.inr (Sum.inr (Sum.inr (Sum.inr (Sum.inl (_, j, cs)))))))) :: r => (∃ c, bornAt all[j]? = some (cs, c)) ∧ LaidOk all r
 | _ :: r => LaidOk all r
theorem LaidOk.at {all : List Kind} : ∀ {r : List Kind}, LaidOk all r → ∀ {s j : Nat} {zs cs : List Value}, r[s]? = some (.laid j zs cs) → ∃ t, all[j]? = some (.made zs t)
 | [], _, _, _, _, _, h => by simp at h
 | k :: r, hl, 0, j, zs, cs, h => by
  simp at h
  subst h
  exact hl.1
 | k :: r, hl, s + 1, j, zs, cs, h => by
  have hr : LaidOk all r := by
   cases k using Kind.each <;> first | exact hl | exact hl.2
  exact hr.at (s := s) (by simpa using h)
theorem LaidOk.over {all : List Kind} : ∀ {r : List Kind}, LaidOk all r → ∀ {s j : Nat} {v : Value} {cs : List Value}, r[s]? = some (.over v j cs) → ∃ c, bornAt all[j]? = some (cs, c)
 | [], _, _, _, _, _, h => by simp at h
 | k :: r, hl, 0, j, v, cs, h => by
  simp at h
  subst h
  exact hl.1
 | k :: r, hl, s + 1, j, v, cs, h => by
  have hr : LaidOk all r := by
   cases k using Kind.each <;> first | exact hl | exact hl.2
  exact hr.over (s := s) (by simpa using h)
structure Agree (ops : Array Oper) (ks : List Kind) (a₀ : Act) (l : Array Bool) (J : Nat → Nat) (a : Act) : Prop where
 defers : a.defers = a₀.defers
 size : a.tmps.size = a₀.tmps.size
 slots : ∀ d, (∀ i o, ops[i]? = some o → o.dst = some d → l.getD i false = true) → a.tmps[d]? = (zZ J 0 ops.toList ks a₀).tmps[d]?
theorem kind_at {n : Nat} (hO : Orderly ops ks n) {i : Nat} {o : Oper} (ho : ops[i]? = some o) : ∃ k, ks[i]? = some k := by
 have hi : i < ops.size := (Array.getElem?_eq_some_iff.1 ho).1
 exact ⟨_, List.getElem?_eq_getElem (by rw [hO.size]; exact hi)⟩
theorem fill_one {n : Nat} (hO : Orderly ops ks n) (hn : n = a₀.tmps.size) (J : Nat → Nat) {i : Nat} {o : Oper} {k : Kind} {d : Tmp} (ho : ops[i]? = some o) (hk : ks[i]? = some k) (hd : o.dst = some d) :
  (zZ J 0 ops.toList ks a₀).tmps[d]? = some (k.val J i) := by
 have := fill_at J d o k hd i 0 ops.toList ks a₀ (by simpa using ho) hk (by rw [← hn]; exact hO.dst ho hd) (fun j' o' hlt ho' hd' => by
  have := hO.once ho hd (by simpa using ho' : ops[j']? = some o') hd'
  omega)
 rw [Nat.zero_add] at this
 exact this
theorem Agree.step {n : Nat} (hO : Orderly ops ks n) (hn : n = a₀.tmps.size) {l : Array Bool} {J J' : Nat → Nat} {a : Act} (h : Agree ops ks a₀ l J a) {i : Nat} {o : Oper} {k : Kind} (ho : ops[i]? = some o) (hk : ks[i]? = some k)
  (hJ : ∀ j, j ≠ i → j ≠ i + 65536 → j ≠ i + 131072 → J' j = J j) : Agree ops ks a₀ (l.setIfInBounds i true) J' (a.put o.dst (k.val J' i)) := by
 have hi6 : i < 65536 := Nat.lt_of_lt_of_le (Array.getElem?_eq_some_iff.1 ho).1 hO.small
 refine ⟨by rw [put_defers']; exact h.defers, by rw [put_size]; exact h.size, fun d hd => ?_⟩
 by_cases e : o.dst = some d
 ·rw [fill_one hO hn J' ho hk e, e, put_same _ _ _ (by rw [h.size, ← hn]; exact hO.dst ho e)]
 ·rw [put_other _ _ _ _ e, h.slots d (fun j oj hj hdj => by
   have hne : i ≠ j := fun he => by subst he; rw [ho] at hj; injection hj with hj; subst hj; exact e hdj
   have := hd j oj hj hdj
   rw [getD_set_ne false hne] at this
   exact this)]
  by_cases hw : ∃ (j : Nat) (oj : Oper), ops[j]? = some oj ∧ oj.dst = some d
  ·obtain ⟨j, oj, hj, hdj⟩ := hw
   obtain ⟨kj, hkj⟩ := kind_at hO hj
   have hne : j ≠ i := fun he => by subst he; rw [ho] at hj; injection hj with hj; subst hj; exact e hdj
   rw [fill_one hO hn J hj hkj hdj, fill_one hO hn J' hj hkj hdj]
   have hj6 : j < 65536 := Nat.lt_of_lt_of_le (Array.getElem?_eq_some_iff.1 hj).1 hO.small
   unfold Kind.val
   rw [hJ j hne (by omega) (by omega), hJ (j + 65536) (by omega) (by omega) (by omega), hJ (j + 131072) (by omega) (by omega) (by omega)]
  ·have hno : ∀ o' ∈ ops.toList, o'.dst ≠ some d := fun o' ho' hd' => by
    obtain ⟨j, hj, ej⟩ := List.getElem_of_mem ho'
    exact hw ⟨j, o', by rw [← Array.getElem?_toList, List.getElem?_eq_getElem hj, ej], hd'⟩
   rw [fill_other J d 0 _ _ _ hno, fill_other J' d 0 _ _ _ hno]
/-- An operation that may come up sees what it will have seen in the end. -/
theorem Agree.sees {n : Nat} (hO : Orderly ops ks n) {l : Array Bool} {J : Nat → Nat} {a : Act} (h : Agree ops ks a₀ l J a) {i : Nat} {o : Oper} (ho : ops[i]? = some o)
  (hl : ∀ e ∈ o.after, Region.binds .any e = true → l.getD e.on false = true) :
  execOp a.eval o = execOp (zZ J 0 ops.toList ks a₀).eval o ∧ Region.wanted o (yielded ops a.tmps) = Region.wanted o (yielded ops (zZ J 0 ops.toList ks a₀).tmps) := by
 have hs : ∀ d ∈ o.looksAt ops, a.tmps[d]? = (zZ J 0 ops.toList ks a₀).tmps[d]? := fun d hd =>
  h.slots d (fun j oj hj hdj => waits_spec (hO.looks ho hd hj hdj) hl)
 refine ⟨execOp_congr o (fun cs b => Region.noSelect_spec hO.noSelect i o cs b ho) (fun x hx => ?_), ?_⟩
 ·cases x with
  | tmp t =>
   have := hs t (List.mem_append_left _ (List.mem_filterMap.2 ⟨.tmp t, by simpa using hx, rfl⟩))
   simp only [Act.eval, Array.getD_eq_getD_getElem?, this]
  | _ => rfl
 ·unfold Region.wanted
  cases hg : o.guard with
  | none => rfl
  | some gw =>
   obtain ⟨g, want⟩ := gw
   have hy : yielded ops a.tmps g = yielded ops (zZ J 0 ops.toList ks a₀).tmps g := by
    unfold yielded
    cases ht : (ops[g]?).bind (·.dst) with
    | none => rfl
    | some t =>
     have := hs t (by simp [Oper.looksAt, hg, ht])
     simp only [Option.bind_some, this]
   simp only [hy]
theorem Agree.whole {l : Array Bool} {J : Nat → Nat} {a : Act} (h : Agree ops ks a₀ l J a) (hl : ∀ i, i < ops.size → l.getD i false = true) : a = zZ J 0 ops.toList ks a₀ := by
 have ht : a.tmps = (zZ J 0 ops.toList ks a₀).tmps := Array.ext_getElem? fun d =>
  h.slots d (fun i o ho _ => hl i (Array.getElem?_eq_some_iff.1 ho).1)
 have hd : a.defers = (zZ J 0 ops.toList ks a₀).defers := by rw [h.defers, fill_defers]
 cases a
 cases hf : zZ J 0 ops.toList ks a₀
 rw [hf] at ht hd
 simp only at ht hd
 rw [ht, hd]
/-! The memory, step by step. -/
theorem fresh_of {ks : List Kind} {i : Nat} {k : Kind} (hk : ks[i]? = some k) : fresh ks i = k.cells := by unfold fresh; rw [hk]; rfl
theorem Mem.still {l : Array Bool} {J : Nat → Nat} {w w' : World} (h : Mem ks w₀ l J w) (hb : Below w.heap.size w w') {i : Nat} {k : Kind} (hk : ks[i]? = some k) (h1 : k.cells = none) (h2 : ∀ j zs cs, k ≠ .laid j zs cs) :
  Mem ks w₀ (l.setIfInBounds i true) J w' := by
 have ne1 : ∀ j zs, fresh ks j = some zs → i ≠ j := fun j zs hj he => by subst he; rw [fresh_of hk, h1] at hj; cases hj
 have ne2 : ∀ s j zs cs, ks[s]? = some (.laid j zs cs) → i ≠ s := fun s j zs cs hj he => by subst he; rw [hk] at hj; injection hj with hj; exact h2 _ _ _ hj
 refine ⟨h.below.trans (hb.mono h.below.size), ?_, ?_, ?_, ?_, ?_⟩
 ·intro j zs hj hl
  rw [getD_set_ne false (ne1 j zs hj)] at hl
  obtain ⟨x, y⟩ := h.made j zs hj hl
  exact ⟨x, Nat.lt_of_lt_of_le y hb.size⟩
 ·intro j zs hj hl hs
  rw [getD_set_ne false (ne1 j zs hj)] at hl
  exact (h.raw j zs hj hl (fun s zs' cs hs' => by have := hs s zs' cs hs'; rwa [getD_set_ne false (ne2 s j zs' cs hs')] at this)).below hb (h.made j zs hj hl).2
 ·intro s j zs cs hs hl
  rw [getD_set_ne false (ne2 s j zs cs hs)] at hl
  exact ⟨(h.full s j zs cs hs hl).1.below hb (h.full s j zs cs hs hl).2, Nat.lt_of_lt_of_le (h.full s j zs cs hs hl).2 hb.size⟩
 ·intro s j zs cs hs hl
  rw [getD_set_ne false (ne2 s j zs cs hs)] at hl
  exact getD_true (h.order s j zs cs hs hl)
 ·intro x y zs zs' hx hy hlx hly hne
  rw [getD_set_ne false (ne1 x zs hx)] at hlx
  rw [getD_set_ne false (ne1 y zs' hy)] at hly
  exact h.apart x y zs zs' hx hy hlx hly hne
theorem Mem.make {l : Array Bool} {J : Nat → Nat} {w w' : World} (h : Mem ks w₀ l J w) {i : Nat} {k : Kind} {zs : List Value} (hk : ks[i]? = some k) (hc : k.cells = some zs) (h2 : ∀ j zs cs, k ≠ .laid j zs cs) (hun : l.getD i true = false)
  (hb : Below w.heap.size w w') {g : Nat} (hg1 : w.heap.size ≤ g) (hg2 : g < w'.heap.size) (hg3 : Blk w' g zs) :
  Mem ks w₀ (l.setIfInBounds i true) (fun j => if j = i then g else J j) w' := by
 obtain ⟨hf, _⟩ := getD_same hun
 have ne2 : ∀ s j zs cs, ks[s]? = some (.laid j zs cs) → i ≠ s := fun s j zs cs hj he => by subst he; rw [hk] at hj; injection hj with hj; exact h2 _ _ _ hj
 have hsz := h.below.size
 have hsz2 := hb.size
 refine ⟨h.below.trans (hb.mono h.below.size), ?_, ?_, ?_, ?_, ?_⟩
 ·intro j zs' hj hl
  by_cases e : j = i
  ·simp only [if_pos e]; omega
  ·rw [getD_set_ne false (Ne.symm e)] at hl
   have := h.made j zs' hj hl
   simp only [if_neg e]
   omega
 ·intro j zs' hj hl hs
  by_cases e : j = i
  ·subst e
   rw [fresh_of hk, hc] at hj
   injection hj with hj
   subst hj
   simp only [if_pos]
   exact hg3
  ·rw [getD_set_ne false (Ne.symm e)] at hl
   simp only [if_neg e]
   exact (h.raw j zs' hj hl (fun s z c hs' => by have := hs s z c hs'; rwa [getD_set_ne false (ne2 s j z c hs')] at this)).below hb (h.made j zs' hj hl).2
 ·intro s j z c hs hl
  rw [getD_set_ne false (ne2 s j z c hs)] at hl
  have e : j ≠ i := fun he => by have := h.order s j z c hs hl; rw [he, hf] at this; cases this
  have := h.full s j z c hs hl
  simp only [if_neg e]
  exact ⟨this.1.below hb this.2, by omega⟩
 ·intro s j z c hs hl
  rw [getD_set_ne false (ne2 s j z c hs)] at hl
  exact getD_true (h.order s j z c hs hl)
 ·intro x y zs1 zs2 hx hy hlx hly hne
  by_cases ex : x = i
  ·have ey : y ≠ i := fun he => hne (by rw [ex, he])
   rw [getD_set_ne false (Ne.symm ey)] at hly
   have := h.made y zs2 hy hly
   simp only [if_pos ex, if_neg ey]
   omega
  ·rw [getD_set_ne false (Ne.symm ex)] at hlx
   by_cases ey : y = i
   ·have := h.made x zs1 hx hlx
    simp only [if_pos ey, if_neg ex]
    omega
   ·rw [getD_set_ne false (Ne.symm ey)] at hly
    simp only [if_neg ex, if_neg ey]
    exact h.apart x y zs1 zs2 hx hy hlx hly hne
theorem Mem.lay {n : Nat} (hO : Orderly ops ks n) (hL : LaidOk ks ks) {l : Array Bool} {J : Nat → Nat} {w : World} (h : Mem ks w₀ l J w) {s i : Nat} {o : Oper} {zs cs : List Value} (ho : ops[s]? = some o) (hk : ks[s]? = some (.laid i zs cs)) (hlen : zs.length = cs.length)
  (hun : l.getD s true = false) (hli : l.getD i false = true) : Blk w (J i) zs ∧ Mem ks w₀ (l.setIfInBounds s true) J (w.setCells (J i) 0 cs) := by
 obtain ⟨hf, hset⟩ := getD_same hun
 obtain ⟨t, hmi0⟩ := hL.at hk
 have hmi : fresh ks i = some zs := fresh_of hmi0
 have ne1 : ∀ j zs, fresh ks j = some zs → s ≠ j := fun j zs hj he => by subst he; rw [fresh_of hk] at hj; cases hj
 have hraw : Blk w (J i) zs := h.raw i zs hmi hli (fun s' z c hs' => by rw [hO.lone ho hk hs']; exact hf)
 refine ⟨hraw, zV _ (h.made i zs hmi hli).1 _ _ _ h.below, ?_, ?_, ?_, ?_, ?_⟩
 ·intro j zs' hj hl
  rw [getD_set_ne false (ne1 j zs' hj)] at hl
  rw [size_setCells]
  exact h.made j zs' hj hl
 ·intro j zs' hj hl hs
  rw [getD_set_ne false (ne1 j zs' hj)] at hl
  have e : j ≠ i := fun he => by
   subst he
   have := hs s zs cs hk
   rw [hset] at this
   cases this
  refine (h.raw j zs' hj hl (fun s' z c hs' => ?_)).other (h.apart j i zs' zs hj hmi hl hli e)
  have := hs s' z c hs'
  cases hb : l.getD s' false with
  | false => rfl
  | true => rw [getD_true hb] at this; exact this
 ·intro s' j z c hs' hl
  rw [size_setCells]
  by_cases e : s' = s
  ·subst e
   rw [hk] at hs'
   injection hs' with hs'
   obtain ⟨e1, e2, e3⟩ := Kind.laidInj hs'
   subst e1 e2 e3
   exact ⟨hraw.laid hlen, (h.made i zs hmi hli).2⟩
  ·rw [getD_set_ne false (Ne.symm e)] at hl
   have hj : j ≠ i := fun he => by
    subst he
    exact e (hO.lone ho hk hs')
   obtain ⟨t', hmj0⟩ := hL.at hs'
   have hmj : fresh ks j = some z := fresh_of hmj0
   have := h.full s' j z c hs' hl
   exact ⟨this.1.other (h.apart j i z zs hmj hmi (h.order s' j z c hs' hl) hli hj), this.2⟩
 ·intro s' j z c hs' hl
  by_cases e : s' = s
  ·subst e
   rw [hk] at hs'
   injection hs' with hs'
   obtain ⟨e1, _, _⟩ := Kind.laidInj hs'
   subst e1
   exact getD_true hli
  ·rw [getD_set_ne false (Ne.symm e)] at hl
   exact getD_true (h.order s' j z c hs' hl)
 ·intro x y zs1 zs2 hx hy hlx hly hne
  rw [getD_set_ne false (ne1 x zs1 hx)] at hlx
  rw [getD_set_ne false (ne1 y zs2 hy)] at hly
  exact h.apart x y zs1 zs2 hx hy hlx hly hne
theorem Mem.congr {l : Array Bool} {J J' : Nat → Nat} {w : World} (h : Mem ks w₀ l J w) (hL : LaidOk ks ks) (hs : ks.length ≤ 65536) (e : ∀ j, j < 65536 → J' j = J j) : Mem ks w₀ l J' w := by
 have hlt : ∀ {i : Nat} {zs : List Value}, fresh ks i = some zs → J' i = J i := fun {i zs} hf => by
  unfold fresh at hf
  cases hk : ks[i]? with
  | none => rw [hk] at hf; cases hf
  | some k => exact e i (by have := (List.getElem?_eq_some_iff.1 hk).1; omega)
 refine ⟨h.below, ?_, ?_, ?_, h.order, ?_⟩
 ·intro i zs hf hl
  rw [hlt hf]; exact h.made i zs hf hl
 ·intro i zs hf hl hn
  rw [hlt hf]; exact h.raw i zs hf hl hn
 ·intro s i zs cs hk hl
  obtain ⟨t, ht⟩ := hL.at hk
  rw [e i (by have := (List.getElem?_eq_some_iff.1 ht).1; omega)]
  exact h.full s i zs cs hk hl
 ·intro i j zs zs' hi hj hli hlj hne
  rw [hlt hi, hlt hj]; exact h.apart i j zs zs' hi hj hli hlj hne
/-- One of the first operations. -/
theorem kind_step {full : Array Oper} {n p : Nat} (hO : Orderly ops ks n) (hn : n = a₀.tmps.size) (hL : LaidOk ks ks) {S : World → Prop} (hS : ∀ w, Below w₀.heap.size w₀ w → S w)
  (hfull : ∀ i, i < p → full[i]? = ops[i]?) (hgd : ∀ {i : Nat} {o : Oper} {g : Nat} {b : Bool}, ops[i]? = some o → o.guard = some (g, b) → g < p)
  (hops : AllOk P ops S (fun J => zZ J 0 ops.toList ks a₀) ops.toList ks) {K : Act → World → Prop} {l : Array Bool} {J : Nat → Nat} {a : Act} {w : World} (hA : Agree ops ks a₀ l J a) (hM : Mem ks w₀ l J w)
  {i : Nat} {o : Oper} (hip : i < p) (ho : ops[i]? = some o) (hun : l.getD i true = false) (hedge : ∀ e ∈ o.after, Region.binds .any e = true → l.getD e.on false = true)
  (hnext : ∀ J' a' w', Agree ops ks a₀ (l.setIfInBounds i true) J' a' → Mem ks w₀ (l.setIfInBounds i true) J' w' → K a' w') : wpOp P full Q i K a w := by
 obtain ⟨k, hk⟩ := kind_at hO ho
 have hok := hops.at (by simpa using ho) hk
 obtain ⟨he, hw0⟩ := hA.sees hO ho hedge
 have hy : ∀ ts, Region.wanted o (yielded full ts) = Region.wanted o (yielded ops ts) := fun ts => by
  unfold Region.wanted
  cases hg : o.guard with
  | none => rfl
  | some gw =>
   obtain ⟨g, want⟩ := gw
   have : yielded full ts g = yielded ops ts g := by unfold yielded; rw [hfull g (hgd ho hg)]
   simp only [this]
 have hw : Region.wanted o (yielded full a.tmps) = Region.wanted o (yielded ops (zZ J 0 ops.toList ks a₀).tmps) := by rw [hy, hw0]
 have next : ∀ (J' : Nat → Nat) (w' : World), (∀ j, j ≠ i → j ≠ i + 65536 → j ≠ i + 131072 → J' j = J j) → Mem ks w₀ (l.setIfInBounds i true) J' w' → K (a.put o.dst (k.val J' i)) w' := fun J' w' hJ hM' =>
  hnext J' _ w' (hA.step hO hn ho hk hJ) hM'
 refine wpOp_step (by rw [hfull i hip]; exact ho) (fun K' hK => ?_)
 rw [hw]
 cases k using Kind.each with
 | q v =>
  obtain ⟨h1, h2⟩ := hok J
  rw [if_pos h1]
  unfold Oper.wp
  rw [he, h2 w (hS w hM.below)]
  exact hK _ _ (next J w (fun _ _ _ _ => rfl) (hM.still (Below.refl _ _) hk rfl (fun _ _ _ h => by cases h)))
 | gone =>
  rw [if_neg (by rw [hok J]; decide)]
  exact hK _ _ (next J w (fun _ _ _ _ => rfl) (hM.still (Below.refl _ _) hk rfl (fun _ _ _ h => by cases h)))
 | call v =>
  obtain ⟨h1, h2⟩ := hok J
  rw [if_pos h1]
  obtain ⟨f, args, h3, h4⟩ := h2 w (hS w hM.below)
  unfold Oper.wp
  rw [he, h3]
  refine Calls.mono h4 ?_
  rintro e w' ⟨rfl, hb⟩
  exact hK _ _ (next J w' (fun _ _ _ _ => rfl) (hM.still hb hk rfl (fun _ _ _ h => by cases h)))
 | over v j cs =>
  obtain ⟨h1, h2⟩ := hok J
  rw [if_pos h1]
  obtain ⟨u, hu⟩ := hL.over hk
  have hw : l.getD j false = true := waits_spec (hO.over ho hk) hedge
  have hf : fresh ks j = some cs := bornAt_cells hu
  have hm := hM.made j cs hf hw
  have hb := hM.raw j cs hf hw (fun s zs' cs' hs => by obtain ⟨t, ht⟩ := hL.at hs; rw [ht] at hu; cases hu)
  obtain ⟨f, args, h3, h4⟩ := h2 w₀ w (hS w₀ (Below.refl _ _)) hm.1 (hS w hM.below) hb hm.2
  unfold Oper.wp
  rw [he, h3]
  refine Calls.mono h4 ?_
  rintro e w' ⟨rfl, hb⟩
  exact hK _ _ (next J w' (fun _ _ _ _ => rfl) (hM.still hb hk rfl (fun _ _ _ h => by cases h)))
 | made zs t =>
  obtain ⟨h1, h2⟩ := hok J
  rw [if_pos h1]
  unfold Oper.wp
  rw [he, h2 w]
  have := next _ _ (fun j hj _ _ => if_neg hj) (hM.make hk rfl (fun _ _ _ h => by cases h) hun ((Below.refl _ _).alloc (Nat.le_refl _) _) (Nat.le_refl _) (by simp) (Blk.new w zs t))
  simp only [Kind.val, if_pos] at this
  exact hK _ _ this
 | born v cs =>
  obtain ⟨h1, h2⟩ := hok J
  rw [if_pos h1]
  obtain ⟨f, args, h3, h4⟩ := h2 w (hS w hM.below)
  unfold Oper.wp
  rw [he, h3]
  refine Calls.mono h4 ?_
  rintro e w' ⟨hb, g, rfl, hg1, hg2, hg3⟩
  have := next _ w' (fun j hj _ _ => if_neg hj) (hM.make hk rfl (fun _ _ _ h => by cases h) hun hb hg1 hg2 hg3)
  simp only [Kind.val, if_pos] at this
  exact hK _ _ this
 | bornX v cs =>
  obtain ⟨h1, h2⟩ := hok J
  rw [if_pos h1]
  obtain ⟨f, args, h3, h4⟩ := h2 w (hS w hM.below)
  unfold Oper.wp
  rw [he, h3]
  refine Calls.mono h4 ?_
  rintro e w' ⟨hb, g, x, y, rfl, hg1, hg2, hg3⟩
  have hM1 : Mem ks w₀ l (fun j => if j = i + 65536 then x else if j = i + 131072 then y else J j) w := hM.congr hL (by rw [hO.size]; exact hO.small) (fun j hj => by rw [if_neg (by omega), if_neg (by omega)])
  have := next _ w' (fun j hj hj2 hj3 => by rw [if_neg hj, if_neg hj2, if_neg hj3]) (hM1.make hk rfl (fun _ _ _ h => by cases h) hun hb hg1 hg2 hg3)
  simp only [Kind.val, if_pos] at this
  rw [if_neg (by omega), if_neg (by omega), if_neg (by omega)] at this
  exact hK _ _ this
 | laid j zs cs =>
  obtain ⟨h1, h2, h3, h4⟩ := hok J
  rw [if_pos h1]
  have hli : l.getD j false = true := waits_spec (hO.laid ho hk) hedge
  obtain ⟨hr, hM'⟩ := hM.lay hO hL ho hk h3 hun hli
  unfold Oper.wp
  rw [he, h4 w hr]
  exact hK _ _ (next J _ (fun _ _ _ _ => rfl) hM')
/-- Who waits for whom, by others that wait. -/
def waitsQ (full : Array Oper) : Nat → Oper → Nat → Bool
 | 0, o, j => waits o j
 | f + 1, o, j => waits o j || o.after.any fun e => Region.binds .any e && (match full[e.on]? with | some o' => waitsQ full f o' j | none => false)
/-- What was waited for is listed with who waited. -/
def Down (full : Array Oper) (l : Array Bool) : Prop := ∀ {i : Nat} {o : Oper}, full[i]? = some o → l.getD i false = true → ∀ e ∈ o.after, Region.binds .any e = true → l.getD e.on false = true
theorem waitsQ_spec {full : Array Oper} {l : Array Bool} (hd : Down full l) : ∀ (f : Nat) {o : Oper} {j : Nat}, waitsQ full f o j = true → (∀ e ∈ o.after, Region.binds .any e = true → l.getD e.on false = true) → l.getD j false = true
 | 0, o, j, h, he => waits_spec h he
 | f + 1, o, j, h, he => by
  unfold waitsQ at h
  rw [Bool.or_eq_true] at h
  rcases h with h | h
  ·exact waits_spec h he
  ·rw [Array.any_eq_true'] at h
   obtain ⟨e, hm, h2⟩ := h
   rw [Bool.and_eq_true] at h2
   have hl := he e hm h2.1
   cases ho : full[e.on]? with
   | none => rw [ho] at h2; exact absurd h2.2 (by simp)
   | some o' =>
    rw [ho] at h2
    exact waitsQ_spec hd f h2.2 (hd ho hl)
/-- The rest, in its order. -/
theorem rest_any {full : Array Oper} (p : Nat) (hup : ∀ {i : Nat} {o : Oper}, full[i]? = some o → ∀ e ∈ o.after, Region.binds .any e = true → e.on < i)
  (hwt : ∀ {i : Nat} {o : Oper}, full[i]? = some o → p ≤ i → ∀ j, j < i → waitsQ full 4 o j = true) : ∀ (m fuel q : Nat) (l : Array Bool) (a : Act) (w : World), q + m = full.size → p ≤ q → l.size = full.size → m ≤ fuel →
   (∀ i, i < q → l.getD i false = true) → (∀ i, q ≤ i → i < full.size → l.getD i true = false) → wpOps P full Q (List.range' q m) a w → wpAny P .any full Q fuel l a w := by
 intro m
 induction m with
 | zero =>
  intro fuel q l a w hq hpq hsz hfu hl hu h
  have hr : Region.ready .any full l = [] := by
   refine List.eq_nil_iff_forall_not_mem.2 fun i hi => ?_
   obtain ⟨h1, o, ho, _⟩ := mem_ready.1 hi
   have h2 := hl i (by have := (Array.getElem?_eq_some_iff.1 ho).1; omega)
   rw [(getD_same h1).1] at h2
   cases h2
  have hQ : Q .normal a w := h
  cases fuel with
  | zero => exact ⟨hr, hQ⟩
  | succ f => exact ⟨fun _ => hQ, by rw [hr]; simp⟩
 | succ m ih =>
  intro fuel q l a w hq hpq hsz hfu hl hu h
  cases fuel with
  | zero => omega
  | succ f =>
   have hqs : q < full.size := by omega
   have hqr : q ∈ Region.ready .any full l := mem_ready.2 ⟨hu q (Nat.le_refl _) hqs, full[q], Array.getElem?_eq_getElem hqs, fun e he hb => hl _ (hup (Array.getElem?_eq_getElem hqs) e he hb)⟩
   refine ⟨fun hr => absurd hqr (by rw [hr]; simp), fun i hi => ?_⟩
   obtain ⟨hun, o, ho, hedge⟩ := mem_ready.1 hi
   have hilt : i < full.size := (Array.getElem?_eq_some_iff.1 ho).1
   have hiq : i = q := by
    rcases Nat.lt_trichotomy i q with h' | h' | h'
    ·have h2 := hl i h'
     rw [(getD_same hun).1] at h2
     cases h2
    ·exact h'
    ·have hd : Down full l := fun {i' o'} ho' hl' e he hb => by
      have h3 := hup ho' e he hb
      rcases Nat.lt_or_ge i' q with h4 | h4
      ·exact hl _ (by omega)
      ·have h5 := (getD_same (hu i' h4 (Array.getElem?_eq_some_iff.1 ho').1)).1
       rw [h5] at hl'
       cases hl'
     have h2 := waitsQ_spec hd 4 (hwt ho (by omega) q h') hedge
     rw [(getD_same (hu q (Nat.le_refl _) hqs)).1] at h2
     cases h2
   subst hiq
   rw [List.range'_succ, wpOps_cons] at h
   refine wpOp_mono (fun a' w' h' => ?_) h
   refine ih f (i + 1) _ a' w' (by omega) (by omega) (by simp [hsz]) (by omega) (fun j hj => ?_) (fun j hj hj2 => ?_) h'
   ·rcases Nat.lt_or_ge j i with h2 | h2
    ·exact getD_true (hl j h2)
    ·have : j = i := by omega
     subst this
     exact (getD_same hun).2
   ·rw [getD_set_ne true (by omega)]
    exact hu j (by omega) hj2
theorem whole_of {p : Nat} {l : Array Bool} {J : Nat → Nat} {a : Act} (hp : ops.size = p) (h : Agree ops ks a₀ l J a) (hl : ∀ i, i < p → l.getD i false = true) : a = zZ J 0 ops.toList ks a₀ := h.whole (fun i hi => hl i (by omega))
theorem down_set {full : Array Oper} {l : Array Bool} (hd : Down full l) {i : Nat} {o : Oper} (ho : full[i]? = some o) (hedge : ∀ e ∈ o.after, Region.binds .any e = true → l.getD e.on false = true) : Down full (l.setIfInBounds i true) := by
 intro i' o' ho' hl' e he hb
 by_cases h : i = i'
 ·subst h
  rw [ho] at ho'
  injection ho' with ho'
  subst ho'
  exact getD_true (hedge e he hb)
 ·rw [getD_set_ne false h] at hl'
  exact getD_true (hd ho' hl' e he hb)
theorem first_any {full : Array Oper} {n p : Nat} (hO : Orderly ops ks n) (hn : n = a₀.tmps.size) (hL : LaidOk ks ks) {S : World → Prop} (hS : ∀ w, Below w₀.heap.size w₀ w → S w)
  (hp : ops.size = p) (hpf : p ≤ full.size) (hfull : ∀ i, i < p → full[i]? = ops[i]?) (hgd : ∀ {i : Nat} {o : Oper} {g : Nat} {b : Bool}, ops[i]? = some o → o.guard = some (g, b) → g < p)
  (hup : ∀ {i : Nat} {o : Oper}, full[i]? = some o → ∀ e ∈ o.after, Region.binds .any e = true → e.on < i)
  (hwt : ∀ {i : Nat} {o : Oper}, full[i]? = some o → p ≤ i → ∀ j, j < i → waitsQ full 4 o j = true)
  (hops : AllOk P ops S (fun J => zZ J 0 ops.toList ks a₀) ops.toList ks)
  (hend : ∀ J w l, Mem ks w₀ l J w → (∀ i, i < p → l.getD i false = true) → wpOps P full Q (List.range' p (full.size - p)) (zZ J 0 ops.toList ks a₀) w) :
  ∀ (fuel : Nat) (l : Array Bool) (J : Nat → Nat) (a : Act) (w : World), l.size = full.size → l.toList.count false ≤ fuel → full.size - p ≤ fuel → (∀ i, p ≤ i → i < full.size → l.getD i true = false) → Down full l → Agree ops ks a₀ l J a → Mem ks w₀ l J w → wpAny P .any full Q fuel l a w := by
 intro fuel
 induction fuel with
 | zero =>
  intro l J a w hsz hc hpl hu hdn hA hM
  have hall : ∀ i, i < p → l.getD i false = true := fun i hi => by
   cases hb : l.getD i true with
   | false => have := count_set hb; omega
   | true =>
    have hi' : i < l.size := by omega
    simpa [hi'] using hb
  rw [whole_of hp hA hall]
  exact rest_any p hup hwt (full.size - p) 0 p l _ w (by omega) (Nat.le_refl _) hsz (by omega) hall hu (hend J w l hM hall)
 | succ fuel ih =>
  intro l J a w hsz hc hpl hu hdn hA hM
  by_cases hall : ∀ i, i < p → l.getD i false = true
  ·rw [whole_of hp hA hall]
   exact rest_any p hup hwt (full.size - p) (fuel + 1) p l _ w (by omega) (Nat.le_refl _) hsz (by omega) hall hu (hend J w l hM hall)
  ·have hex : ∃ x, x < p ∧ l.getD x false = false := by
    apply Classical.byContradiction
    intro hno
    apply hall
    intro i hi
    cases hb : l.getD i false with
    | true => rfl
    | false => exact absurd ⟨i, hi, hb⟩ hno
   obtain ⟨x, hx, hxf⟩ := hex
   have hlow : ∀ i ∈ Region.ready .any full l, i < p := fun i hi => by
    obtain ⟨hun, o, ho, hedge⟩ := mem_ready.1 hi
    rcases Nat.lt_or_ge i p with h' | h'
    ·exact h'
    ·have := waitsQ_spec hdn 4 (hwt ho h' x (by omega)) hedge
     rw [hxf] at this
     cases this
   have hcnt : full.size - p + 1 ≤ l.toList.count false := by
    have h1 : l.getD x true = false := by
     have hx' : x < l.size := by omega
     simpa [hx'] using hxf
    have h2 := count_set h1
    have h3 : ∀ (m : Nat) (l : Array Bool), l.size = full.size → m ≤ full.size - p → (∀ i, full.size - m ≤ i → i < full.size → l.getD i true = false) → m ≤ l.toList.count false := by
     intro m
     induction m with
     | zero => intro l _ _ _; omega
     | succ m ih =>
      intro l hs hm hl
      have h4 := count_set (hl (full.size - (m + 1)) (Nat.le_refl _) (by omega))
      have h5 := ih (l.setIfInBounds (full.size - (m + 1)) true) (by simp [hs]) (by omega) (fun i hi1 hi2 => by rw [getD_set_ne true (by omega)]; exact hl i (by omega) hi2)
      omega
    have h6 := h3 (full.size - p) (l.setIfInBounds x true) (by simp [hsz]) (Nat.le_refl _) (fun i hi1 hi2 => by rw [getD_set_ne true (by omega)]; exact hu i (by omega) hi2)
    omega
   refine ⟨fun hr => ?_, fun i hi => ?_⟩
   ·exfalso
    have : ∀ i, i < full.size → l.getD i false = true := by
     intro i
     induction i using Nat.strongRecOn with
     | _ i ih2 =>
      intro hi
      have hi' : i < l.size := by omega
      cases hl : l.getD i true with
      | true => simpa [hi'] using hl
      | false =>
       exfalso
       have : i ∈ Region.ready .any full l := mem_ready.2 ⟨hl, full[i], Array.getElem?_eq_getElem hi, fun e he hb => by
        have h1 := hup (Array.getElem?_eq_getElem hi) e he hb
        exact ih2 e.on h1 (by omega)⟩
       rw [hr] at this
       cases this
    rw [this x (by omega)] at hxf
    cases hxf
   ·have hip := hlow i hi
    obtain ⟨hun, o, ho, hedge⟩ := mem_ready.1 hi
    have ho' : ops[i]? = some o := by rw [← hfull i hip]; exact ho
    have hc' := count_set hun
    refine kind_step hO hn hL hS hfull hgd hops hA hM hip ho' hun hedge (fun J' a' w' hA' hM' => ?_)
    exact ih _ J' a' w' (by simp [hsz]) (by omega) (by omega) (fun j hj hj2 => by rw [getD_set_ne true (by omega)]; exact hu j hj hj2) (down_set hdn ho hedge) hA' hM'
theorem first_seq {full : Array Oper} {n p : Nat} (hO : Orderly ops ks n) (hn : n = a₀.tmps.size) (hL : LaidOk ks ks) {S : World → Prop} (hS : ∀ w, Below w₀.heap.size w₀ w → S w)
  (hp : ops.size = p) (hpf : p ≤ full.size) (hfull : ∀ i, i < p → full[i]? = ops[i]?) (hgd : ∀ {i : Nat} {o : Oper} {g : Nat} {b : Bool}, ops[i]? = some o → o.guard = some (g, b) → g < p)
  (hops : AllOk P ops S (fun J => zZ J 0 ops.toList ks a₀) ops.toList ks)
  (hend : ∀ J w l, Mem ks w₀ l J w → (∀ i, i < p → l.getD i false = true) → wpOps P full Q (List.range' p (full.size - p)) (zZ J 0 ops.toList ks a₀) w) :
  ∀ (m q : Nat) (l : Array Bool) (J : Nat → Nat) (a : Act) (w : World), q + m = p → l.size = p → (∀ i, i < q → l.getD i false = true) → (∀ i, q ≤ i → i < p → l.getD i true = false) → Agree ops ks a₀ l J a → Mem ks w₀ l J w → wpOps P full Q (List.range' q (full.size - q)) a w := by
 intro m
 induction m with
 | zero =>
  intro q l J a w hq hsz hl hu hA hM
  have hqp : q = p := by omega
  subst hqp
  rw [whole_of hp hA hl]
  exact hend J w l hM hl
 | succ m ih =>
  intro q l J a w hq hsz hl hu hA hM
  have hqs : q < ops.size := by omega
  have ho : ops[q]? = some ops[q] := Array.getElem?_eq_getElem hqs
  have hun := hu q (Nat.le_refl _) (by omega)
  obtain ⟨r, hr⟩ : ∃ r, full.size - q = r + 1 := ⟨full.size - q - 1, by omega⟩
  rw [hr, List.range'_succ, wpOps_cons]
  refine kind_step hO hn hL hS hfull hgd hops hA hM (by omega) ho hun (fun e he hb => hl _ (hO.up ho e he hb)) (fun J' a' w' hA' hM' => ?_)
  have := ih (q + 1) _ J' a' w' (by omega) (by simp [hsz]) (fun j hj => ?_) (fun j hj hj2 => ?_) hA' hM'
  ·rwa [show full.size - (q + 1) = r by omega] at this
  ·rcases Nat.lt_or_ge j q with h2 | h2
   ·exact getD_true (hl j h2)
   ·have : j = q := by omega
    subst this
    exact (getD_same hun).2
  ·rw [getD_set_ne true (by omega)]
   exact hu j (by omega) hj2
/-- What is to be looked up of the whole region: nobody waits for a later one; who comes behind the first p waits for all ahead. -/
def chained (full : Array Oper) (p : Nat) : Bool :=
 eachOp full (fun i o => o.after.all fun e => !Region.binds .any e || decide (e.on < i)) &&
 eachOp full (fun i o => decide (i < p) || (List.range i).all fun j => waitsQ full 4 o j)
def guarded (ops : Array Oper) (p : Nat) : Bool := eachOp ops (fun _ o => match o.guard with | some (g, _) => decide (g < p) | none => true)
theorem guarded_spec {ops : Array Oper} {p : Nat} (h : guarded ops p = true) {i : Nat} {o : Oper} {g : Nat} {b : Bool} (ho : ops[i]? = some o) (hg : o.guard = some (g, b)) : g < p := by
 have := zR h ho
 simpa [hg] using this
theorem first_full {full : Array Oper} {p i : Nat} (h : i < p) : full[i]? = (full.extract 0 p)[i]? := by
 by_cases hi : i < full.size
 ·rw [Array.getElem?_eq_getElem hi, Array.getElem?_eq_getElem (by simp; omega)]
  simp
 ·rw [Array.getElem?_eq_none (by omega), Array.getElem?_eq_none (by simp; omega)]
theorem none_listed (n i : Nat) : (Array.replicate n false).getD i false = false := by
 rcases Nat.lt_or_ge i n with h | h <;> simp [h]
theorem none_listed' {n i : Nat} (h : i < n) : (Array.replicate n false).getD i true = false := by simp [h]
theorem start_agree {ops : Array Oper} {ks : List Kind} {a : Act} (n : Nat) (J : Nat → Nat) : Agree ops ks a (Array.replicate n false) J a := by
 refine ⟨rfl, rfl, fun d hd => ?_⟩
 have hno : ∀ o' ∈ ops.toList, o'.dst ≠ some d := fun o' ho' hd' => by
  obtain ⟨j, hj, ej⟩ := List.getElem_of_mem ho'
  have := hd j o' (by rw [← Array.getElem?_toList, List.getElem?_eq_getElem hj, ej]) hd'
  rw [none_listed] at this
  cases this
 rw [fill_other _ d 0 _ _ _ hno]
theorem start_mem {ks : List Kind} {w w' : World} (n : Nat) (J : Nat → Nat) (h : Below w.heap.size w w') : Mem ks w (Array.replicate n false) J w' := by
 refine ⟨h, ?_, ?_, ?_, ?_, ?_⟩
 ·intro i zs _ h; rw [none_listed] at h; cases h
 ·intro i zs _ h; rw [none_listed] at h; cases h
 ·intro s i zs cs _ h; rw [none_listed] at h; cases h
 ·intro s i zs cs _ h; rw [none_listed] at h; cases h
 ·intro i j zs zs' _ _ h; rw [none_listed] at h; cases h
/-- **The law of a region that draws its order**: its first p operations in no order, the rest in its order. -/
theorem region_any {full : Array Oper} {id : Nat} {a : Act} {w : World} (hm : P.follows .mixedOrders = true) (p : Nat) (ks : List Kind) (S : World → Prop) (F : (Nat → Nat) → Act)
  (hF : ∀ J, zZ J 0 (full.extract 0 p).toList ks a = F J) (hor : (orderly (full.extract 0 p) ks a.tmps.size && guarded (full.extract 0 p) p && chained full p && decide (p ≤ full.size)) = true) (hL : LaidOk ks ks) (hS : ∀ w', Below w.heap.size w w' → S w')
  (hops : AllOk P (full.extract 0 p) S F (full.extract 0 p).toList ks)
  (hend : ∀ J w' l, Mem ks w l J w' → (∀ i, i < p → l.getD i false = true) → wpOps P full Q (List.range' p (full.size - p)) (F J) w') :
  (Code.region id full true).wp P Q a w := by
 obtain rfl : (fun J => zZ J 0 (full.extract 0 p).toList ks a) = F := funext hF
 simp only [Bool.and_eq_true, decide_eq_true_eq] at hor
 obtain ⟨⟨⟨h1, h2⟩, h3⟩, h4⟩ := hor
 unfold chained at h3
 simp only [Bool.and_eq_true] at h3
 obtain ⟨h5, h6⟩ := h3
 refine wp_region_any hm (first_any (Orderly.of h1) rfl hL hS (by simp; omega) h4 (fun i hi => first_full hi) (fun ho hg => guarded_spec h2 ho hg) (fun ho e he hb => ?_) (fun ho hi j hj => ?_) hops hend full.size _ (fun _ => 0) a w.drew (by simp) (by simp) (by omega) (fun i _ hi => none_listed' hi) (fun _ hl _ _ _ => by rw [none_listed] at hl; cases hl) (start_agree _ _) (start_mem _ _ (Below.refl _ _).drew))
 ·have := Array.all_eq_true_iff_forall_mem.1 (zR h5 ho) e he
  simpa [hb] using this
 ·have := zR h6 ho
  simp only [Bool.or_eq_true, decide_eq_true_eq] at this
  rcases this with h7 | h7
  ·omega
  ·exact List.all_eq_true.1 h7 j (List.mem_range.2 hj)
/-- **The law of a region that keeps its order.** -/
theorem region_seq {full : Array Oper} {id : Nat} {a : Act} {w : World} (p : Nat) (ks : List Kind) (S : World → Prop) (F : (Nat → Nat) → Act)
  (hF : ∀ J, zZ J 0 (full.extract 0 p).toList ks a = F J) (hor : (orderly (full.extract 0 p) ks a.tmps.size && guarded (full.extract 0 p) p && decide (p ≤ full.size)) = true) (hL : LaidOk ks ks) (hS : ∀ w', Below w.heap.size w w' → S w')
  (hops : AllOk P (full.extract 0 p) S F (full.extract 0 p).toList ks)
  (hend : ∀ J w' l, Mem ks w l J w' → (∀ i, i < p → l.getD i false = true) → wpOps P full Q (List.range' p (full.size - p)) (F J) w') :
  (Code.region id full false).wp P Q a w := by
 obtain rfl : (fun J => zZ J 0 (full.extract 0 p).toList ks a) = F := funext hF
 simp only [Bool.and_eq_true, decide_eq_true_eq] at hor
 obtain ⟨⟨h1, h2⟩, h4⟩ := hor
 refine wp_region ?_
 rw [List.range_eq_range']
 exact first_seq (Orderly.of h1) rfl hL hS (by simp; omega) h4 (fun i hi => first_full hi) (fun ho hg => guarded_spec h2 ho hg) hops hend p 0 (Array.replicate p false) (fun _ => 0) a w (by omega) (by simp) (fun i hi => by omega) (fun i _ hi => none_listed' hi) (start_agree _ _) (start_mem _ _ (Below.refl _ _))
end
/-! The rest, one by one. -/
section
variable {P : Program} {ops : Array Oper} {Q : Exit → Act → World → Prop} {a : Act} {w : World}
theorem zE (h : Q .normal a w) : wpOps P ops Q [] a w := h
theorem rest_value {i : Nat} {r : List Nat} {o : Oper} {v : Value} {w' : World} (ho : ops[i]? = some o) (hw : Region.wanted o (yielded ops a.tmps) = true) (hx : (execOp a.eval o).run P w = .ok (.value v) w') (h : wpOps P ops Q r (a.put o.dst v) w') : wpOps P ops Q (i :: r) a w := by
 rw [wpOps_cons]
 refine wpOp_step ho (fun K' hK => ?_)
 rw [if_pos hw]
 unfold Oper.wp
 rw [hx]
 exact hK _ _ h
theorem rest_skip {i : Nat} {r : List Nat} {o : Oper} {w' : World} (ho : ops[i]? = some o) (hw : Region.wanted o (yielded ops a.tmps) = true) (hx : (execOp a.eval o).run P w = .ok .skip w') (h : wpOps P ops Q r (a.put o.dst undef) w') : wpOps P ops Q (i :: r) a w := by
 rw [wpOps_cons]
 refine wpOp_step ho (fun K' hK => ?_)
 rw [if_pos hw]
 unfold Oper.wp
 rw [hx]
 exact hK _ _ h
theorem rest_call {i : Nat} {r : List Nat} {o : Oper} {f : FuncId} {args : Array Value} {R : Value → World → Prop} (ho : ops[i]? = some o) (hw : Region.wanted o (yielded ops a.tmps) = true) (hx : (execOp a.eval o).run P w = .ok (.enter f args) w)
  (hc : Calls P f args w (fun e w' => ∃ v, e = .returned v ∧ R v w')) (h : ∀ v w', R v w' → wpOps P ops Q r (a.put o.dst v) w') : wpOps P ops Q (i :: r) a w := by
 rw [wpOps_cons]
 refine wpOp_step ho (fun K' hK => ?_)
 rw [if_pos hw]
 unfold Oper.wp
 rw [hx]
 refine Calls.mono hc ?_
 rintro e w' ⟨v, rfl, hr⟩
 exact hK _ _ (h v w' hr)
end
end Rg
end Go.Proofs.YtmanelnacifgcaaGreatDoor
end
section
namespace Go.Proofs.YtmanelnacifgcaaGreatDoor
open Go.RowKit
theorem exec_eq6 {ρ : Operand → Value} {o : Oper} {i j : Tmp} {v v' : Nat} {t : Bool} {w : World} (he : ∀ w, (Op.equalIn 10000 24 (N v) (N v')).run Tryz.prog w = .ok t w) (ho : o.op = .binOp .eql 24 (.tmp i) (.tmp j) 24) (hx : ρ (.tmp i) = N v) (hy : ρ (.tmp j) = N v') :
  (execOp ρ o).run Tryz.prog w = .ok (.value (.bool t)) w := by
 simp only [execOp, ho, hx, hy]
 clear hx hy
 go_simp
theorem exec_neq6 {ρ : Operand → Value} {o : Oper} {i j : Tmp} {v v' : Nat} {t : Bool} {w : World} (he : ∀ w, (Op.equalIn 10000 24 (N v) (N v')).run Tryz.prog w = .ok t w) (ho : o.op = .binOp .neq 24 (.tmp i) (.tmp j) 24) (hx : ρ (.tmp i) = N v) (hy : ρ (.tmp j) = N v') :
  (execOp ρ o).run Tryz.prog w = .ok (.value (.bool !t)) w := by
 simp only [execOp, ho, hx, hy]
 clear hx hy
 go_simp
end Go.Proofs.YtmanelnacifgcaaGreatDoor
end
section
namespace Go.Proofs.YtmanelnacifgcaaGreatDoor
open Go.RowKit
namespace Rg
/-- The blocks of the list are there, apart from each other, and hold these cells. -/
structure Mm (w : World) (l : List (Nat × List Value)) : Prop where
 blk : ∀ p ∈ l, p.1 < w.heap.size ∧ Blk w p.1 p.2
 nd : l.Pairwise (fun a b => a.1 ≠ b.1)
theorem Mm.nil (w : World) : Mm w [] := ⟨fun p h => absurd h (by simp), List.Pairwise.nil⟩
theorem Mm.below {w w1 : World} {l : List (Nat × List Value)} (h : Mm w l) (hb : Below w.heap.size w w1) : Mm w1 l :=
 ⟨fun p hp => ⟨Nat.lt_of_lt_of_le (h.blk p hp).1 hb.size, (h.blk p hp).2.below hb (h.blk p hp).1⟩, h.nd⟩
theorem Mm.drew {w : World} {l : List (Nat × List Value)} (h : Mm w l) : Mm w.drew l := h.below (Below.refl _ _).drew
theorem Mm.cons {w : World} {l : List (Nat × List Value)} (h : Mm w l) {g : Nat} {cs : List Value} (hb : Blk w g cs) (hg : g < w.heap.size) (hn : ∀ p ∈ l, p.1 ≠ g) : Mm w ((g, cs) :: l) :=
 ⟨fun p hp => by
  rcases List.mem_cons.1 hp with e | hp
  ·subst e; exact ⟨hg, hb⟩
  ·exact h.blk p hp, List.Pairwise.cons (fun p hp => (hn p hp).symm) h.nd⟩
theorem Mm.alloc {w : World} {l : List (Nat × List Value)} (h : Mm w l) (cs : List Value) (t : TypeId) {g : Nat} (hg : g = w.heap.size) : Mm (w.alloc (.cells cs.toArray t)) ((g, cs) :: l) := by
 subst hg
 exact (h.below ((Below.refl _ _).alloc (Nat.le_refl _) _)).cons (Blk.new w cs t) (by simp) (fun p hp => by have := (h.blk p hp).1; omega)
theorem Mm.sub {w : World} {l l' : List (Nat × List Value)} (h : Mm w l) (hs : l'.Sublist l) : Mm w l' := ⟨fun p hp => h.blk p (hs.subset hp), h.nd.sublist hs⟩
theorem Mm.tail {w : World} {p : Nat × List Value} {l : List (Nat × List Value)} (h : Mm w (p :: l)) : Mm w l := h.sub (List.sublist_cons_self _ _)
theorem Mm.cell {w : World} {l : List (Nat × List Value)} (h : Mm w l) {g : Nat} {cs : List Value} (hm : (g, cs) ∈ l) {k : Nat} {v : Value} (hk : cs[k]? = some v) : w.cell? ⟨g, k, none⟩ = some v := ((h.blk _ hm).2 k v hk).1
theorem Mm.free {w : World} {l : List (Nat × List Value)} (h : Mm w l) {g : Nat} {cs : List Value} (hm : (g, cs) ∈ l) {k : Nat} {v : Value} (hk : cs[k]? = some v) : w.frozen? ⟨g, k, none⟩ = false := ((h.blk _ hm).2 k v hk).2
theorem Mm.lt {w : World} {l : List (Nat × List Value)} (h : Mm w l) {g : Nat} {cs : List Value} (hm : (g, cs) ∈ l) : g < w.heap.size := (h.blk _ hm).1
/-! What a region leaves. -/
def laidOn (i : Nat) : List Kind → Option (List Value)
 | [] => none
 | (Sum.inr (Sum.inr (Sum.inr (Sum.inr (Sum.inl (j, _, cs)))))) :: r => if j = i then some cs else laidOn i r
 | _ :: r => laidOn i r
def fin (ks : List Kind) (i : Nat) : List Value := match laidOn i ks with | some cs => cs | none => (fresh ks i).getD []
theorem laidOn_some {i : Nat} {cs : List Value} : ∀ {ks : List Kind}, laidOn i ks = some cs → ∃ (s : Nat) (zs : List Value), ks[s]? = some (.laid i zs cs)
 | [], h => by cases h
 | k :: r, h => by
  cases k using Kind.each with
  | laid j zs cs' =>
   unfold laidOn at h
   split at h
   ·rename_i e
    injection h with h
    subst h e
    exact ⟨0, zs, rfl⟩
   ·obtain ⟨s, z, hs⟩ := laidOn_some h
    exact ⟨s + 1, z, hs⟩
  | _ =>
   obtain ⟨s, z, hs⟩ := laidOn_some (ks := r) h
   exact ⟨s + 1, z, hs⟩
theorem laidOn_none {i : Nat} : ∀ {ks : List Kind}, laidOn i ks = none → ∀ (s : Nat) (zs cs : List Value), ks[s]? ≠ some (.laid i zs cs)
 | [], _ => fun _ _ _ h => by simp at h
 | k :: r, h => by
  intro s zs cs hs
  have hr : laidOn i r = none := by
   cases k using Kind.each with
   | laid j z c => unfold laidOn at h; split at h <;> first | cases h | exact h
   | _ => exact h
  cases s with
  | zero =>
   simp at hs
   subst hs
   unfold laidOn at h
   rw [if_pos rfl] at h
   cases h
  | succ s => exact laidOn_none hr s zs cs (by simpa using hs)
theorem Mem.fin {ks : List Kind} {w₀ w : World} {l : Array Bool} {J : Nat → Nat} (h : Mem ks w₀ l J w) {p : Nat} (hp : ks.length ≤ p) (hl : ∀ i, i < p → l.getD i false = true) {i : Nat} (hi : (fresh ks i).isSome = true) :
  Blk w (J i) (fin ks i) ∧ w₀.heap.size ≤ J i ∧ J i < w.heap.size := by
 obtain ⟨zs, hz⟩ := Option.isSome_iff_exists.1 hi
 have hlt : ∀ (s : Nat) (k : Kind), ks[s]? = some k → l.getD s false = true := fun s k hs => hl s (by have := (List.getElem?_eq_some_iff.1 hs).1; omega)
 have hil : l.getD i false = true := by
  unfold fresh at hz
  cases hk : ks[i]? with
  | none => rw [hk] at hz; cases hz
  | some k => exact hlt i k hk
 refine ⟨?_, h.made i zs hz hil⟩
 unfold Rg.fin
 cases hL : laidOn i ks with
 | some cs =>
  obtain ⟨s, z, hs⟩ := laidOn_some hL
  exact (h.full s i z cs hs (hlt s _ hs)).1
 | none =>
  rw [hz]
  exact h.raw i zs hz hil (fun s z c hs => absurd hs (laidOn_none hL s z c))
/-- The blocks that a region made, beside those that were there. -/
theorem Mm.grow {ks : List Kind} {w₀ w : World} {l : Array Bool} {J : Nat → Nat} {L : List (Nat × List Value)} (hm : Mm w₀ L) (h : Mem ks w₀ l J w) {p : Nat} (hp : ks.length ≤ p) (hl : ∀ i, i < p → l.getD i false = true) :
  ∀ (is : List Nat), (is.all fun i => (fresh ks i).isSome) = true → is.Pairwise (· ≠ ·) → Mm w (is.map (fun i => (J i, fin ks i)) ++ L)
 | [], _, _ => hm.below h.below
 | i :: is, ha, hn => by
  simp only [List.all_cons, Bool.and_eq_true] at ha
  have ih := Mm.grow hm h hp hl is ha.2 (List.Pairwise.of_cons hn)
  obtain ⟨h1, h2, h3⟩ := h.fin hp hl ha.1
  refine ih.cons h1 h3 (fun q hq => ?_)
  rcases List.mem_append.1 hq with hq | hq
  ·obtain ⟨j, hj, e⟩ := List.mem_map.1 hq
   subst e
   have hjs := List.all_eq_true.1 ha.2 j hj
   obtain ⟨zi, hzi⟩ := Option.isSome_iff_exists.1 ha.1
   obtain ⟨zj, hzj⟩ := Option.isSome_iff_exists.1 hjs
   have hlist : ∀ {x : Nat} {z : List Value}, fresh ks x = some z → l.getD x false = true := fun {x z} hx => by
    unfold fresh at hx
    cases hk : ks[x]? with
    | none => rw [hk] at hx; cases hx
    | some k => exact hl x (by have := (List.getElem?_eq_some_iff.1 hk).1; omega)
   exact h.apart j i zj zi hzj hzi (hlist hzj) (hlist hzi) (fun e => (List.rel_of_pairwise_cons hn hj) e.symm)
  ·have := (hm.blk q hq).1
   omega
/-- A store into a block of the list. -/
def patch (cs : List Value) (off : Nat) (vs : List Value) : List Value := cs.take off ++ vs ++ cs.drop (off + vs.length)
theorem patch_get (cs : List Value) (off : Nat) (vs : List Value) (h : off + vs.length ≤ cs.length) (k : Nat) : (patch cs off vs)[k]? = if off ≤ k ∧ k < off + vs.length then vs[k - off]? else cs[k]? := by
 unfold patch
 by_cases h1 : k < off
 ·rw [if_neg (by omega), List.append_assoc, List.getElem?_append_left (by simp; omega), List.getElem?_take, if_pos h1]
 ·by_cases h2 : k < off + vs.length
  ·rw [if_pos ⟨by omega, h2⟩, List.append_assoc, List.getElem?_append_right (by simp; omega), List.getElem?_append_left (by simp; omega)]
   congr 1
   simp; omega
  ·rw [if_neg (by omega), List.getElem?_append_right (by simp; omega), List.getElem?_drop]
   congr 1
   simp; omega
theorem Blk.patch {w : World} {g : Nat} {cs : List Value} (h : Blk w g cs) (off : Nat) (vs : List Value) (hl : off + vs.length ≤ cs.length) : Blk (w.setCells g off vs) g (patch cs off vs) := fun j v hv => by
 rw [patch_get _ _ _ hl] at hv
 split at hv
 ·rename_i hj
  have hz : cs[j]? = some (cs[j]'(by omega)) := List.getElem?_eq_getElem _
  refine ⟨?_, by rw [World.frozen?_setCells]; exact (h j _ hz).2⟩
  have := World.cell?_setCells_in g vs off w (fun i hi => by
   have := (h (off + i) _ (List.getElem?_eq_getElem (show off + i < cs.length by omega))).1
   rw [this]; rfl) (j - off) (by omega)
  rw [show off + (j - off) = j by omega] at this
  rw [this]
  obtain ⟨h1, h2⟩ := List.getElem?_eq_some_iff.1 hv
  rw [← h2]
 ·rename_i hj
  exact ⟨by rw [World.cell?_setCells_out g vs off w _ (fun _ => by simp; omega)]; exact (h j v hv).1, by rw [World.frozen?_setCells]; exact (h j v hv).2⟩
theorem Blk.apart {w : World} {g g' off : Nat} {cs vs : List Value} (h : Blk w g cs) (hg : g ≠ g') : Blk (w.setCells g' off vs) g cs := fun j v hv =>
 ⟨by rw [World.cell?_setCells_out g' vs off w _ (fun e => absurd e hg)]; exact (h j v hv).1, by rw [World.frozen?_setCells]; exact (h j v hv).2⟩
theorem Mm.put {w : World} {l : List (Nat × List Value)} (h : Mm w l) (k : Nat) {g off : Nat} {cs vs : List Value} (hk : l[k]? = some (g, cs)) (hl : off + vs.length ≤ cs.length) : Mm (w.setCells g off vs) (l.set k (g, patch cs off vs)) := by
 have hkl : k < l.length := (List.getElem?_eq_some_iff.1 hk).1
 have hke : l[k] = (g, cs) := (List.getElem?_eq_some_iff.1 hk).2
 have hpw := List.pairwise_iff_getElem.1 h.nd
 refine ⟨fun p hp => ?_, ?_⟩
 ·rw [size_setCells]
  obtain ⟨j, hj, e⟩ := List.getElem_of_mem hp
  rw [List.getElem_set] at e
  have hj' : j < l.length := by simpa using hj
  split at e
  ·subst e
   have := h.blk _ (List.mem_of_getElem? hk)
   exact ⟨this.1, Blk.patch this.2 off vs hl⟩
  ·rename_i hne
   subst e
   have := h.blk _ (List.getElem_mem hj')
   refine ⟨this.1, Blk.apart this.2 ?_⟩
   rcases Nat.lt_or_ge j k with h' | h'
   ·have := hpw j k hj' hkl h'
    rw [hke] at this
    exact this
   ·have := hpw k j hkl hj' (by omega)
    rw [hke] at this
    exact this.symm
 ·refine List.pairwise_iff_getElem.2 fun i j hi hj hij => ?_
  have hi' : i < l.length := by simpa using hi
  have hj' : j < l.length := by simpa using hj
  have := hpw i j hi' hj' hij
  rw [List.getElem_set, List.getElem_set]
  split
  ·rename_i e1
   subst e1
   rw [if_neg (by omega)]
   rw [hke] at this
   exact this
  ·split
   ·rename_i e2
    subst e2
    rw [hke] at this
    exact this
   ·exact this
/-- A row of bytes. -/
def by8 (f : Nat → Int) (n : Nat) : List Value := (List.range n).map fun j => .int .u8 (f j)
theorem by8_len (f : Nat → Int) (n : Nat) : (by8 f n).length = n := by simp [by8]
theorem by8_get (f : Nat → Int) {n j : Nat} (h : j < n) : (by8 f n)[j]? = some (.int .u8 (f j)) := by
 unfold by8
 rw [List.getElem?_map, List.getElem?_eq_getElem (by simpa using h), List.getElem_range]
 rfl
theorem by8_inv {f : Nat → Int} {n j : Nat} {v : Value} (h : (by8 f n)[j]? = some v) : j < n ∧ v = .int .u8 (f j) := by
 have hj : j < n := by
  have := (List.getElem?_eq_some_iff.1 h).1
  rwa [by8_len] at this
 rw [by8_get f hj] at h
 exact ⟨hj, (Option.some.inj h).symm⟩
theorem blk_row8 {w : World} {g n : Nat} {f : Nat → Int} (h : Row8 w g n f) : Blk w g (by8 f n) := fun j v hj => by
 obtain ⟨h1, rfl⟩ := by8_inv hj
 exact h j h1
theorem row8_blk {w : World} {g n : Nat} {f : Nat → Int} (h : Blk w g (by8 f n)) : Row8 w g n f := fun j hj => h j _ (by8_get f hj)
/-- A number's bytes, the highest first. -/
def nby (a : Nat) : Nat → Int := fun p => (bt a (47 - p) : Int)
theorem bytesB (a : Nat) (w : World) : Calls Tryz.prog 50 #[N a] w fun e w' => Below w.heap.size w w' ∧ ∃ g, e = .returned (.slice (some ⟨g, 0, none⟩) 48 48) ∧ w.heap.size ≤ g ∧ g < w'.heap.size ∧ Blk w' g (by8 (nby a) 48) :=
 (bytes_any a w).mono fun e w' ⟨he, hs, hr, hb⟩ => ⟨hb, w.heap.size + 1, he, by omega, hs, blk_row8 hr⟩
set_option maxHeartbeats 2000000 in
/-- Clone of bytes: a row of its own. -/
theorem clone_any (b off n c : Nat) (f : Nat → Int) (w : World) (hn : 0 < n) (hbig : n ≤ 1048576) (hc : ∀ j, j < n → w.cell? ⟨b, off + j, none⟩ = some (.int .u8 (f j))) :
  Calls Tryz.prog 122 #[.slice (some ⟨b, off, none⟩) n c] w fun e w' => Below w.heap.size w w' ∧ ∃ g cap, e = .returned (.slice (some ⟨g, 0, none⟩) n cap) ∧ w.heap.size ≤ g ∧ g < w'.heap.size ∧ Blk w' g (by8 f n) := by
 obtain ⟨i0, hi⟩ : ∃ i0, Tryz.prog.info? 5 = some i0 := Option.isSome_iff_exists.1 (by kernel_rfl)
 have hz : (Tryz.prog.info? 5).map (fun i => (i.zero, i.size, i.bytes)) = some (some (.int .u8 0), 1, 1) := by kernel_rfl
 rw [hi] at hz
 simp only [Option.map_some, Option.some.injEq, Prod.mk.injEq] at hz
 obtain ⟨hz0, hz1, hz2⟩ := hz
 have q22 : ∀ (w : World) (a : Option Addr) (n c n' c' : Nat), (binOp .eql 55 (.slice a n c) (.slice none n' c')).run Tryz.prog w = .ok (.bool a.isNone) w := fun w a n c n' c' => Lib.run_eql_slice_nil w _ _ a n c n' c' Tryz.underlying55
 have A : Aside (∀ j, j < n → w.cell? ⟨b, off + j, none⟩ = some (.int .u8 (f j))) := hc
 clear hc
 go_enter Tryz.func122, Tryz.ntmps122
 go_wp2_with (at_builtin; refine wpList_append_own _ rfl _ _ 55 rfl w.heap.size 5 i0 (.int .u8 0) 1 1 Tryz.underlying55 hi hz0 hz1 hz2 rfl (by decide) _ _ _ rfl (World.ownsRow_made w #[] 0 (Nat.le_refl _) (Nat.zero_le _) rfl) ⟨b, off, none⟩ n c (by8 f n) rfl ?qc1 ?qc2 ?qc3 ?qc4 ?qc5 ?qc6 ?_)
 case qc1 => rw [by8_len, Nat.mul_one]
 case qc2 =>
  intro j u hj
  obtain ⟨h1, rfl⟩ := by8_inv hj
  rw [Addr.add_lit]
  exact Lib.cell?_alloc_some _ (A.out j h1)
 case qc3 =>
  intro u hu
  obtain ⟨x, _, rfl⟩ := List.mem_map.1 hu
  rfl
 case qc4 => unfold maxLen; omega
 case qc5 => omega
 case qc6 => simp
 intro v' w1 hown hgrow hnil
 go_wp2
 go_ret
 have hbl := ((Below.refl _ w).alloc (Nat.le_refl _) _).grown hgrow (by simp) (by intro k hk; simp [Value.ownBlock] at hk; omega)
 refine ⟨hbl, ?_⟩
 obtain ⟨hl, hv⟩ := hown
 rcases hv with ⟨_, h0⟩ | ⟨g, cap, cur, rfl, hg, hh, _, _, hs, ht⟩
 ·omega
 ·have hgs : g < w1.heap.size := by
   rcases Nat.lt_or_ge g w1.heap.size with h | h
   ·exact h
   ·rw [Array.getElem?_eq_none (by omega)] at hh
    cases hh
  refine ⟨g, cap, rfl, hg, hgs, fun j v hj => ?_⟩
  obtain ⟨h1, rfl⟩ := by8_inv hj
  have e : cur[j]? = some (.int .u8 (f j)) := by
   have e1 : (cur.toList.take (n * 1))[j]? = (by8 f n)[j]? := by
    have e2 := congrArg (fun l => l[j]?) ht
    simpa using e2
   rw [hj, List.getElem?_take, if_pos (by omega)] at e1
   simpa using e1
  refine ⟨?_, ?_⟩
  ·unfold World.cell?
   rw [hh]
   simpa using e
  ·unfold World.frozen?
   rw [hh]
   simp
end Rg
end Go.Proofs.YtmanelnacifgcaaGreatDoor
end
section
namespace Go.Proofs.YtmanelnacifgcaaGreatDoor
open Go.RowKit
/-- What is carried out of the lowest j words of S + x b. -/
def cc (S x b j : Nat) : Nat := (S % 2 ^ (64 * j) + x * (b % 2 ^ (64 * j))) / 2 ^ (64 * j)
theorem cc_zero (S x b : Nat) : cc S x b 0 = 0 := by simp [cc, Nat.mod_one]
theorem cc_core (S x b Q : Nat) (hQ : 0 < Q) :
  (S % (Q * 18446744073709551616) + x * (b % (Q * 18446744073709551616))) / (Q * 18446744073709551616) = (x * (b / Q % 18446744073709551616) + S / Q % 18446744073709551616 + (S % Q + x * (b % Q)) / Q) / 18446744073709551616 ∧
  (S + x * b) / Q % 18446744073709551616 = (x * (b / Q % 18446744073709551616) + S / Q % 18446744073709551616 + (S % Q + x * (b % Q)) / Q) % 18446744073709551616 := by
 constructor
 ·rw [Nat.mod_mul, Nat.mod_mul, ← Nat.div_div_eq_div_mul]
  have e : S % Q + Q * (S / Q % 18446744073709551616) + x * (b % Q + Q * (b / Q % 18446744073709551616)) = (S % Q + x * (b % Q)) + Q * (x * (b / Q % 18446744073709551616) + S / Q % 18446744073709551616) := by
   rw [Nat.mul_add, Nat.mul_add, Nat.mul_left_comm x Q]; omega
  rw [e, Nat.add_mul_div_left _ _ hQ]
  congr 1
  omega
 ·have e : S + x * b = (S % Q + x * (b % Q)) + Q * (S / Q + x * (b / Q)) := by
   have h1 := Nat.div_add_mod S Q
   have h2 : x * b = x * (Q * (b / Q)) + x * (b % Q) := by rw [← Nat.mul_add, Nat.div_add_mod]
   rw [Nat.mul_add, Nat.mul_left_comm Q x]; omega
  rw [e, Nat.add_mul_div_left _ _ hQ]
  generalize (S % Q + x * (b % Q)) / Q = c
  have h3 : x * (b / Q) = 18446744073709551616 * (x * (b / Q / 18446744073709551616)) + x * (b / Q % 18446744073709551616) := by
   rw [Nat.mul_left_comm, ← Nat.mul_add, Nat.div_add_mod]
  generalize x * (b / Q) = p at h3 ⊢
  generalize x * (b / Q / 18446744073709551616) = q at h3
  generalize x * (b / Q % 18446744073709551616) = r at h3 ⊢
  omega
theorem cc_lt (S x b j : Nat) (hx : x < 18446744073709551616) : cc S x b j < 18446744073709551616 := by
 unfold cc
 have hq := pow_pos' j
 have h1 := Nat.mod_lt S hq
 have h3 := Nat.mod_lt b hq
 rw [Nat.div_lt_iff_lt_mul hq]
 have h4 : x * (b % 2 ^ (64 * j)) ≤ 18446744073709551615 * 2 ^ (64 * j) := Nat.mul_le_mul (by omega) (by omega)
 generalize 2 ^ (64 * j) = Q at *
 omega
theorem cc_hi (S x b j : Nat) : mulHi (x : Int) (wd b j) (wd S j) (cc S x b j : Nat) = (cc S x b (j + 1) : Nat) := by
 unfold mulHi
 have e := (cc_core S x b _ (pow_pos' j)).1
 unfold cc
 rw [pow_step, e, wd_wn, wd_wn]
 unfold wn
 rw [← Int.natCast_mul, ← Int.natCast_add, ← Int.natCast_add]
 rfl
theorem cc_lo (S x b j : Nat) : mulLo (x : Int) (wd b j) (wd S j) (cc S x b j : Nat) = wd (S + x * b) j := by
 unfold mulLo cc
 have e := (cc_core S x b _ (pow_pos' j)).2
 rw [wd_wn (S + x * b)]
 unfold wn
 rw [e, wd_wn, wd_wn]
 unfold wn
 rw [← Int.natCast_mul, ← Int.natCast_add, ← Int.natCast_add]
 rfl
/-! Congruences. -/
/-- a and b leave the same by n. -/
def Cg (n a b : Nat) : Prop := a % n = b % n
theorem Cg.refl (n a : Nat) : Cg n a a := rfl
theorem Cg.symm {n a b : Nat} (h : Cg n a b) : Cg n b a := Eq.symm h
theorem Cg.trans {n a b c : Nat} (h : Cg n a b) (h' : Cg n b c) : Cg n a c := Eq.trans h h'
theorem Cg.mul {n a b c d : Nat} (h : Cg n a b) (h' : Cg n c d) : Cg n (a * c) (b * d) := by
 unfold Cg at *; rw [Nat.mul_mod, h, h', ← Nat.mul_mod]
theorem Cg.add {n a b c d : Nat} (h : Cg n a b) (h' : Cg n c d) : Cg n (a + c) (b + d) := by
 unfold Cg at *; rw [Nat.add_mod, h, h', ← Nat.add_mod]
theorem Cg.mod (n a : Nat) : Cg n (a % n) a := Nat.mod_mod a n
theorem Cg.mulL {n a b : Nat} (c : Nat) (h : Cg n a b) : Cg n (c * a) (c * b) := (Cg.refl n c).mul h
theorem Cg.mulR {n a b : Nat} (c : Nat) (h : Cg n a b) : Cg n (a * c) (b * c) := h.mul (Cg.refl n c)
theorem Cg.addL {n a b : Nat} (c : Nat) (h : Cg n a b) : Cg n (c + a) (c + b) := (Cg.refl n c).add h
theorem Cg.addR {n a b : Nat} (c : Nat) (h : Cg n a b) : Cg n (a + c) (b + c) := h.add (Cg.refl n c)
theorem Cg.zero (n k : Nat) : Cg n (k * n) 0 := by unfold Cg; rw [Nat.mul_mod_left, Nat.zero_mod]
theorem Cg.pow {n a b : Nat} (h : Cg n a b) (k : Nat) : Cg n (a ^ k) (b ^ k) := by
 induction k with
 | zero => exact Cg.refl _ _
 | succ k ih => rw [Nat.pow_succ, Nat.pow_succ]; exact ih.mul h
theorem Cg.eq_of_lt {n a b : Nat} (h : Cg n a b) (ha : a < n) (hb : b < n) : a = b := by
 unfold Cg at h; rwa [Nat.mod_eq_of_lt ha, Nat.mod_eq_of_lt hb] at h
theorem Cg.eq_mod {n a b : Nat} (h : Cg n a b) (ha : a < n) : a = b % n := by
 unfold Cg at h; rwa [Nat.mod_eq_of_lt ha] at h
/-! A half, by an odd number; what undoes 2^384. -/
def hf (n : Nat) : Nat := (n + 1) / 2
theorem hf_two (n : Nat) (ho : n % 2 = 1) : Cg n (2 * hf n) 1 := by
 have e : 2 * hf n = 1 + n := by unfold hf; omega
 unfold Cg; rw [e, Nat.add_mod_right]
theorem hf_pow (n k : Nat) (ho : n % 2 = 1) : Cg n (2 ^ k * hf n ^ k) 1 := by
 rw [← Nat.mul_pow]
 have := (hf_two n ho).pow k
 rwa [Nat.one_pow] at this
def ri (n : Nat) : Nat := hf n ^ (64 * 6)
theorem ri_big (n : Nat) (ho : n % 2 = 1) : Cg n (big * ri n) 1 := by
 unfold ri; rw [big_eq]
 obtain ⟨k, hk⟩ : ∃ k, k = 64 * 6 := ⟨_, rfl⟩
 rw [← hk]
 exact hf_pow n k ho
/-- What Montgomery's product tells. -/
def mont (n a b : Nat) : Nat := a * b * ri n % n
theorem mont_lt (n a b : Nat) (hn : 0 < n) : mont n a b < n := Nat.mod_lt _ hn
theorem mont_cg (n a b : Nat) : Cg n (mont n a b) (a * b * ri n) := Cg.mod _ _
theorem mont_of (n a b y : Nat) (ho : n % 2 = 1) (h : Cg n (y * big) (a * b)) : Cg n y (mont n a b) := by
 have h1 : Cg n (y * big * ri n) (a * b * ri n) := h.mulR _
 have h2 : Cg n (y * (big * ri n)) (y * 1) := (ri_big n ho).mulL y
 rw [← Nat.mul_assoc, Nat.mul_one] at h2
 exact (h2.symm.trans h1).trans (mont_cg n a b).symm
/-! The rounds. -/
def mt (X wr : Nat) : Nat := X % 18446744073709551616 * wr % 18446744073709551616
theorem mt_lt (X wr : Nat) : mt X wr < 18446744073709551616 := Nat.mod_lt _ (by decide)
def mstep (n wr b S x : Nat) : Nat := (S + x * b + mt (S + x * b) wr * n) / 18446744073709551616
def mrun (n wr a b : Nat) : Nat → Nat
 | 0 => 0
 | i + 1 => mstep n wr b (mrun n wr a b i) (wn a i)
theorem mt_even (n wr X : Nat) (h : wr * n % 18446744073709551616 = 18446744073709551615) : (X + mt X wr * n) % 18446744073709551616 = 0 := by
 have h1 : Cg 18446744073709551616 (mt X wr * n) (X * (wr * n)) := by
  rw [← Nat.mul_assoc]
  exact (((Cg.mod _ _).trans ((Cg.mod _ _).mulR wr))).mulR n
 have h2 : Cg 18446744073709551616 (X * (wr * n)) (X * 18446744073709551615) := Cg.mulL X (by unfold Cg; rw [h])
 have h3 := (h1.trans h2).addL X
 unfold Cg at h3
 rw [h3]
 omega
theorem mstep_mul (n wr b S x : Nat) (h : wr * n % 18446744073709551616 = 18446744073709551615) : mstep n wr b S x * 18446744073709551616 = S + x * b + mt (S + x * b) wr * n := by
 have := mt_even n wr (S + x * b) h
 unfold mstep
 omega
theorem mstep_lt (n wr b S x : Nat) (hS : S < b + n) (hx : x < 18446744073709551616) : mstep n wr b S x < b + n := by
 unfold mstep
 have ht := mt_lt (S + x * b) wr
 rw [Nat.div_lt_iff_lt_mul (by decide)]
 have h1 : x * b ≤ 18446744073709551615 * b := Nat.mul_le_mul_right _ (by omega)
 have h2 : mt (S + x * b) wr * n ≤ 18446744073709551615 * n := Nat.mul_le_mul_right _ (by omega)
 omega
theorem mrun_lt (n wr a b : Nat) (hn : 0 < n) : ∀ i, mrun n wr a b i < b + n
 | 0 => by unfold mrun; omega
 | i + 1 => mstep_lt n wr b _ _ (mrun_lt n wr a b hn i) (wn_lt a i)
theorem mrun_cg (n wr a b : Nat) (h : wr * n % 18446744073709551616 = 18446744073709551615) : ∀ i, Cg n (mrun n wr a b i * 2 ^ (64 * i)) (a % 2 ^ (64 * i) * b)
 | 0 => by
  unfold mrun
  rw [Nat.mul_zero, Nat.pow_zero, Nat.mod_one, Nat.zero_mul, Nat.zero_mul]
  exact Cg.refl _ _
 | i + 1 => by
  have ih := mrun_cg n wr a b h i
  have e : mrun n wr a b (i + 1) * 2 ^ (64 * (i + 1)) = mrun n wr a b i * 2 ^ (64 * i) + wn a i * b * 2 ^ (64 * i) + mt (mrun n wr a b i + wn a i * b) wr * 2 ^ (64 * i) * n := by
   have hm := mstep_mul n wr b (mrun n wr a b i) (wn a i) h
   rw [pow_step, Nat.mul_comm (2 ^ (64 * i)), ← Nat.mul_assoc]
   show mstep n wr b (mrun n wr a b i) (wn a i) * 18446744073709551616 * 2 ^ (64 * i) = _
   rw [hm, Nat.add_mul, Nat.add_mul]
   congr 1
   rw [Nat.mul_assoc, Nat.mul_comm n, ← Nat.mul_assoc]
  rw [e, mod_step, Nat.add_mul]
  have h2 := (ih.addR (wn a i * b * 2 ^ (64 * i))).add (Cg.zero n (mt (mrun n wr a b i + wn a i * b) wr * 2 ^ (64 * i)))
  rw [Nat.add_zero] at h2
  refine h2.trans ?_
  have e3 : wn a i * b * 2 ^ (64 * i) = 2 ^ (64 * i) * wn a i * b := by rw [Nat.mul_comm, ← Nat.mul_assoc]
  rw [e3]
  exact Cg.refl _ _
theorem mrun_end (n wr a b : Nat) (ho : n % 2 = 1) (h : wr * n % 18446744073709551616 = 18446744073709551615) (ha : a < big) : Cg n (mrun n wr a b 6) (mont n a b) := by
 have := mrun_cg n wr a b h 6
 rw [← big_eq, Nat.mod_eq_of_lt ha] at this
 exact mont_of n a b _ ho this
theorem low_cut (n x y : Nat) (h : Cg n x y) (hx : x < n + n) (hy : y < n) : (if x < n then x else x - n) = y := by
 split
 ·exact h.eq_of_lt ‹_› hy
 ·refine Cg.eq_of_lt (n := n) ?_ (by omega) hy
  refine Cg.trans ?_ h
  unfold Cg
  rw [Nat.mod_eq_sub_mod (a := x) (by omega)]
/-! One round's words. -/
theorem step_word (n wr b S x k : Nat) : wd (mstep n wr b S x) k = wd (S + x * b + mt (S + x * b) wr * n) (k + 1) := by
 unfold mstep wd
 rw [pow_step, Nat.mul_comm (2 ^ (64 * k)), Nat.div_div_eq_div_mul]
theorem big_pos0 : 0 < big := by rw [big_eq]; exact pow_pos' 6
theorem step_top (n wr b S x : Nat) (hS : S < big) (hb : b < big) (hn : n < big) (hr : mstep n wr b S x < big) : (cc S x b 6 + cc (S + x * b) (mt (S + x * b) wr) n 6 : Nat) = wn (mstep n wr b S x) 5 := by
 have e1 : cc S x b 6 = (S + x * b) / big := by unfold cc; rw [← big_eq, Nat.mod_eq_of_lt hS, Nat.mod_eq_of_lt hb]
 have e2 : cc (S + x * b) (mt (S + x * b) wr) n 6 = ((S + x * b) % big + mt (S + x * b) wr * n) / big := by unfold cc; rw [← big_eq, Nat.mod_eq_of_lt hn]
 rw [e1, e2]
 have e3 : mstep n wr b S x = (S + x * b + mt (S + x * b) wr * n) / 18446744073709551616 := rfl
 rw [e3] at hr ⊢
 unfold wn
 obtain ⟨m, hm⟩ : ∃ m, m = 5 := ⟨_, rfl⟩
 have hb' : big = 2 ^ (64 * m) * 18446744073709551616 := by
  rw [big_eq, ← pow_step m]
  have : 6 = m + 1 := by omega
  rw [this]
 rw [← hm]
 generalize mt (S + x * b) wr * n = T at hr ⊢
 generalize S + x * b = X at hr ⊢
 have h1 : (X + T) / 18446744073709551616 / 2 ^ (64 * m) = (X + T) / big := by rw [Nat.div_div_eq_div_mul, hb', Nat.mul_comm]
 have h2 : (X + T) / 18446744073709551616 / 2 ^ (64 * m) < 18446744073709551616 := Nat.div_lt_of_lt_mul (by rw [← hb']; exact hr)
 have h3 : (X + T) / big = X / big + (X % big + T) / big := by
  have h4 := Nat.div_add_mod X big
  have h5 : X + T = (X % big + T) + big * (X / big) := by omega
  rw [h5, Nat.add_mul_div_left _ _ big_pos0]; omega
 rw [Nat.mod_eq_of_lt h2, h1, h3]
end Go.Proofs.YtmanelnacifgcaaGreatDoor
end
section
namespace Go.Proofs.YtmanelnacifgcaaGreatDoor
open Go.RowKit
namespace Rg
abbrev PT (g off : Nat) : Value := .pointer (some ⟨g, off, none⟩)
theorem six_of {cs : List Value} {off v : Nat} (hc : (cs.drop off).take 6 = zB v) : cs[off]? = some (.int .u64 (wd v 0)) ∧ cs[off + 1]? = some (.int .u64 (wd v 1)) ∧ cs[off + 2]? = some (.int .u64 (wd v 2)) ∧ cs[off + 3]? = some (.int .u64 (wd v 3)) ∧ cs[off + 4]? = some (.int .u64 (wd v 4)) ∧ cs[off + 5]? = some (.int .u64 (wd v 5)) := by
  have h : ∀ k, k < 6 → cs[off + k]? = (zB v)[k]? := fun k hk => by
    rw [← hc, List.getElem?_take, if_pos hk, List.getElem?_drop]
  exact ⟨h 0 (by decide), h 1 (by decide), h 2 (by decide), h 3 (by decide), h 4 (by decide), h 5 (by decide)⟩
theorem ex_load6 {ρ : Operand → Value} {o : Oper} {x : Operand} {g off v : Nat} {cs : List Value} {w : World} {l : List (Nat × List Value)} (h : Mm w l) (k : Nat) (hk : l[k]? = some (g, cs)) (ho : o.op = .load 24 x) (hx : ρ x = PT g off) (hc : (cs.drop off).take 6 = zB v) :
    (execOp ρ o).run Tryz.prog w = .ok (.value (N v)) w := by
  have hm := List.mem_of_getElem? hk
  obtain ⟨k0, k1, k2, k3, k4, k5⟩ := six_of hc
  have c0 := h.cell hm k0
  have c1 := h.cell hm k1
  have c2 := h.cell hm k2
  have c3 := h.cell hm k3
  have c4 := h.cell hm k4
  have c5 := h.cell hm k5
  clear h hk hm hc k0 k1 k2 k3 k4 k5
  simp only [execOp, ho, hx]
  go_simp
theorem ex_load1 {ρ : Operand → Value} {o : Oper} {x : Operand} {g off : Nat} {v : Value} {cs : List Value} {w : World} {l : List (Nat × List Value)} (h : Mm w l) (k : Nat) (hk : l[k]? = some (g, cs)) (ho : o.op = .load 22 x) (hx : ρ x = PT g off) (hc : cs[off]? = some v) :
    (execOp ρ o).run Tryz.prog w = .ok (.value v) w := by
  have c0 := h.cell (List.mem_of_getElem? hk) hc
  clear h hk hc
  simp only [execOp, ho, hx]
  go_simp
theorem zU {ρ : Operand → Value} {o : Oper} {x : Operand} {v : Nat} {w : World} (ho : o.op = .box 24 x) (hx : ρ x = N v) :
    (execOp ρ o).run Tryz.prog w = .ok (.value (.pointer (some ⟨w.heap.size, 0, none⟩))) (w.alloc (.cells (zB v).toArray 24)) := by
  simp only [execOp, ho, hx]
  go_simp
theorem zL {ρ : Operand → Value} {o : Oper} {x y : Operand} {g off v : Nat} {cs : List Value} {w : World} {l : List (Nat × List Value)} (h : Mm w l) (k : Nat) (hk : l[k]? = some (g, cs)) (ho : o.op = .store 24 x y) (hx : ρ x = PT g off) (hy : ρ y = N v) (hc : off + 6 ≤ cs.length) :
    (execOp ρ o).run Tryz.prog w = .ok .skip (w.setCells g off (zB v)) := by
  have hm := List.mem_of_getElem? hk
  have hq : ∀ k, k < 6 → ∃ u, w.cell? ⟨g, off + k, none⟩ = some u ∧ w.frozen? ⟨g, off + k, none⟩ = false := fun k hk => by
    have e : cs[off + k]? = some (cs[off + k]'(by omega)) := List.getElem?_eq_getElem _
    exact ⟨_, h.cell hm e, h.free hm e⟩
  obtain ⟨u0, c0, f0⟩ := hq 0 (by decide)
  obtain ⟨u1, c1, f1⟩ := hq 1 (by decide)
  obtain ⟨u2, c2, f2⟩ := hq 2 (by decide)
  obtain ⟨u3, c3, f3⟩ := hq 3 (by decide)
  obtain ⟨u4, c4, f4⟩ := hq 4 (by decide)
  obtain ⟨u5, c5, f5⟩ := hq 5 (by decide)
  clear h hm hc hk hq
  rw [Nat.add_zero] at c0 f0
  simp only [execOp, ho, hx, hy]
  go_simp
  simp [World.setCells]
theorem ex_storeI {ρ : Operand → Value} {o : Oper} {x y : Operand} {g off : Nat} {ik : IntKind} {v : Int} {t : TypeId} {cs : List Value} {w : World} {l : List (Nat × List Value)} (h : Mm w l) (k : Nat) (hk : l[k]? = some (g, cs)) (ho : o.op = .store t x y) (hs : ∀ w, (sizeOf t).run Tryz.prog w = .ok 1 w) (hx : ρ x = PT g off) (hy : ρ y = .int ik v) (hc : off < cs.length) :
    (execOp ρ o).run Tryz.prog w = .ok .skip (w.setCells g off [.int ik v]) := by
  have hm := List.mem_of_getElem? hk
  have e : cs[off]? = some (cs[off]'hc) := List.getElem?_eq_getElem _
  have c0 := h.cell hm e
  have f0 := h.free hm e
  clear h hm hk
  simp only [execOp, ho, hx, hy]
  go_simp
  simp [World.setCells]
theorem ex_storeB {ρ : Operand → Value} {o : Oper} {x y : Operand} {g off : Nat} {v : Bool} {t : TypeId} {cs : List Value} {w : World} {l : List (Nat × List Value)} (h : Mm w l) (k : Nat) (hk : l[k]? = some (g, cs)) (ho : o.op = .store t x y) (hs : ∀ w, (sizeOf t).run Tryz.prog w = .ok 1 w) (hx : ρ x = PT g off) (hy : ρ y = .bool v) (hc : off < cs.length) :
    (execOp ρ o).run Tryz.prog w = .ok .skip (w.setCells g off [.bool v]) := by
  have hm := List.mem_of_getElem? hk
  have e : cs[off]? = some (cs[off]'hc) := List.getElem?_eq_getElem _
  have c0 := h.cell hm e
  have f0 := h.free hm e
  clear h hm hk
  simp only [execOp, ho, hx, hy]
  go_simp
  simp [World.setCells]
theorem Mm.one {w : World} {l : List (Nat × List Value)} (h : Mm w l) (k : Nat) {p : Nat × List Value} (hk : l[k]? = some p) : Mm w [p] :=
  ⟨fun q hq => by rw [List.mem_singleton.1 hq]; exact h.blk p (List.mem_of_getElem? hk), List.pairwise_singleton _ _⟩
theorem Mm.get {w : World} {l : List (Nat × List Value)} (h : Mm w l) (k : Nat) {g : Nat} {cs : List Value} (hk : l[k]? = some (g, cs)) (j : Nat) {v : Value} (hj : cs[j]? = some v) : w.cell? ⟨g, j, none⟩ = some v := h.cell (List.mem_of_getElem? hk) hj
/-- A call of a function in place of which the model has a law. -/
theorem ex_extern {P : Program} {ρ : Operand → Value} {o : Oper} {f : FuncId} {xs : Array Operand} {ts : Array TypeId} {args : Array Value} {v : Value} {w : World} (ho : o.op = .call { callee := .value (.func f), args := xs, argTypes := ts }) (hc : (callFunc f args).run P w = .ok (.value v) w) (hf : ρ (.func f) = .func (.func f) #[] #[]) (hx : xs.map ρ = args) :
    (execOp ρ o).run P w = .ok (.value v) w := by
  subst hx
  simp only [execOp, ho, resolve, hf]
  simp [go_sem, Deferred.ofValue, invoke, hc]
/-! The laws of regions, as a walk uses them. -/
section
variable {P : Program} {Q : Exit → Act → World → Prop} {full : Array Oper} {a : Act} {w : World}
theorem take_arr (full : Array Oper) (p : Nat) : full.extract 0 p = (full.toList.take p).toArray := by
  apply Array.toList_inj.1
  simp [List.extract_eq_take_drop]
theorem walk_any {id : Nat} (hm : P.follows .mixedOrders = true) (p : Nat) (ks : List Kind) (S : World → Prop) (pre : List Oper) (F : (Nat → Nat) → Act) (hpre : full.toList.take p = pre)
    (hF : ∀ J, zZ J 0 pre ks a = F J) (hor : (orderly pre.toArray ks a.tmps.size && guarded pre.toArray p && chained full p && decide (p ≤ full.size)) = true) (hL : LaidOk ks ks) (hS : ∀ w', Below w.heap.size w w' → S w')
    (hops : AllOk P pre.toArray S F pre ks)
    (hend : ∀ J w' l, Mem ks w l J w' → (∀ i, i < p → l.getD i false = true) → wpOps P full Q (List.range' p (full.size - p)) (F J) w') :
    (Code.region id full true).wp P Q a w := by
  subst hpre
  rw [← take_arr] at hor hops
  refine region_any hm p ks S F (fun J => ?_) hor hL hS ?_ hend
  · rw [take_arr]; exact hF J
  · have e : (full.extract 0 p).toList = full.toList.take p := by rw [take_arr]
    rw [e]; exact hops
theorem walk_seq {id : Nat} (p : Nat) (ks : List Kind) (S : World → Prop) (pre : List Oper) (F : (Nat → Nat) → Act) (hpre : full.toList.take p = pre)
    (hF : ∀ J, zZ J 0 pre ks a = F J) (hor : (orderly pre.toArray ks a.tmps.size && guarded pre.toArray p && decide (p ≤ full.size)) = true) (hL : LaidOk ks ks) (hS : ∀ w', Below w.heap.size w w' → S w')
    (hops : AllOk P pre.toArray S F pre ks)
    (hend : ∀ J w' l, Mem ks w l J w' → (∀ i, i < p → l.getD i false = true) → wpOps P full Q (List.range' p (full.size - p)) (F J) w') :
    (Code.region id full false).wp P Q a w := by
  subst hpre
  rw [← take_arr] at hor hops
  refine region_seq p ks S F (fun J => ?_) hor hL hS ?_ hend
  · rw [take_arr]; exact hF J
  · have e : (full.extract 0 p).toList = full.toList.take p := by rw [take_arr]
    rw [e]; exact hops
theorem AllOk.cons {ops : Array Oper} {S : World → Prop} {F : (Nat → Nat) → Act} {o : Oper} {os : List Oper} {k : Kind} {ks : List Kind} (h : KindOk P ops S F o k) (hs : AllOk P ops S F os ks) : AllOk P ops S F (o :: os) (k :: ks) := ⟨h, hs⟩
theorem zH {p m : Nat} {l : List Nat} (h : List.range' p m = l) (hw : wpOps P full Q l a w) : wpOps P full Q (List.range' p m) a w := by rw [h]; exact hw
theorem zA {K : Act → World → Prop} (h : K a w) : Exit.then K Q .normal a w := h
theorem zJ {K : Act → World → Prop} (h : Q .ret a w) : Exit.then K Q .ret a w := h
theorem then_exit {K : Act → World → Prop} {id : Nat} (h : Q (.exit id) a w) : Exit.then K Q (.exit id) a w := h
theorem zI {id : Nat} (h : Q .ret a w) : Exit.inBlock id Q .ret a w := h
theorem zF {i d : Nat} {r : List Nat} {o : Oper} {v : Value} {w' : World} (ho : full[i]? = some o) (hd : o.dst = some d) (hw : Region.wanted o (yielded full a.tmps) = true) (hx : (execOp a.eval o).run P w = .ok (.value v) w') (h : wpOps P full Q r (a.put (some d) v) w') : wpOps P full Q (i :: r) a w :=
  rest_value ho hw hx (by rw [hd]; exact h)
theorem rest_store {i : Nat} {r : List Nat} {o : Oper} {w' : World} (ho : full[i]? = some o) (hd : o.dst = none) (hw : Region.wanted o (yielded full a.tmps) = true) (hx : (execOp a.eval o).run P w = .ok .skip w') (h : wpOps P full Q r a w') : wpOps P full Q (i :: r) a w :=
  rest_skip ho hw hx (by rw [hd]; exact h)
theorem rest_enter {i d : Nat} {r : List Nat} {o : Oper} {f : FuncId} {args : Array Value} {R : Value → World → Prop} (ho : full[i]? = some o) (hd : o.dst = some d) (hw : Region.wanted o (yielded full a.tmps) = true) (hx : (execOp a.eval o).run P w = .ok (.enter f args) w)
    (hc : Calls P f args w (fun e w' => ∃ v, e = .returned v ∧ R v w')) (h : ∀ v w', R v w' → wpOps P full Q r (a.put (some d) v) w') : wpOps P full Q (i :: r) a w :=
  rest_call ho hw hx hc (fun v w' hr => by rw [hd]; exact h v w' hr)
theorem block_exit {id : Nat} (h : Q .normal a w) : Exit.inBlock id Q (.exit id) a w := by simp only [Exit.inBlock, if_true]; exact h
theorem zY {id : Nat} (h : Q .normal a w) : Exit.inBlock id Q .normal a w := h
/-- A loop, by what is known at each round's beginning. -/
theorem loop_ghost {α : Type} {c : Code} (I : α → Act → World → Prop) (μ : α → Nat) (x₀ : α) (h₀ : I x₀ a w)
    (round : ∀ x a w, I x a w → c.wp P (Exit.then (fun a' w' => ∃ x', I x' a' w' ∧ μ x' < μ x) Q) a w) : (Code.loop c).wp P Q a w := by
  have least : ∀ (n : Nat) (a : Act) (w : World) (x : α), μ x = n → I x a w → ∃ y, I y a w ∧ ∀ z, I z a w → μ y ≤ μ z := by
    intro n
    induction n using Nat.strongRecOn with
    | _ n ih =>
      intro a w x hn hx
      by_cases h : ∃ z, I z a w ∧ μ z < μ x
      · obtain ⟨z, hz, hlt⟩ := h
        exact ih (μ z) (by omega) a w z rfl hz
      · refine ⟨x, hx, fun z hz => ?_⟩
        rcases Nat.lt_or_ge (μ z) (μ x) with h' | h'
        · exact absurd ⟨z, hz, h'⟩ h
        · exact h'
  have pick : ∀ (a : Act) (w : World), ∃ m : Nat, ∀ x, I x a w → (∃ y, I y a w ∧ μ y = m) ∧ m ≤ μ x := by
    intro a w
    by_cases h : ∃ x, I x a w
    · obtain ⟨x, hx⟩ := h
      obtain ⟨y, hy, hmin⟩ := least _ a w x rfl hx
      exact ⟨μ y, fun z hz => ⟨⟨y, hy, rfl⟩, hmin z hz⟩⟩
    · exact ⟨0, fun x hx => absurd ⟨x, hx⟩ h⟩
  refine wp_loop (fun a w => ∃ x, I x a w) (fun a w => Classical.choose (pick a w)) ⟨x₀, h₀⟩ ?_
  rintro a w ⟨x, hx⟩
  obtain ⟨⟨y, hy, hm⟩, hle⟩ := Classical.choose_spec (pick a w) x hx
  refine Code.wp_mono (fun e a' w' h => ?_) (round y a w hy)
  cases e with
  | normal =>
    obtain ⟨x', hx', hlt⟩ := h
    refine ⟨⟨x', hx'⟩, ?_⟩
    have := (Classical.choose_spec (pick a' w') x' hx').2
    show Classical.choose (pick a' w') < Classical.choose (pick a w)
    omega
  | _ => exact h
end
/-! Shorter words for what stands behind each region. -/
theorem keepB {w₀ w w' : World} {L : List (Nat × List Value)} (H : Hid (Mm w L ∧ Below w₀.heap.size w₀ w)) (hb : Below w.heap.size w w') : Hid (Mm w' L ∧ Below w₀.heap.size w₀ w') :=
  ⟨H.out.1.below hb, H.out.2.trans (hb.mono H.out.2.size)⟩
theorem growB {ks : List Kind} {w₀ w w' : World} {l : Array Bool} {J : Nat → Nat} {L : List (Nat × List Value)} (H : Hid (Mm w L ∧ Below w₀.heap.size w₀ w)) (h : Mem ks w l J w') {p : Nat} (hp : ks.length ≤ p) (hl : ∀ i, i < p → l.getD i false = true)
    (is : List Nat) (ha : (is.all fun i => (fresh ks i).isSome) = true) (hn : is.Pairwise (· ≠ ·)) : Hid (Mm w' (is.map (fun i => (J i, fin ks i)) ++ L) ∧ Below w₀.heap.size w₀ w') :=
  ⟨H.out.1.grow h hp hl is ha hn, H.out.2.trans (h.below.mono H.out.2.size)⟩
theorem ownB {ks : List Kind} {w₀ w w' : World} {l : Array Bool} {J : Nat → Nat} {L : List (Nat × List Value)} (H : Hid (Mm w L ∧ Below w₀.heap.size w₀ w)) (h : Mem ks w l J w') {p : Nat} (hp : ks.length ≤ p) (hl : ∀ i, i < p → l.getD i false = true) {i : Nat} (hi : (fresh ks i).isSome = true) : Hid (w₀.heap.size ≤ J i) :=
  Nat.le_trans H.out.2.size (h.fin hp hl hi).2.1
theorem sB {w : World} {L : List (Nat × List Value)} {R : World → Prop} (H : Hid (Mm w L ∧ R w)) (w' : World) (hb : Below w.heap.size w w') : Mm w' L := H.out.1.below hb
theorem sa {l : List Value} {i : Nat} {x : Value} : l.toArray.setIfInBounds i x = (l.set i x).toArray := List.setIfInBounds_toArray ..
theorem sz {l : List Value} {x y : Value} : (x :: l).set 0 y = y :: l := rfl
theorem ss {l : List Value} {n : Nat} {x y : Value} : (x :: l).set (n + 1) y = x :: l.set n y := rfl
theorem tk {α : Type} {l : List α} {n : Nat} {x : α} : (x :: l).take (n + 1) = x :: l.take n := rfl
theorem tz {α : Type} {l : List α} : l.take 0 = [] := rfl
theorem rest0 {P : Program} {Q : Exit → Act → World → Prop} {full : Array Oper} {a : Act} {w : World} {p m : Nat} (h : List.range' p m = []) (hw : Q .normal a w) : wpOps P full Q (List.range' p m) a w := by rw [h]; exact zE hw
theorem zD {P : Program} {Q : Exit → Act → World → Prop} {full : Array Oper} {a : Act} {w w₀ : World} {L : List (Nat × List Value)} {id : Nat} (p : Nat) (ks : List Kind) {pre : List Oper} {F : (Nat → Nat) → Act} (H : Hid (Mm w L ∧ Below w₀.heap.size w₀ w))
    (hops : AllOk P pre.toArray (fun w' => Mm w' L) F pre ks)
    (hend : ∀ J w', Hid (Mm w' L ∧ Below w₀.heap.size w₀ w') → wpOps P full Q (List.range' p (full.size - p)) (F J) w')
    (hq : full.toList.take p = pre ∧ (∀ J, zZ J 0 pre ks a = F J) ∧ (orderly pre.toArray ks a.tmps.size && guarded pre.toArray p && decide (p ≤ full.size)) = true := by
      refine ⟨?_, ?_, ?_⟩
      · simp only [List.append_eq, List.cons_append, List.nil_append, tk, tz]; rfl
      · intro _; simp only [zZ, Kind.val, Act.put, sa, sz, ss]; rfl
      · kernel_rfl)
    (hL : LaidOk ks ks := by trivial) :
    (Code.region id full false).wp P Q a w :=
  walk_seq p ks _ pre F hq.1 hq.2.1 hq.2.2 hL (sB H) hops (fun J w' _ hM _ => hend J w' (keepB H hM.below))
theorem zS {P : Program} {Q : Exit → Act → World → Prop} {full : Array Oper} {a : Act} {w w₀ : World} {L : List (Nat × List Value)} {id : Nat} (p : Nat) (ks : List Kind) {pre : List Oper} {F : (Nat → Nat) → Act} (H : Hid (Mm w L ∧ Below w₀.heap.size w₀ w))
    (hops : AllOk P pre.toArray (fun w' => Mm w' L) F pre ks)
    (hend : ∀ J w', Hid (Mm w' L ∧ Below w₀.heap.size w₀ w') → wpOps P full Q (List.range' p (full.size - p)) (F J) w')
    (hq : full.toList.take p = pre ∧ (∀ J, zZ J 0 pre ks a = F J) ∧ (orderly pre.toArray ks a.tmps.size && guarded pre.toArray p && chained full p && decide (p ≤ full.size)) = true := by
      refine ⟨?_, ?_, ?_⟩
      · simp only [List.append_eq, List.cons_append, List.nil_append, tk, tz]; rfl
      · intro _; simp only [zZ, Kind.val, Act.put, sa, sz, ss]; rfl
      · kernel_rfl)
    (hm : P.follows .mixedOrders = true := by kernel_rfl)
    (hL : LaidOk ks ks := by trivial) :
    (Code.region id full true).wp P Q a w :=
  walk_any hm p ks _ pre F hq.1 hq.2.1 hq.2.2 hL (sB H) hops (fun J w' _ hM _ => hend J w' (keepB H hM.below))
theorem zC {P : Program} {Q : Exit → Act → World → Prop} {full : Array Oper} {a : Act} {w : World} {S : World → Prop} {id : Nat} (p : Nat) (ks : List Kind) {pre : List Oper} {F : (Nat → Nat) → Act} (hS : ∀ w', Below w.heap.size w w' → S w')
    (hops : AllOk P pre.toArray S F pre ks)
    (hend : ∀ J w' l, Mem ks w l J w' → (∀ i, i < p → l.getD i false = true) → wpOps P full Q (List.range' p (full.size - p)) (F J) w')
    (hq : full.toList.take p = pre ∧ (∀ J, zZ J 0 pre ks a = F J) ∧ (orderly pre.toArray ks a.tmps.size && guarded pre.toArray p && decide (p ≤ full.size)) = true := by
      refine ⟨?_, ?_, ?_⟩
      · simp only [List.append_eq, List.cons_append, List.nil_append, tk, tz]; rfl
      · intro _; simp only [zZ, Kind.val, Act.put, sa, sz, ss]; rfl
      · kernel_rfl)
    (hL : LaidOk ks ks := by trivial) :
    (Code.region id full false).wp P Q a w :=
  walk_seq p ks _ pre F hq.1 hq.2.1 hq.2.2 hL hS hops hend
theorem zP {P : Program} {Q : Exit → Act → World → Prop} {full : Array Oper} {a : Act} {w : World} {S : World → Prop} {id : Nat} (p : Nat) (ks : List Kind) {pre : List Oper} {F : (Nat → Nat) → Act} (hS : ∀ w', Below w.heap.size w w' → S w')
    (hops : AllOk P pre.toArray S F pre ks)
    (hend : ∀ J w' l, Mem ks w l J w' → (∀ i, i < p → l.getD i false = true) → wpOps P full Q (List.range' p (full.size - p)) (F J) w')
    (hq : full.toList.take p = pre ∧ (∀ J, zZ J 0 pre ks a = F J) ∧ (orderly pre.toArray ks a.tmps.size && guarded pre.toArray p && chained full p && decide (p ≤ full.size)) = true := by
      refine ⟨?_, ?_, ?_⟩
      · simp only [List.append_eq, List.cons_append, List.nil_append, tk, tz]; rfl
      · intro _; simp only [zZ, Kind.val, Act.put, sa, sz, ss]; rfl
      · kernel_rfl)
    (hm : P.follows .mixedOrders = true := by kernel_rfl)
    (hL : LaidOk ks ks := by trivial) :
    (Code.region id full true).wp P Q a w :=
  walk_any hm p ks _ pre F hq.1 hq.2.1 hq.2.2 hL hS hops hend
theorem ak {P : Program} {ops : Array Oper} {S : World → Prop} {F : (Nat → Nat) → Act} {o : Oper} {os : List Oper} {k : Kind} {ks : List Kind} (h : KindOk P ops S F o k) (hs : AllOk P ops S F os ks) : AllOk P ops S F (o :: os) (k :: ks) := ⟨h, hs⟩
theorem mpn {ρ : Operand → Value} {xs : List Operand} {vs : List Value} (h : xs.map ρ = vs) : xs.toArray.map ρ = vs.toArray := by rw [List.map_toArray, h]
theorem ag {P : Program} {ops : Array Oper} {S : World → Prop} {F : (Nat → Nat) → Act} {o : Oper} {os : List Oper} {ks : List Kind} {k : Kind} (hs : AllOk P ops S F os ks) (h : KindOk P ops S F o k := by refine fun J => ⟨rfl, fun w' h => ?_⟩; clear h; go_simp) : AllOk P ops S F (o :: os) (k :: ks) := ⟨h, hs⟩
theorem ar {P : Program} {ops : Array Oper} {S : World → Prop} {F : (Nat → Nat) → Act} {o : Oper} {os : List Oper} {ks : List Kind} {k : Kind} (hs : AllOk P ops S F os ks) (h : KindOk P ops S F o k := by exact fun _ => ⟨rfl, fun _ _ => rfl⟩) : AllOk P ops S F (o :: os) (k :: ks) := ⟨h, hs⟩
theorem aq {P : Program} {ops : Array Oper} {S : World → Prop} {F : (Nat → Nat) → Act} {o : Oper} {os : List Oper} {ks : List Kind} {v : Value} (h : ∀ {J : Nat → Nat} w, S w → (execOp (F J).eval o).run P w = .ok (.value v) w) (hs : AllOk P ops S F os ks) (hw : ∀ J, Region.wanted o (yielded ops (F J).tmps) = true := by exact fun _ => rfl) : AllOk P ops S F (o :: os) (.q v :: ks) := ⟨fun J => ⟨hw J, h⟩, hs⟩
theorem ac {P : Program} {ops : Array Oper} {S : World → Prop} {F : (Nat → Nat) → Act} {o : Oper} {os : List Oper} {ks : List Kind} {v : Value} (h : ∀ {J : Nat → Nat} w, S w → ∃ f args, (execOp (F J).eval o).run P w = .ok (.enter f args) w ∧ Calls P f args w (fun e w' => e = .returned v ∧ Below w.heap.size w w')) (hs : AllOk P ops S F os ks) (hw : ∀ J, Region.wanted o (yielded ops (F J).tmps) = true := by exact fun _ => rfl) : AllOk P ops S F (o :: os) (.call v :: ks) := ⟨fun J => ⟨hw J, h⟩, hs⟩
abbrev ud : Value := undef
theorem l6 {ρ : Operand → Value} {o : Oper} {x : Operand} {g off v : Nat} {cs : List Value} {w : World} {l : List (Nat × List Value)} (h : Mm w l) (k : Nat) (hk : l[k]? = some (g, cs) := by exact rfl) (ho : o.op = .load 24 x := by exact rfl) (hx : ρ x = PT g off := by exact rfl) (hc : (cs.drop off).take 6 = zB v := by exact rfl) : (execOp ρ o).run Tryz.prog w = .ok (.value (N v)) w := ex_load6 h k hk ho hx hc
theorem sG {Q : Exit → Act → World → Prop} {full : Array Oper} {a : Act} {w w0 : World} {j B g : Nat} {r : List Nat} {o : Oper} {l : List (Nat × List Value)} {off : Nat} {cs vs : List Value} (ho : full[j]? = some o) (hx : Mm w l → (execOp a.eval o).run Tryz.prog w = .ok .skip (w.setCells g off vs)) (k : Nat) (l' : List (Nat × List Value)) (H : Hid (Mm w l ∧ Below B w0 w)) (hg : Hid (B ≤ g)) (h : ∀ w', Hid (Mm w' l' ∧ Below B w0 w') → wpOps Tryz.prog full Q r a w') (hd : o.dst = none := by exact rfl) (hw : Region.wanted o (yielded full a.tmps) = true := by exact rfl) (hk : l[k]? = some (g, cs) := by exact rfl) (hb : off + vs.length ≤ cs.length := by exact Nat.le_of_ble_eq_true rfl) (hl : l.set k (g, patch cs off vs) = l' := by exact rfl) : wpOps Tryz.prog full Q (j :: r) a w :=
 rest_store ho hd hw (hx H.out.1) (h _ ⟨hl ▸ H.out.1.put k hk hb, zV _ hg.out _ _ _ H.out.2⟩)
theorem bN {ops : Array Oper} {L : List (Nat × List Value)} {F : (Nat → Nat) → Act} {o : Oper} {os : List Oper} {ks : List Kind} {x : Operand} {g off : Nat} {cs : List Value} {v : Nat} (k : Nat) (hs : AllOk Tryz.prog ops (fun w' => Mm w' L) F os ks) (hw : ∀ J, Region.wanted o (yielded ops (F J).tmps) = true := by exact fun _ => rfl) (hk : L[k]? = some (g, cs) := by exact rfl) (ho : o.op = .load 24 x := by exact rfl) (hx : ∀ J, (F J).eval x = PT g off := by exact fun _ => rfl) (hc : (cs.drop off).take 6 = zB v := by exact rfl) : AllOk Tryz.prog ops (fun w' => Mm w' L) F (o :: os) (.q (N v) :: ks) := ⟨fun J => ⟨hw J, fun _ h => ex_load6 h k hk ho (hx J) hc⟩, hs⟩
theorem am {P : Program} {ops : Array Oper} {S : World → Prop} {F : (Nat → Nat) → Act} {o : Oper} {os : List Oper} {ks : List Kind} {zs : List Value} {t : TypeId} (h : ∀ {J : Nat → Nat} {w : World}, (execOp (F J).eval o).run P w = .ok (.value (.pointer (some ⟨w.heap.size, 0, none⟩))) (w.alloc (.cells zs.toArray t))) (hs : AllOk P ops S F os ks) (hw : ∀ J, Region.wanted o (yielded ops (F J).tmps) = true := by exact fun _ => rfl) : AllOk P ops S F (o :: os) (.made zs t :: ks) := ⟨fun J => ⟨hw J, fun _ => h⟩, hs⟩
theorem av {P : Program} {ops : Array Oper} {S : World → Prop} {F : (Nat → Nat) → Act} {o : Oper} {os : List Oper} {ks : List Kind} {k : Kind} (hs : AllOk P ops S F os ks) (h : KindOk P ops S F o k := by exact fun _ => ⟨rfl, fun _ _ => by kernel_rfl⟩) : AllOk P ops S F (o :: os) (k :: ks) := ⟨h, hs⟩
theorem eC {P : Program} {ρ : Operand → Value} {o : Oper} {f : FuncId} {xs : List Operand} {ts : Array TypeId} {vs : List Value} {w : World} {Q : Ending → World → Prop} (hc : ∀ args w, (callFunc f args).run P w = .ok (.enter f args) w) (h : Calls P f vs.toArray w Q) (ho : o.op = .call { callee := .value (.func f), args := xs.toArray, argTypes := ts } := by exact rfl) (hf : ρ (.func f) = .func (.func f) #[] #[] := by exact rfl) (hx : xs.map ρ = vs := by exact rfl) : ∃ f args, (execOp ρ o).run P w = .ok (.enter f args) w ∧ Calls P f args w Q := ⟨f, _, exec_call ho hc hf (mpn hx), h⟩
theorem wB {ks : List Kind} {w₀ w w' : World} {l : Array Bool} {J : Nat → Nat} {L : List (Nat × List Value)} (H : Hid (Mm w L ∧ Below w₀.heap.size w₀ w)) (h : Mem ks w l J w') {p : Nat} (hl : ∀ i, i < p → l.getD i false = true) (is : List Nat) (hp : ks.length ≤ p := by exact Nat.le_refl _) (ha : (is.all fun i => (fresh ks i).isSome) = true := by exact rfl) (hn : is.Pairwise (· ≠ ·) := by decide) : Hid (Mm w' (is.map (fun i => (J i, fin ks i)) ++ L) ∧ Below w₀.heap.size w₀ w') := growB H h hp hl is ha hn
theorem vB {ks : List Kind} {w₀ w w' : World} {l : Array Bool} {J : Nat → Nat} {L : List (Nat × List Value)} (H : Hid (Mm w L ∧ Below w₀.heap.size w₀ w)) (h : Mem ks w l J w') {p : Nat} (hl : ∀ i, i < p → l.getD i false = true) (i : Nat) (hp : ks.length ≤ p := by exact Nat.le_refl _) (hi : (fresh ks i).isSome = true := by exact rfl) : Hid (w₀.heap.size ≤ J i) := ownB H h hp hl hi
theorem rN {P : Program} {Q : Exit → Act → World → Prop} {full : Array Oper} {a : Act} {w : World} {p m : Nat} {K : Act → World → Prop} (hw : K a w) (h : List.range' p m = [] := by exact rfl) : wpOps P full (Exit.then K Q) (List.range' p m) a w := rest0 h (zA hw)
end Rg
end Go.Proofs.YtmanelnacifgcaaGreatDoor
end
section
namespace Go.Proofs.YtmanelnacifgcaaGreatDoor
open Go.RowKit
namespace Rg
section
variable {P : Program} {ops : Array Oper} {ks : List Kind} {a₀ : Act} {w₀ : World} {Q : Exit → Act → World → Prop}
/-- An operation that the store need not wait for: it tells its value in whatever world. -/
def LateOk (P : Program) (ops : Array Oper) (ks : List Kind) (F : (Nat → Nat) → Act) : List Nat → Prop
  | [] => True
  | i :: r => (∃ o v, ops[i]? = some o ∧ ks[i]? = some (.q v) ∧ ∀ J, Region.wanted o (yielded ops (F J).tmps) = true ∧ ∀ w, (execOp (F J).eval o).run P w = .ok (.value v) w) ∧ LateOk P ops ks F r
theorem LateOk.at {F : (Nat → Nat) → Act} : ∀ {late : List Nat}, LateOk P ops ks F late → ∀ {i : Nat}, i ∈ late → ∃ o v, ops[i]? = some o ∧ ks[i]? = some (.q v) ∧ ∀ J, Region.wanted o (yielded ops (F J).tmps) = true ∧ ∀ w, (execOp (F J).eval o).run P w = .ok (.value v) w
  | [], _, _, h => by cases h
  | j :: r, hl, i, h => by
    rcases List.mem_cons.1 h with e | h
    · subst e; exact hl.1
    · exact hl.2.at h
theorem mem_late {F : (Nat → Nat) → Act} {J : Nat → Nat} {w : World} : ∀ {late : List Nat} {l : Array Bool}, LateOk P ops ks F late → Mem ks w₀ l J w → ∃ l', Mem ks w₀ l' J w ∧ l'.size = l.size ∧ (∀ i, l.getD i false = true → l'.getD i false = true) ∧ ∀ i ∈ late, i < l.size → l'.getD i false = true
  | [], l, _, h => ⟨l, h, rfl, fun _ h => h, fun _ h => by cases h⟩
  | j :: r, l, hl, h => by
    obtain ⟨o, v, _, hk, _⟩ := hl.1
    obtain ⟨l', h1, h2, h3, h4⟩ := mem_late (late := r) hl.2 (h.still (Below.refl _ _) hk rfl (fun _ _ _ h => by cases h))
    refine ⟨l', h1, by rw [h2]; simp, fun i hi => h3 i (getD_true hi), fun i hi hlt => ?_⟩
    rcases List.mem_cons.1 hi with e | hi
    · subst e
      exact h3 i (by simp [hlt])
    · exact h4 i hi (by simpa using hlt)
theorem see_all {full : Array Oper} {l : Array Bool} {J : Nat → Nat} {a : Act} (h : Agree ops ks a₀ l J a) {o : Oper} (hn : ∀ cs b, o.op ≠ .select cs b)
    (hlook : ∀ d ∈ o.looksAt full, ∀ j oj, ops[j]? = some oj → oj.dst = some d → l.getD j false = true) :
    execOp a.eval o = execOp (zZ J 0 ops.toList ks a₀).eval o := by
  refine execOp_congr o hn (fun x hx => ?_)
  cases x with
  | tmp t =>
    have := h.slots t (hlook t (List.mem_append_left _ (List.mem_filterMap.2 ⟨.tmp t, by simpa using hx, rfl⟩)))
    simp only [Act.eval, Array.getD_eq_getD_getElem?, this]
  | _ => rfl
/-- The operations that have come up: with each, all that it waits for. -/
def Closed (full : Array Oper) (l : Array Bool) : Prop := ∀ (i : Nat) (o : Oper), full[i]? = some o → l.getD i false = true → ∀ e ∈ o.after, Region.binds .any e = true → l.getD e.on false = true
theorem Closed.none (full : Array Oper) (n : Nat) : Closed full (Array.replicate n false) := fun i o _ h => by rw [none_listed] at h; cases h
theorem Closed.step {full : Array Oper} {l : Array Bool} (h : Closed full l) {i : Nat} {o : Oper} (ho : full[i]? = some o) (hedge : ∀ e ∈ o.after, Region.binds .any e = true → l.getD e.on false = true) : Closed full (l.setIfInBounds i true) := fun j oj hj hl e he hb => by
  by_cases hij : i = j
  · subst hij
    rw [ho] at hj
    injection hj with hj
    subst hj
    exact getD_true (hedge e he hb)
  · rw [getD_set_ne false hij] at hl
    exact getD_true (h j oj hj hl e he hb)
/-- Who waits for operation j, by others or not. -/
def waitsT (full : Array Oper) : Nat → Oper → Nat → Bool
  | 0, o, j => waits o j
  | f + 1, o, j => waits o j || o.after.any fun e => Region.binds .any e && (match full[e.on]? with | some o' => waitsT full f o' j | none => false)
theorem waitsT_spec {full : Array Oper} {l : Array Bool} (h : Closed full l) {j : Nat} : ∀ (f : Nat) (o : Oper), waitsT full f o j = true → (∀ e ∈ o.after, Region.binds .any e = true → l.getD e.on false = true) → l.getD j false = true
  | 0, o, hw, he => waits_spec hw he
  | f + 1, o, hw, he => by
    unfold waitsT at hw
    rw [Bool.or_eq_true] at hw
    rcases hw with hw | hw
    · exact waits_spec hw he
    · obtain ⟨e, hm, hx⟩ := Array.any_eq_true'.1 hw
      rw [Bool.and_eq_true] at hx
      obtain ⟨hb, hx⟩ := hx
      cases ho : full[e.on]? with
      | none => rw [ho] at hx; cases hx
      | some o' =>
        rw [ho] at hx
        exact waitsT_spec h f o' hx (fun e' he' hb' => h e.on o' ho (he e hm hb) e' he' hb')
theorem rest_anyT {full : Array Oper} (p : Nat) (hup : ∀ {i : Nat} {o : Oper}, full[i]? = some o → ∀ e ∈ o.after, Region.binds .any e = true → e.on < i)
    (hwt : ∀ {i : Nat} {o : Oper}, full[i]? = some o → p ≤ i → ∀ j, j < i → waitsT full 4 o j = true) : ∀ (m fuel q : Nat) (l : Array Bool) (a : Act) (w : World), q + m = full.size → p ≤ q → l.size = full.size → m ≤ fuel → Closed full l →
      (∀ i, i < q → l.getD i false = true) → (∀ i, q ≤ i → i < full.size → l.getD i true = false) → wpOps P full Q (List.range' q m) a w → wpAny P .any full Q fuel l a w := by
  intro m
  induction m with
  | zero =>
    intro fuel q l a w hq hpq hsz hfu hcl hl hu h
    have hr : Region.ready .any full l = [] := by
      refine List.eq_nil_iff_forall_not_mem.2 fun i hi => ?_
      obtain ⟨h1, o, ho, _⟩ := mem_ready.1 hi
      have h2 := hl i (by have := (Array.getElem?_eq_some_iff.1 ho).1; omega)
      rw [(getD_same h1).1] at h2
      cases h2
    have hQ : Q .normal a w := h
    cases fuel with
    | zero => exact ⟨hr, hQ⟩
    | succ f => exact ⟨fun _ => hQ, by rw [hr]; simp⟩
  | succ m ih =>
    intro fuel q l a w hq hpq hsz hfu hcl hl hu h
    cases fuel with
    | zero => omega
    | succ f =>
      have hqs : q < full.size := by omega
      have hqr : q ∈ Region.ready .any full l := mem_ready.2 ⟨hu q (Nat.le_refl _) hqs, full[q], Array.getElem?_eq_getElem hqs, fun e he hb => hl _ (hup (Array.getElem?_eq_getElem hqs) e he hb)⟩
      refine ⟨fun hr => absurd hqr (by rw [hr]; simp), fun i hi => ?_⟩
      obtain ⟨hun, o, ho, hedge⟩ := mem_ready.1 hi
      have hilt : i < full.size := (Array.getElem?_eq_some_iff.1 ho).1
      have hiq : i = q := by
        rcases Nat.lt_trichotomy i q with h' | h' | h'
        · have h2 := hl i h'
          rw [(getD_same hun).1] at h2
          cases h2
        · exact h'
        · have h2 := waitsT_spec hcl 4 o (hwt ho (by omega) q h') hedge
          rw [(getD_same (hu q (Nat.le_refl _) hqs)).1] at h2
          cases h2
      subst hiq
      rw [List.range'_succ, wpOps_cons] at h
      refine wpOp_mono (fun a' w' h' => ?_) h
      refine ih f (i + 1) _ a' w' (by omega) (by omega) (by simp [hsz]) (by omega) (hcl.step ho hedge) (fun j hj => ?_) (fun j hj hj2 => ?_) h'
      · rcases Nat.lt_or_ge j i with h2 | h2
        · exact getD_true (hl j h2)
        · have : j = i := by omega
          subst this
          exact (getD_same hun).2
      · rw [getD_set_ne true (by omega)]
        exact hu j (by omega) hj2
theorem tail_count (n : Nat) : ∀ (m : Nat) (l : Array Bool), l.size = n → m ≤ n → (∀ i, n - m ≤ i → i < n → l.getD i true = false) → m ≤ l.toList.count false := by
  intro m
  induction m with
  | zero => intro l _ _ _; omega
  | succ m ih =>
    intro l hs hm hl
    have h4 := count_set (hl (n - (m + 1)) (Nat.le_refl _) (by omega))
    have h5 := ih (l.setIfInBounds (n - (m + 1)) true) (by simp [hs]) (by omega) (fun i hi1 hi2 => by rw [getD_set_ne true (by omega)]; exact hl i (by omega) hi2)
    omega
theorem ready_all {full : Array Oper} (hup : ∀ {i : Nat} {o : Oper}, full[i]? = some o → ∀ e ∈ o.after, Region.binds .any e = true → e.on < i) {l : Array Bool} (hsz : l.size = full.size) (hr : Region.ready .any full l = []) : ∀ i, i < full.size → l.getD i false = true := by
  intro i
  induction i using Nat.strongRecOn with
  | _ i ih2 =>
    intro hi
    have hi' : i < l.size := by omega
    cases hl : l.getD i true with
    | true => simpa [hi'] using hl
    | false =>
      exfalso
      have : i ∈ Region.ready .any full l := mem_ready.2 ⟨hl, full[i], Array.getElem?_eq_getElem hi, fun e he hb => ih2 e.on (hup (Array.getElem?_eq_getElem hi) e he hb) (by have := hup (Array.getElem?_eq_getElem hi) e he hb; omega)⟩
      rw [hr] at this
      cases this
theorem after_put {full : Array Oper} {n p : Nat} (hO : Orderly ops ks n) (hn : n = a₀.tmps.size) (hp : ops.size = p) (hpf : p + 1 ≤ full.size) (hfull : ∀ i, i < p → full[i]? = ops[i]?) (hgd : ∀ {i : Nat} {o : Oper} {g : Nat} {b : Bool}, ops[i]? = some o → o.guard = some (g, b) → g < p)
    (hup : ∀ {i : Nat} {o : Oper}, full[i]? = some o → ∀ e ∈ o.after, Region.binds .any e = true → e.on < i)
    (hwt : ∀ {i : Nat} {o : Oper}, full[i]? = some o → p + 1 ≤ i → ∀ j, j < i → waitsT full 4 o j = true)
    {late : List Nat} (hlate : LateOk P ops ks (fun J => zZ J 0 ops.toList ks a₀) late) {J : Nat → Nat} {w : World} (hQ : wpOps P full Q (List.range' (p + 1) (full.size - (p + 1))) (zZ J 0 ops.toList ks a₀) w) :
    ∀ (fuel : Nat) (l : Array Bool) (a : Act), l.size = full.size → l.toList.count false ≤ fuel → Closed full l → (∀ i, i ≤ p → l.getD i true = false → i ∈ late) → (∀ i, p + 1 ≤ i → i < full.size → l.getD i true = false) → Agree ops ks a₀ l J a → wpAny P .any full Q fuel l a w := by
  intro fuel
  induction fuel with
  | zero =>
    intro l a hsz hc hcl hu ht hA
    have hall : ∀ i, i < full.size → l.getD i false = true := fun i hi => by
      cases hb : l.getD i true with
      | false => have := count_set hb; omega
      | true =>
        have hi' : i < l.size := by omega
        simpa [hi'] using hb
    rw [hA.whole (fun i hi => hall i (by omega))]
    have h0 := tail_count full.size (full.size - (p + 1)) l hsz (by omega) (fun i hi1 hi2 => ht i (by omega) hi2)
    exact rest_anyT (p + 1) hup hwt (full.size - (p + 1)) 0 (p + 1) l _ w (by omega) (Nat.le_refl _) hsz (by omega) hcl (fun i hi => hall i (by omega)) ht hQ
  | succ fuel ih =>
    intro l a hsz hc hcl hu ht hA
    by_cases hall : ∀ i, i < p + 1 → l.getD i false = true
    · rw [hA.whole (fun i hi => hall i (by omega))]
      have h0 := tail_count full.size (full.size - (p + 1)) l hsz (by omega) (fun i hi1 hi2 => ht i (by omega) hi2)
      exact rest_anyT (p + 1) hup hwt (full.size - (p + 1)) (fuel + 1) (p + 1) l _ w (by omega) (Nat.le_refl _) hsz (by omega) hcl hall ht hQ
    · have hex : ∃ x, x < p + 1 ∧ l.getD x false = false := by
        apply Classical.byContradiction
        intro hno
        apply hall
        intro i hi
        cases hb : l.getD i false with
        | true => rfl
        | false => exact absurd ⟨i, hi, hb⟩ hno
      obtain ⟨x, hx, hxf⟩ := hex
      refine ⟨fun hr => ?_, fun i hi => ?_⟩
      · have := ready_all hup hsz hr x (by omega)
        rw [hxf] at this
        cases this
      · obtain ⟨hun, o, ho, hedge⟩ := mem_ready.1 hi
        have hilt : i < full.size := (Array.getElem?_eq_some_iff.1 ho).1
        have hip1 : i < p + 1 := by
          rcases Nat.lt_or_ge i (p + 1) with h' | h'
          · exact h'
          · have := waitsT_spec hcl 4 o (hwt ho h' x (by omega)) hedge
            rw [hxf] at this
            cases this
        obtain ⟨o', v, ho', hk, hxq⟩ := hlate.at (hu i (by omega) hun)
        have hip : i < p := by rw [← hp]; exact (Array.getElem?_eq_some_iff.1 ho').1
        have hof := ho
        rw [hfull i hip, ho'] at ho
        injection ho with ho
        subst ho
        obtain ⟨he, hw0⟩ := hA.sees hO ho' hedge
        have hy : ∀ ts, Region.wanted o' (yielded full ts) = Region.wanted o' (yielded ops ts) := fun ts => by
          unfold Region.wanted
          cases hg : o'.guard with
          | none => rfl
          | some gw =>
            obtain ⟨g, want⟩ := gw
            have : yielded full ts g = yielded ops ts g := by unfold yielded; rw [hfull g (hgd ho' hg)]
            simp only [this]
        have hc' := count_set hun
        refine wpOp_step hof (fun K' hK => ?_)
        rw [hy, hw0, if_pos (hxq J).1]
        unfold Oper.wp
        rw [he, (hxq J).2 w]
        refine hK _ _ (ih _ _ (by simp [hsz]) (by omega) (hcl.step hof hedge) (fun j hj hj2 => ?_) (fun j hj hj2 => ?_) (hA.step hO hn ho' hk (fun _ _ _ _ => rfl)))
        · by_cases e : i = j
          · subst e
            have hi' : i < l.size := by omega
            simp [hi'] at hj2
          · rw [getD_set_ne true e] at hj2
            exact hu j hj hj2
        · rw [getD_set_ne true (by omega)]
          exact ht j hj hj2
theorem first_put {full : Array Oper} {n p : Nat} {op : Oper} (hO : Orderly ops ks n) (hn : n = a₀.tmps.size) (hL : LaidOk ks ks) {S : World → Prop} (hS : ∀ w, Below w₀.heap.size w₀ w → S w)
    (hp : ops.size = p) (hpf : p + 1 ≤ full.size) (hfull : ∀ i, i < p → full[i]? = ops[i]?) (hgd : ∀ {i : Nat} {o : Oper} {g : Nat} {b : Bool}, ops[i]? = some o → o.guard = some (g, b) → g < p)
    (hup : ∀ {i : Nat} {o : Oper}, full[i]? = some o → ∀ e ∈ o.after, Region.binds .any e = true → e.on < i)
    (hop : full[p]? = some op) (hdst : op.dst = none) (hgu : op.guard = none) (hsel : ∀ cs b, op.op ≠ .select cs b)
    {late : List Nat} (hwp : ∀ j, j < p → waitsT full 4 op j = true ∨ j ∈ late) (hlook : ∀ d ∈ op.looksAt full, ∀ j oj, ops[j]? = some oj → oj.dst = some d → waitsT full 4 op j = true)
    (hwt : ∀ {i : Nat} {o : Oper}, full[i]? = some o → p + 1 ≤ i → ∀ j, j < i → waitsT full 4 o j = true)
    (hlate : LateOk P ops ks (fun J => zZ J 0 ops.toList ks a₀) late)
    (hops : AllOk P ops S (fun J => zZ J 0 ops.toList ks a₀) ops.toList ks)
    (hend : ∀ J w l, Mem ks w₀ l J w → (∀ i, i < p → l.getD i false = true) → ∃ w', (execOp (zZ J 0 ops.toList ks a₀).eval op).run P w = .ok .skip w' ∧ wpOps P full Q (List.range' (p + 1) (full.size - (p + 1))) (zZ J 0 ops.toList ks a₀) w') :
    ∀ (fuel : Nat) (l : Array Bool) (J : Nat → Nat) (a : Act) (w : World), l.size = full.size → l.toList.count false ≤ fuel → Closed full l → (∀ i, p ≤ i → i < full.size → l.getD i true = false) → Agree ops ks a₀ l J a → Mem ks w₀ l J w → wpAny P .any full Q fuel l a w := by
  intro fuel
  induction fuel with
  | zero =>
    intro l J a w hsz hc hcl ht hA hM
    have := count_set (ht p (Nat.le_refl _) (by omega))
    omega
  | succ fuel ih =>
    intro l J a w hsz hc hcl ht hA hM
    have hpu := ht p (Nat.le_refl _) (by omega)
    refine ⟨fun hr => ?_, fun i hi => ?_⟩
    · have := ready_all hup hsz hr p (by omega)
      rw [(getD_same hpu).1] at this
      cases this
    · obtain ⟨hun, o, ho, hedge⟩ := mem_ready.1 hi
      have hilt : i < full.size := (Array.getElem?_eq_some_iff.1 ho).1
      have hc' := count_set hun
      have hip1 : i < p + 1 := by
        rcases Nat.lt_or_ge i (p + 1) with h' | h'
        · exact h'
        · have := waitsT_spec hcl 4 o (hwt ho h' p (by omega)) hedge
          rw [(getD_same hpu).1] at this
          cases this
      by_cases hip : i = p
      · subst hip
        have ho2 := ho
        rw [hop] at ho
        injection ho with ho
        subst ho
        have hbefore : ∀ j, j < i → j ∉ late → l.getD j false = true := fun j hj hnl => by
          rcases hwp j hj with h | h
          · exact waitsT_spec hcl 4 _ h hedge
          · exact absurd h hnl
        obtain ⟨l', hM', hs', hl1, hl2⟩ := mem_late hlate hM
        have hfin : ∀ j, j < i → l'.getD j false = true := fun j hj => by
          by_cases h : j ∈ late
          · exact hl2 j h (by omega)
          · exact hl1 j (hbefore j hj h)
        obtain ⟨w', hx, hQ⟩ := hend J w l' hM' hfin
        have he := see_all (full := full) hA hsel (fun d hd j oj hj hdj => waitsT_spec hcl 4 _ (hlook d hd j oj hj hdj) hedge)
        refine wpOp_step hop (fun K' hK => ?_)
        have hwn : Region.wanted op (yielded full a.tmps) = true := by unfold Region.wanted; rw [hgu]
        rw [if_pos hwn]
        unfold Oper.wp
        rw [he, hx]
        have hA' : Agree ops ks a₀ (l.setIfInBounds i true) J (a.put op.dst undef) := by
          rw [hdst]
          refine ⟨hA.defers, hA.size, fun d hd => hA.slots d (fun j oj hj hdj => ?_)⟩
          have h1 := hd j oj hj hdj
          have hj' : j < i := by rw [← hp]; exact (Array.getElem?_eq_some_iff.1 hj).1
          rwa [getD_set_ne false (by omega)] at h1
        refine hK _ _ (after_put hO hn hp hpf hfull hgd hup hwt hlate hQ fuel _ _ (by simp [hsz]) (by omega) (hcl.step ho2 hedge) (fun j hj hj2 => ?_) (fun j hj hj2 => ?_) hA')
        · by_cases e : i = j
          · subst e
            have hi' : i < l.size := by omega
            simp [hi'] at hj2
          · rw [getD_set_ne true e] at hj2
            apply Classical.byContradiction
            intro hnl
            have := hbefore j (by omega) hnl
            rw [(getD_same hj2).1] at this
            cases this
        · rw [getD_set_ne true (by omega)]
          exact ht j (by omega) hj2
      · have hlt : i < p := by omega
        have ho' : ops[i]? = some o := by rw [← hfull i hlt]; exact ho
        refine kind_step hO hn hL hS hfull hgd hops hA hM hlt ho' hun hedge (fun J' a' w' hA' hM' => ?_)
        exact ih _ J' a' w' (by simp [hsz]) (by omega) (hcl.step ho hedge) (fun j hj hj2 => by rw [getD_set_ne true (by omega)]; exact ht j hj hj2) hA' hM'
/-- What is to be looked up of the whole region. -/
def putly (full : Array Oper) (p : Nat) (late : List Nat) : Bool :=
  eachOp full (fun i o => o.after.all fun e => !Region.binds .any e || decide (e.on < i)) && decide (p + 1 ≤ full.size) && Region.noSelect full &&
  (match full[p]? with
   | none => false
   | some op => op.dst.isNone && op.guard.isNone && ((List.range p).all fun j => waitsT full 4 op j || late.contains j) && (op.looksAt full).all fun d => eachOp full fun j oj => oj.dst != some d || waitsT full 4 op j || decide (p ≤ j)) &&
  eachOp full (fun i o => decide (i < p + 1) || (List.range i).all fun j => waitsT full 4 o j)
/-- **The law of such a region.** -/
theorem walk_put {full : Array Oper} {a : Act} {w : World} {id : Nat} (hm : P.follows .mixedOrders = true) (p : Nat) (late : List Nat) (ks : List Kind) (S : World → Prop) (pre : List Oper) (F : (Nat → Nat) → Act) (op : Oper) (hpre : full.toList.take p = pre)
    (hF : ∀ J, zZ J 0 pre ks a = F J) (hor : (orderly pre.toArray ks a.tmps.size && guarded pre.toArray p && putly full p late) = true) (hop : full[p]? = some op) (hL : LaidOk ks ks) (hS : ∀ w', Below w.heap.size w w' → S w')
    (hops : AllOk P pre.toArray S F pre ks) (hlate : LateOk P pre.toArray ks F late)
    (hend : ∀ J w' l, Mem ks w l J w' → (∀ i, i < p → l.getD i false = true) → ∃ w'', (execOp (F J).eval op).run P w' = .ok .skip w'' ∧ wpOps P full Q (List.range' (p + 1) (full.size - (p + 1))) (F J) w'') :
    (Code.region id full true).wp P Q a w := by
  subst hpre
  obtain rfl : (fun J => zZ J 0 (full.toList.take p) ks a) = F := funext hF
  simp only [Bool.and_eq_true] at hor
  obtain ⟨⟨h1, h2⟩, h3⟩ := hor
  unfold putly at h3
  rw [hop] at h3
  simp only [Bool.and_eq_true, decide_eq_true_eq, Option.isNone_iff_eq_none] at h3
  obtain ⟨⟨⟨⟨h5, h6⟩, h7⟩, ⟨⟨h8, h9⟩, h10⟩, h11⟩, h12⟩ := h3
  have hsz : (full.toList.take p).toArray.size = p := by simp; omega
  have hfu : ∀ i, i < p → full[i]? = (full.toList.take p).toArray[i]? := fun i hi => by rw [← take_arr]; exact first_full hi
  refine wp_region_any hm (first_put (ops := (full.toList.take p).toArray) (Orderly.of h1) rfl hL hS hsz h6 hfu (fun ho hg => guarded_spec h2 ho hg) (fun ho e he hb => ?_) hop h8 h9 (fun cs b => Region.noSelect_spec h7 p op cs b hop) (late := late) (fun j hj => ?_) (fun d hd j oj hj hdj => ?_) (fun ho hi j hj => ?_) hlate hops hend full.size _ (fun _ => 0) a w.drew (by simp) (by simp) (Closed.none _ _) (fun i _ hi => none_listed' hi) (start_agree _ _) (start_mem _ _ (Below.refl _ _).drew))
  · have := Array.all_eq_true_iff_forall_mem.1 (zR h5 ho) e he
    simpa [hb] using this
  · have := List.all_eq_true.1 h10 j (List.mem_range.2 hj)
    simpa using this
  · have hj' : j < p := by rw [← hsz]; exact (Array.getElem?_eq_some_iff.1 hj).1
    have := zR (List.all_eq_true.1 h11 d hd) (by rw [hfu j hj']; exact hj)
    simp only [hdj, bne_self_eq_false, Bool.false_or, Bool.or_eq_true, decide_eq_true_eq] at this
    rcases this with h | h
    · exact h
    · omega
  · have := zR h12 ho
    simp only [Bool.or_eq_true, decide_eq_true_eq] at this
    rcases this with h | h
    · omega
    · exact List.all_eq_true.1 h j (List.mem_range.2 hj)
end
end Rg
end Go.Proofs.YtmanelnacifgcaaGreatDoor
end
section
namespace Go.Proofs.YtmanelnacifgcaaGreatDoor
open Go.RowKit
theorem small_big (n : Nat) (h : n < 18446744073709551616) : n < big := Nat.lt_of_lt_of_le (show n < 2 ^ 64 from h) (by
 obtain ⟨m, hm, e⟩ := big_pow
 rw [e]; exact pow_le' _ _ (by omega))
end Go.Proofs.YtmanelnacifgcaaGreatDoor
end
section
namespace Go.Proofs.YtmanelnacifgcaaGreatDoor
open Go.RowKit Go.Lib
theorem twelve_zero {c : Array Value} (h : c = #[.int .u64 0, .int .u64 0, .int .u64 0, .int .u64 0, .int .u64 0, .int .u64 0, .int .u64 0, .int .u64 0, .int .u64 0, .int .u64 0, .int .u64 0, .int .u64 0]) : ∀ j, j < 12 → c[j]? = some (.int .u64 0) := by
 subst h
 intro j hj
 match j, hj with
 | 0, _ | 1, _ | 2, _ | 3, _ | 4, _ | 5, _ | 6, _ | 7, _ | 8, _ | 9, _ | 10, _ | 11, _ => rfl
/-- What stands in memory while Mul runs: a, b, two results, the product. -/
structure MulMem (w wr : World) (a b : Nat) (p : Nat → Int) : Prop where
 ra : Row wr w.heap.size 6 (wd a)
 rb : Row wr (w.heap.size + 1) 6 (wd b)
 rl : Row wr (w.heap.size + 1 + 1) 6 (fun _ => 0)
 rh : Row wr (w.heap.size + 1 + 1 + 1) 6 (fun _ => 0)
 rp : Row wr (w.heap.size + 1 + 1 + 1 + 1) 12 p
 bl : Below w.heap.size w wr
 sz : wr.heap.size = w.heap.size + 1 + 1 + 1 + 1 + 1
theorem MulMem.store {w wr : World} {a b : Nat} {p : Nat → Int} (h : MulMem w wr a b p) (k : Nat) (v : Int) : MulMem w (wr.setCell ⟨w.heap.size + 1 + 1 + 1 + 1, k, none⟩ (.int .u64 v)) a b (upd p k v) :=
 ⟨h.ra.set_other _ (by first | omega | (simp <;> omega)), h.rb.set_other _ (by first | omega | (simp <;> omega)), h.rl.set_other _ (by first | omega | (simp <;> omega)), h.rh.set_other _ (by first | omega | (simp <;> omega)), h.rp.set _, h.bl.setCell (by first | omega | (simp <;> omega)) _, by simp [World.setCell, h.sz]⟩
theorem MulMem.drew {w wr : World} {a b : Nat} {p : Nat → Int} (h : MulMem w wr a b p) : MulMem w wr.drew a b p :=
 ⟨h.ra.drew, h.rb.drew, h.rl.drew, h.rh.drew, h.rp.drew, h.bl.drew, h.sz⟩
theorem MulMem.congr {w wr : World} {a b : Nat} {p p' : Nat → Int} (h : MulMem w wr a b p) (e : ∀ j, j < 12 → p j = p' j) : MulMem w wr a b p' :=
 ⟨h.ra, h.rb, h.rl, h.rh, h.rp.congr e, h.bl, h.sz⟩
set_option maxHeartbeats 3200000 in
theorem mul_any (a b : Nat) (ha : a < big) (hb : b < big) (w : World) :
  Calls Tryz.prog 158 #[N a, N b] w (Rt w (.tuple #[N (a * b % big), N (a * b / big)])) := by
 have HA : Hid (a < big) := ha
 have HB : Hid (b < big) := hb
 clear ha hb
 go_enter Tryz.func158, Tryz.ntmps158
 go_wp2
 go_loopw [13] (fun i wr => ∃ k : Nat, k ≤ 6 ∧ i = .int .i64 k ∧ MulMem w wr a b (wd ((a % 2 ^ (64 * k)) * b))) (fun i _ => 6 - (RowKit.intOf i).toNat)
 case atStart =>
  refine ⟨0, by omega, rfl, ?_, ?_, ?_, ?_, ?_, ?_, ?_⟩
  ·exact ((((Row.new w _ 24 rfl (six_lt rfl)).alloc (by first | omega | (simp <;> omega)) _).alloc (by first | omega | (simp <;> omega)) _).alloc (by first | omega | (simp <;> omega)) _).alloc (by first | omega | (simp <;> omega)) _
  ·exact (((Row.new _ _ 24 (by first | omega | (simp <;> omega)) (six_lt rfl)).alloc (by first | omega | (simp <;> omega)) _).alloc (by first | omega | (simp <;> omega)) _).alloc (by first | omega | (simp <;> omega)) _
  ·exact ((Row.new _ _ 24 (by first | omega | (simp <;> omega)) (six_lt (f := fun _ => 0) rfl)).alloc (by first | omega | (simp <;> omega)) _).alloc (by first | omega | (simp <;> omega)) _
  ·exact (Row.new _ _ 24 (by first | omega | (simp <;> omega)) (six_lt (f := fun _ => 0) rfl)).alloc (by first | omega | (simp <;> omega)) _
  ·exact (Row.new _ _ 193 (by first | omega | (simp <;> omega)) (f := fun _ => 0) (twelve_zero rfl)).congr (fun j _ => by simp [wd, Nat.mod_one])
  ·exact (((((Below.refl _ _).alloc (Nat.le_refl _) _).alloc (by first | omega | (simp <;> omega)) _).alloc (by first | omega | (simp <;> omega)) _).alloc (by first | omega | (simp <;> omega)) _).alloc (by first | omega | (simp <;> omega)) _
  ·simp
 case round =>
  obtain ⟨i, hi, rfl, hM⟩ := hrel
  by_cases hlt : i < 6
  ·have HM : Hid _ := hM
   clear hM
   have hd : decide ((i : Int) < 6) = true := by simp; omega
   go_wp2
   go_loopw [8, 16] (fun c jv wq => ∃ j : Nat, j ≤ 6 ∧ jv = .int .i64 j ∧ c = .int .u64 (mc a b i j) ∧ MulMem w wq a b (pm ((a % 2 ^ (64 * i)) * b) (sm a b i j) (i + j))) (fun _ j _ => 6 - (RowKit.intOf j).toNat)
   case atStart => exact ⟨0, by omega, rfl, by rw [mc_zero], HM.out.congr (fun m _ => (pm_start a b i m).symm)⟩
   case round =>
    obtain ⟨j, hj, rfl, rfl, hQ⟩ := hrel
    by_cases hjl : j < 6
    ·have hA1 := (hQ.ra i hlt).1
     have hB1 := (hQ.rb j hjl).1
     obtain ⟨hP1, hP2⟩ := hQ.rp (i + j) (by omega)
     have ep : pm ((a % 2 ^ (64 * i)) * b) (sm a b i j) (i + j) (i + j) = wd ((a % 2 ^ (64 * i)) * b) (i + j) := by unfold pm; rw [if_neg (by omega)]
     rw [ep] at hP1
     clear ep
     have HQ : Hid _ := hQ
     clear hQ HM
     have hc := fun w => mulAdd_any (wd a i) (wd b j) (wd ((a % 2 ^ (64 * i)) * b) (i + j)) (mc a b i j) (wd_bd _ _).1 (wd_bd _ _).2 (wd_bd _ _).1 (wd_bd _ _).2 (wd_bd _ _).1 (wd_bd _ _).2 (mc_bd _ _ _ _).1 (mc_bd _ _ _ _).2 w
     have HC : Hid _ := hc
     clear hc
     have et : ((i : Int) + (j : Int)).toNat = i + j := by omega
     have e0 : (0 : Int) ≤ (i : Int) + (j : Int) := by omega
     have e1 : (i : Int) + (j : Int) < 12 := by omega
     have ew : IntKind.i64.wrap ((i : Int) + (j : Int)) = (i : Int) + (j : Int) := by rw [IntKind.wrap_i64]; omega
     go_wp2
     go_region_with (go_at_call 160; refine (HC.out _).mono ?_; rintro e w' ⟨rfl, rfl⟩)
     all_goals
      go_wp2
      go_roundw
      case rel =>
       rw [mul_hi, mul_lo]
       exact ⟨j + 1, by omega, by go_num, rfl, (HQ.out.store (i + j) _).drew.congr (fun m _ => pm_step a b i j m)⟩
      case measure => simp [RowKit.intOf]; omega
    ·have hj6 : j = 6 := by omega
     subst hj6
     obtain ⟨hP1, hP2⟩ := hQ.rp (i + 6) (by omega)
     have HQ : Hid _ := hQ
     clear hQ HM
     rw [show ((6 : Nat) : Int) = 6 from rfl]
     go_wp2
     go_roundw
     case rel => exact ⟨i + 1, by omega, by go_num, (HQ.out.store (i + 6) _).congr (fun m _ => pm_end a b i m HB.out)⟩
     case measure => simp [RowKit.intOf]; omega
  ·have hi6 : i = 6 := by omega
   subst hi6
   have hM2 : MulMem w wr a b (wd (a * b)) := by
    rw [← big_eq, Nat.mod_eq_of_lt HA.out] at hM
    exact hM
   clear hM
   have hsz := hM2.sz
   have HM : Hid _ := hM2
   clear hM2
   rw [show ((6 : Nat) : Int) = 6 from rfl]
   go_wp2
   go_loopw [45] (fun i wq => ∃ k : Nat, k ≤ 6 ∧ i = .int .i64 k ∧ Row wq (w.heap.size + 1 + 1) 6 (fun _ => 0) ∧ Row wq (w.heap.size + 1 + 1 + 1) 6 (fun _ => 0) ∧ Row wq (w.heap.size + 1 + 1 + 1 + 1) 12 (wd (a * b)) ∧ Row wq (w.heap.size + 1 + 1 + 1 + 1 + 1) 6 (part (a * b) k) ∧ Row wq (w.heap.size + 1 + 1 + 1 + 1 + 1 + 1) 6 (part (a * b / big) k) ∧ Below w.heap.size w wq) (fun i _ => 6 - (RowKit.intOf i).toNat)
   case atStart =>
    have h := HM.out
    refine ⟨0, by omega, rfl, ?_, ?_, ?_, ?_, ?_, ?_⟩
    ·exact (h.rl.alloc (by first | omega | (simp <;> omega)) _).alloc (by first | omega | (simp <;> omega)) _
    ·exact (h.rh.alloc (by first | omega | (simp <;> omega)) _).alloc (by first | omega | (simp <;> omega)) _
    ·exact (h.rp.alloc (by first | omega | (simp <;> omega)) _).alloc (by first | omega | (simp <;> omega)) _
    ·exact (Row.new _ _ 24 (by first | omega | (simp <;> omega)) (six_lt (f := part (a * b) 0) rfl)).alloc (by first | omega | (simp <;> omega)) _
    ·exact Row.new _ _ 24 (by first | omega | (simp <;> omega)) (six_lt (f := part (a * b / big) 0) rfl)
    ·exact (h.bl.alloc (by first | omega | (simp <;> omega)) _).alloc (by first | omega | (simp <;> omega)) _
   case round =>
    clear HM hsz
    obtain ⟨k, hk, rfl, h1, h2, h3, h4, h5, h6⟩ := hrel
    by_cases hlt2 : k < 6
    ·obtain ⟨p1, _⟩ := h3 k (by omega)
     obtain ⟨p2, _⟩ := h3 (k + 6) (by omega)
     obtain ⟨q1, q2⟩ := h4 k hlt2
     obtain ⟨q3, q4⟩ := h5 k hlt2
     have HR : Hid (_ ∧ _ ∧ _ ∧ _ ∧ _ ∧ _) := ⟨h1, h2, h3, h4, h5, h6⟩
     clear h1 h2 h3 h4 h5 h6
     go_wp2
     go_region
     go_wp2
     go_roundw
     case rel =>
      obtain ⟨h1, h2, h3, h4, h5, h6⟩ := HR.out
      refine ⟨k + 1, by omega, by go_num, ?_, ?_, ?_, ?_, ?_, ?_⟩
      ·exact ((h1.set_other _ (by first | omega | (simp <;> omega))).set_other _ (by first | omega | (simp <;> omega))).drew
      ·exact ((h2.set_other _ (by first | omega | (simp <;> omega))).set_other _ (by first | omega | (simp <;> omega))).drew
      ·exact ((h3.set_other _ (by first | omega | (simp <;> omega))).set_other _ (by first | omega | (simp <;> omega))).drew
      ·exact (((h4.set _).congr (fun j _ => part_step rfl j)).set_other _ (by first | omega | (simp <;> omega))).drew
      ·exact (((h5.set_other _ (by first | omega | (simp <;> omega))).set _).congr (fun j _ => part_step (wd_hi _ _) j)).drew
      ·exact ((h6.setCell (by first | omega | (simp <;> omega)) _).setCell (by first | omega | (simp <;> omega)) _).drew
     case measure => simp [RowKit.intOf]; omega
    ·have hk6 : k = 6 := by omega
     subst hk6
     obtain ⟨s0, s1, s2, s3, s4, s5⟩ := (h4.congr (f' := wd (a * b % big)) (fun j hj => by rw [part_lt hj, wd_mod _ _ hj])).reads
     obtain ⟨t0, t1, t2, t3, t4, t5⟩ := (h5.congr (f' := wd (a * b / big)) (fun j hj => by rw [part_lt hj])).reads
     obtain ⟨z0, z1, z2, z3, z4, z5⟩ := h1.writes
     obtain ⟨y0, y1, y2, y3, y4, y5⟩ := h1.reads
     obtain ⟨v0, v1, v2, v3, v4, v5⟩ := h2.writes
     obtain ⟨x0, x1, x2, x3, x4, x5⟩ := h2.reads
     clear h1 h2 h3 h4 h5
     rw [show ((6 : Nat) : Int) = 6 from rfl]
     go_wp2
     go_region
     go_wp2
     refine bodyPost_ret (v := .tuple #[N (a * b % big), N (a * b / big)]) ?_ rfl ⟨rfl, ?_⟩
     ·simp [results, Tryz.results158, go_sem, *]
     ·exact (below6 (below6 h6 (by omega) _ _ _ _ _ _) (by omega) _ _ _ _ _ _).drew
end Go.Proofs.YtmanelnacifgcaaGreatDoor
end
section
namespace Go.Proofs.YtmanelnacifgcaaGreatDoor
open Go.RowKit
/-! The plain law. -/
end Go.Proofs.YtmanelnacifgcaaGreatDoor
end
section
namespace Go.Proofs.YtmanelnacifgcaaGreatDoor
open Go.RowKit
namespace Rg
/-! The word that makes -1 with an odd word. -/
def newt (x i : Int) : Int := (i * ((2 - x * i % 18446744073709551616) % 18446744073709551616)) % 18446744073709551616
def newts (x : Int) : Nat → Int
 | 0 => x
 | k + 1 => newt x (newts x k)
def wrapZ (x : Int) : Int := (-(newts x 5)) % 18446744073709551616
theorem newt_dvd (x i d e : Int) (h : d ∣ 1 - x * i) (he : e ∣ d * d) (hW : e ∣ 18446744073709551616) : e ∣ 1 - x * newt x i := by
 obtain ⟨q, hq⟩ : ∃ q, newt x i = i * (2 - x * i) + 18446744073709551616 * q := by
  unfold newt
  have h1 := Int.emod_def (x * i) 18446744073709551616
  have h2 := Int.emod_def (2 - x * i % 18446744073709551616) 18446744073709551616
  have h3 := Int.emod_def (i * ((2 - x * i % 18446744073709551616) % 18446744073709551616)) 18446744073709551616
  rw [h3]
  rw [h2, h1]
  generalize x * i / 18446744073709551616 = p
  generalize (2 - (x * i - 18446744073709551616 * p)) / 18446744073709551616 = q
  generalize (i * (2 - (x * i - 18446744073709551616 * p) - 18446744073709551616 * q)) / 18446744073709551616 = r
  refine ⟨i * p - i * q - r, ?_⟩
  generalize hxi : x * i = y
  simp only [Int.mul_sub]
  have e1 : i * (18446744073709551616 * p) = 18446744073709551616 * (i * p) := Int.mul_left_comm ..
  have e2 : i * (18446744073709551616 * q) = 18446744073709551616 * (i * q) := Int.mul_left_comm ..
  rw [e1, e2]
  omega
 have e1 : 1 - x * newt x i = (1 - x * i) * (1 - x * i) - 18446744073709551616 * (x * q) := by
  rw [hq, Int.mul_add, ← Int.mul_assoc]
  have e2 : x * (18446744073709551616 * q) = 18446744073709551616 * (x * q) := Int.mul_left_comm ..
  rw [e2]
  generalize x * i = y
  have e3 : y * (2 - y) = 2 * y - y * y := by rw [Int.mul_sub, Int.mul_comm y 2]
  have e4 : (1 - y) * (1 - y) = 1 - 2 * y + y * y := by rw [Int.mul_sub, Int.sub_mul, Int.sub_mul]; omega
  rw [e3, e4]; omega
 rw [e1]
 refine Int.dvd_sub (Int.dvd_trans he ?_) (Int.dvd_trans hW (Int.dvd_mul_right _ _))
 obtain ⟨m, hm⟩ := h
 rw [hm]
 exact ⟨m * m, by rw [Int.mul_assoc, Int.mul_left_comm m d m, ← Int.mul_assoc]⟩
theorem newts_five (x : Int) (ho : x % 2 = 1) : (18446744073709551616 : Int) ∣ 1 - x * newts x 5 := by
 have h0 : (8 : Int) ∣ 1 - x * newts x 0 := by
  show (8 : Int) ∣ 1 - x * x
  obtain ⟨y, hy⟩ : ∃ y, x = 2 * y + 1 := ⟨x / 2, by omega⟩
  have e2 : 2 * y * (2 * y) = 4 * (y * y) := by rw [Int.mul_assoc, Int.mul_left_comm y 2 y, ← Int.mul_assoc]; rfl
  have e : x * x = 4 * (y * (y + 1)) + 1 := by
   rw [hy, Int.mul_add, Int.mul_add, Int.add_mul, e2]
   omega
  have h2 : y * (y + 1) % 2 = 0 := by
   rcases (by omega : y % 2 = 0 ∨ y % 2 = 1) with h | h
   ·rw [Int.mul_emod, h]; simp
   ·rw [Int.mul_emod, show (y + 1) % 2 = 0 by omega]; simp
  rw [e]
  omega
 have h1 := newt_dvd x _ 8 64 h0 (by decide) (by decide)
 have h2 := newt_dvd x _ 64 4096 h1 (by decide) (by decide)
 have h3 := newt_dvd x _ 4096 16777216 h2 (by decide) (by decide)
 have h4 := newt_dvd x _ 16777216 281474976710656 h3 (by decide) (by decide)
 exact newt_dvd x _ 281474976710656 18446744073709551616 h4 (by decide) (by decide)
theorem wrapZ_bd (x : Int) : 0 ≤ wrapZ x ∧ wrapZ x < 18446744073709551616 := by unfold wrapZ; omega
theorem wrapZ_spec (x : Int) (ho : x % 2 = 1) : wrapZ x * x % 18446744073709551616 = 18446744073709551615 := by
 obtain ⟨m, hm⟩ := newts_five x ho
 have h := Int.emod_def (-(newts x 5)) 18446744073709551616
 unfold wrapZ
 rw [h]
 generalize -(newts x 5) / 18446744073709551616 = q
 rw [Int.sub_mul, Int.neg_mul, Int.mul_comm (newts x 5) x, Int.mul_assoc]
 generalize x * newts x 5 = y at hm
 generalize q * x = z
 omega
/-- The word of a number's modulus, as a natural number. -/
def wrapN (n : Nat) : Nat := (wrapZ (wd n 0)).toNat
theorem wrapN_cast (n : Nat) : ((wrapN n : Nat) : Int) = wrapZ (wd n 0) := Int.toNat_of_nonneg (wrapZ_bd _).1
theorem wrapN_spec (n : Nat) (ho : n % 2 = 1) : wrapN n * n % 18446744073709551616 = 18446744073709551615 := by
 have h0 : wd n 0 = ((n % 18446744073709551616 : Nat) : Int) := by unfold wd; rw [Nat.mul_zero, Nat.pow_zero, Nat.div_one]
 have h := wrapZ_spec (wd n 0) (by rw [h0]; omega)
 rw [← wrapN_cast, h0, ← Int.natCast_mul] at h
 have h1 : wrapN n * (n % 18446744073709551616) % 18446744073709551616 = 18446744073709551615 := by omega
 rw [Nat.mul_mod, Nat.mod_mod, ← Nat.mul_mod] at h1
 exact h1
/-- What stands in memory of a modulus. -/
abbrev zN (n o s : Nat) : List Value := [.int .u64 (wd n 0), .int .u64 (wd n 1), .int .u64 (wd n 2), .int .u64 (wd n 3), .int .u64 (wd n 4), .int .u64 (wd n 5), .int .u64 (wrapZ (wd n 0)), .int .u64 (wd o 0), .int .u64 (wd o 1), .int .u64 (wd o 2), .int .u64 (wd o 3), .int .u64 (wd o 4), .int .u64 (wd o 5), .int .u64 (wd s 0), .int .u64 (wd s 1), .int .u64 (wd s 2), .int .u64 (wd s 3), .int .u64 (wd s 4), .int .u64 (wd s 5)]
abbrev zT (n : Nat) : List Value := zN n (big % n) (big * big % n)
theorem ex_zero6 {ρ : Operand → Value} {o : Oper} {w : World} (ho : o.op = .build 24 #[]) : (execOp ρ o).run Tryz.prog w = .ok (.value (N 0)) w := by
 simp only [execOp, ho]
 go_simp
 simp [wd_zero]
/-- What a modulus may be. -/
structure Ok (n : Nat) : Prop where
 odd : n % 2 = 1
 three : 3 ≤ n
 top : 4 * n < big
theorem Ok.big {n : Nat} (h : Ok n) : n < big := by have := h.top; omega
theorem Ok.pos {n : Nat} (h : Ok n) : 0 < n := by have := h.three; omega
theorem Ok.word {n : Nat} (h : Ok n) : ¬ wd n 0 = 0 := by
 have h0 : wd n 0 = ((n % 18446744073709551616 : Nat) : Int) := by unfold wd; rw [Nat.mul_zero, Nat.pow_zero, Nat.div_one]
 have := h.odd
 rw [h0]; omega
theorem made_any (g n o s : Nat) (ok : Ok n) (w : World) (hm : Mm w [(g, zN n o s)]) :
  Calls Tryz.prog 37 #[PT g 0] w (Rt w (.bool true)) := by
 have H0 : Hid (_ ∧ _) := ⟨hm, Below.refl w.heap.size w⟩
 clear hm
 have hw0 := ok.word
 go_enter Tryz.func37, Tryz.ntmps37
 refine wp_seq ?_
 refine zD 1 [.q (.bool false)] H0 ?ho1 ?he1
 case ho1 => exact ar trivial
 intro _ w1 H1
 refine rN (wp_seq ?_)
 refine zD 11 [.q (PT g 0), .q (.bool true), .q (.bool true), .q (PT g 0), .q (PT g 0), .q (PT g 0), .q (PT g 0), .q (.int .u64 (wd n 0)), .q (.bool true), .q (.bool true), .q (.bool true)] H1 ?ho2 ?he2
 case ho2 => exact ar (ag (ar (ar (ag (ag (ag (aq (fun w' h => ex_load1 h 0 rfl rfl rfl rfl) (ag (ag (ar trivial))))))))))
 intro _ w2 H2
 clear H1
 refine rN (wp_ret ?_)
 repeat (first | refine zJ ?_ | refine zI ?_)
 refine bodyPost_ret (v := .bool true) (by simp [results, Tryz.results37, go_sem, *]) rfl ?_
 exact ⟨rfl, H2.out.2⟩
set_option maxHeartbeats 400000 in
theorem mulAddM_any (a b m c : Int) (ha : 0 ≤ a) (ha' : a < 18446744073709551616) (hb : 0 ≤ b) (hb' : b < 18446744073709551616) (hm : 0 ≤ m) (hm' : m < 18446744073709551616) (hc : 0 ≤ c) (hc' : c < 18446744073709551616) (w : World) :
  Calls Tryz.prog 65 #[.int .u64 a, .int .u64 b, .int .u64 m, .int .u64 c] w fun e w' => e = .returned (.tuple #[.int .u64 (mulLo a b m c), .int .u64 (mulHi a b m c)]) ∧ w' = w := by
 obtain ⟨x, rfl⟩ := Int.eq_ofNat_of_zero_le ha
 obtain ⟨y, rfl⟩ := Int.eq_ofNat_of_zero_le hb
 have hx : x < 18446744073709551616 := by omega
 have hy : y < 18446744073709551616 := by omega
 have e1 : Hid _ := mulAdd_hi x y m c hx hy hm hm' hc hc'
 have e2 : Hid _ := mulAdd_lo x y m c
 have h1 := fun w => add64' (pLo x y) m 0 (by unfold pLo; omega) hm (by omega) (by omega) w
 have h2 := fun w => add64' (addLo (pLo x y) m 0) c 0 (by unfold addLo; omega) hc (by omega) (by omega) w
 have h3 := fun w => mul64' x y hx hy w
 have H3 : Hid _ := h3
 clear ha ha' hb hb' hm hm' hc hc' hx hy h3
 go_enter Tryz.func65, Tryz.ntmps65
 go_wp2_with (go_at_call 64; refine (H3.out _).mono ?_; rintro e w' ⟨rfl, rfl⟩)
 rw [e1.out, e2.out]
 go_ret2
 exact ⟨rfl, rfl⟩
set_option maxHeartbeats 1000000 in
theorem wrapOf_any (x : Int) (w : World) : Calls Tryz.prog 35 #[.int .u64 x] w fun e w' => e = .returned (.int .u64 (wrapZ x)) ∧ w' = w := by
 have hs : ∀ k, IntKind.u64.wrap (newts x k * IntKind.u64.wrap (2 - IntKind.u64.wrap (x * newts x k))) = newts x (k + 1) := fun k => by
  simp only [IntKind.wrap_u64, newts, newt]
 have HS : Hid _ := hs
 have he : IntKind.u64.wrap (-(newts x 5)) = wrapZ x := by rw [IntKind.wrap_u64]; rfl
 have HE : Hid _ := he
 clear hs he
 go_enter Tryz.func35, Tryz.ntmps35
 go_wp2
 go_loopw [3, 4] (fun c i wr => ∃ k : Nat, k ≤ 5 ∧ c = .int .u64 (newts x k) ∧ i = .int .i64 (3 * 2 ^ k) ∧ wr = w) (fun _ i _ => 96 - (RowKit.intOf i).toNat)
 case atStart => exact ⟨0, by omega, rfl, rfl, rfl⟩
 case round =>
  obtain ⟨k, hk, rfl, rfl, rfl⟩ := hrel
  rcases (by omega : k = 0 ∨ k = 1 ∨ k = 2 ∨ k = 3 ∨ k = 4 ∨ k = 5) with rfl | rfl | rfl | rfl | rfl | rfl
  ·go_wp2
   go_roundw
   case rel => exact ⟨1, by omega, congrArg (Value.int .u64) (HS.out 0), by simp⟩
   case measure => simp [RowKit.intOf]
  ·go_wp2
   go_roundw
   case rel => exact ⟨2, by omega, congrArg (Value.int .u64) (HS.out 1), by simp⟩
   case measure => simp [RowKit.intOf]
  ·go_wp2
   go_roundw
   case rel => exact ⟨3, by omega, congrArg (Value.int .u64) (HS.out 2), by simp⟩
   case measure => simp [RowKit.intOf]
  ·go_wp2
   go_roundw
   case rel => exact ⟨4, by omega, congrArg (Value.int .u64) (HS.out 3), by simp⟩
   case measure => simp [RowKit.intOf]
  ·go_wp2
   go_roundw
   case rel => exact ⟨5, by omega, congrArg (Value.int .u64) (HS.out 4), by simp⟩
   case measure => simp [RowKit.intOf]
  ·go_wp2
   rw [HE.out]
   go_ret
   exact ⟨rfl, rfl⟩
theorem call39 : CO 39 := by intro args w; go_simp
theorem below_t (g n o s a r : Nat) (c40 : ∀ w, Calls Tryz.prog 39 #[N a, N n] w (Rt w (.tuple #[N r, .bool true]))) (w : World) (hm : Mm w [(g, zN n o s)]) :
  Calls Tryz.prog 66 #[PT g 0, N a] w (Rt w (N a)) := by
 have H0 : Hid (_ ∧ _) := ⟨hm, Below.refl w.heap.size w⟩
 clear hm
 have C40 : Hid _ := c40
 clear c40
 go_enter Tryz.func66, Tryz.ntmps66
 refine wp_seq ?_
 refine zC 2 [.made (zB a) 24, .made zero6 24] (sB H0) ?ho1 ?he1
 case ho1 => exact am (zU rfl rfl) (am (zG rfl) trivial)
 intro J w1 l hM hl
 have H1 : Hid (Mm w1 ([(J 0, zB a), (J 1, zero6)] ++ _) ∧ _) := wB H0 hM hl [0, 1]
 have o1_0 := vB H0 hM hl 0
 have o1_1 := vB H0 hM hl 1
 clear hM hl l
 generalize J 0 = J1_0 at H1 o1_0 ⊢
 generalize J 1 = J1_1 at H1 o1_1 ⊢
 clear J
 refine rN (wp_seq ?_)
 refine zP 12 [.q (N a), .q (PT g 0), .q (PT g 0), .q (PT g 0), .q (N n), .call (.tuple #[N r, .bool true]), .q (.tuple #[N r, .bool true]), .q (N r), .q (.bool true), .made zero6 24, .laid 9 zero6 (zB r), .q (.bool true)] (sB H1) ?ho2 ?he2 (hL := ?hL2)
 case hL2 => exact ⟨⟨_, rfl⟩, trivial⟩
 case ho2 => exact bN 0 (ar (ag (ag (bN 2 (ac (fun w' h => eC call39 (C40.out w')) (ar (ag (ag (am (zG rfl) (ak (fun J => ⟨rfl, rfl, rfl, fun w' h => zK h rfl rfl rfl⟩) (ar trivial)))))))))))
 intro J w2 l hM hl
 have H2 : Hid (Mm w2 ([(J 9, zB r)] ++ _) ∧ _) := wB H1 hM hl [9]
 have o2_9 := vB H1 hM hl 9
 clear hM hl l H1
 generalize J 9 = J2_9 at H2 o2_9 ⊢
 clear J
 refine rN (wp_seq (wp_seq ?_))
 refine zD 1 [.q (.bool true)] H2 ?ho3 ?he3
 case ho3 => exact ar trivial
 intro _ w3 H3
 clear H2
 refine rN (wp_cond_true rfl (wp_seq ?_))
 refine zD 1 [.q (N a)] H3 ?ho4 ?he4
 case ho4 => exact bN 1 trivial
 intro _ w4 H4
 clear H3
 refine zH (l := [1]) rfl ?_
 refine sG rfl (fun h => zL h 2 rfl rfl rfl rfl (Nat.le_of_ble_eq_true rfl)) 2 [_, _, (_, zB a), _] H4 o1_1 fun w5 H5 => ?_
 clear H4
 refine zE (zA (wp_ret ?_))
 repeat (first | refine zJ ?_ | refine zI ?_)
 have c0 := H5.out.1.get 2 rfl 0 rfl
 have c1 := H5.out.1.get 2 rfl 1 rfl
 have c2 := H5.out.1.get 2 rfl 2 rfl
 have c3 := H5.out.1.get 2 rfl 3 rfl
 have c4 := H5.out.1.get 2 rfl 4 rfl
 have c5 := H5.out.1.get 2 rfl 5 rfl
 refine bodyPost_ret (v := N a) (by simp [results, Tryz.results66, go_sem, *]) rfl ?_
 exact ⟨rfl, H5.out.2⟩
theorem below_f (g n o s a r : Nat) (c40 : ∀ w, Calls Tryz.prog 39 #[N a, N n] w (Rt w (.tuple #[N r, .bool false]))) (w : World) (hm : Mm w [(g, zN n o s)]) :
  Calls Tryz.prog 66 #[PT g 0, N a] w (Rt w (N r)) := by
 have H0 : Hid (_ ∧ _) := ⟨hm, Below.refl w.heap.size w⟩
 clear hm
 have C40 : Hid _ := c40
 clear c40
 go_enter Tryz.func66, Tryz.ntmps66
 refine wp_seq ?_
 refine zC 2 [.made (zB a) 24, .made zero6 24] (sB H0) ?ho1 ?he1
 case ho1 => exact am (zU rfl rfl) (am (zG rfl) trivial)
 intro J w1 l hM hl
 have H1 : Hid (Mm w1 ([(J 0, zB a), (J 1, zero6)] ++ _) ∧ _) := wB H0 hM hl [0, 1]
 have o1_0 := vB H0 hM hl 0
 have o1_1 := vB H0 hM hl 1
 clear hM hl l
 generalize J 0 = J1_0 at H1 o1_0 ⊢
 generalize J 1 = J1_1 at H1 o1_1 ⊢
 clear J
 refine rN (wp_seq ?_)
 refine zP 12 [.q (N a), .q (PT g 0), .q (PT g 0), .q (PT g 0), .q (N n), .call (.tuple #[N r, .bool false]), .q (.tuple #[N r, .bool false]), .q (N r), .q (.bool false), .made zero6 24, .laid 9 zero6 (zB r), .q (.bool false)] (sB H1) ?ho2 ?he2 (hL := ?hL2)
 case hL2 => exact ⟨⟨_, rfl⟩, trivial⟩
 case ho2 => exact bN 0 (ar (ag (ag (bN 2 (ac (fun w' h => eC call39 (C40.out w')) (ar (ag (ag (am (zG rfl) (ak (fun J => ⟨rfl, rfl, rfl, fun w' h => zK h rfl rfl rfl⟩) (ar trivial)))))))))))
 intro J w2 l hM hl
 have H2 : Hid (Mm w2 ([(J 9, zB r)] ++ _) ∧ _) := wB H1 hM hl [9]
 have o2_9 := vB H1 hM hl 9
 clear hM hl l H1
 generalize J 9 = J2_9 at H2 o2_9 ⊢
 clear J
 refine rN (wp_seq (wp_seq ?_))
 refine zD 1 [.q (.bool false)] H2 ?ho3 ?he3
 case ho3 => exact ar trivial
 intro _ w3 H3
 clear H2
 refine rN (wp_cond_false rfl ?_)
 refine wp_skip (zA (wp_seq ?_))
 refine zD 1 [.q (N r)] H3 ?ho4 ?he4
 case ho4 => exact bN 0 trivial
 intro _ w4 H4
 clear H3
 refine zH (l := [1]) rfl ?_
 refine sG rfl (fun h => zL h 2 rfl rfl rfl rfl (Nat.le_of_ble_eq_true rfl)) 2 [_, _, (_, zB r), _] H4 o1_1 fun w5 H5 => ?_
 clear H4
 refine zE (zA (wp_ret ?_))
 repeat (first | refine zJ ?_ | refine zI ?_)
 have c0 := H5.out.1.get 2 rfl 0 rfl
 have c1 := H5.out.1.get 2 rfl 1 rfl
 have c2 := H5.out.1.get 2 rfl 2 rfl
 have c3 := H5.out.1.get 2 rfl 3 rfl
 have c4 := H5.out.1.get 2 rfl 4 rfl
 have c5 := H5.out.1.get 2 rfl 5 rfl
 refine bodyPost_ret (v := N r) (by simp [results, Tryz.results66, go_sem, *]) rfl ?_
 exact ⟨rfl, H5.out.2⟩
theorem below_any (g n o s a : Nat) (ha : a < big) (hn : n < big) (w : World) (hm : Mm w [(g, zN n o s)]) :
  Calls Tryz.prog 66 #[PT g 0, N a] w (Rt w (N (if a < n then a else a - n))) := by
 have c := fun w => sub_any a n ha hn w
 by_cases h : a < n
 ·rw [if_pos h]
  simp only [decide_eq_true h] at c
  exact below_t g n o s a _ c w hm
 ·rw [if_neg h]
  simp only [decide_eq_false h] at c
  have e : (a + big - n) % big = a - n := by
   rw [show a + big - n = a - n + big by omega, Nat.add_mod_right, Nat.mod_eq_of_lt (by omega)]
  rw [e] at c
  exact below_f g n o s a _ c w hm
/-- Slots of a frame, by a list. -/
def slotfn (l : List Value) (d : Nat) : Value := l.getD d undef
/-! Rows of six words. -/
abbrev rowc (f : Nat → Int) : List Value := [.int .u64 (f 0), .int .u64 (f 1), .int .u64 (f 2), .int .u64 (f 3), .int .u64 (f 4), .int .u64 (f 5)]
theorem row_at {f : Nat → Int} {j : Nat} (hj : j < 6) : (rowc f)[0 + j]? = some (.int .u64 (f j)) := by
 match j, hj with
 | 0, _ => rfl
 | 1, _ => rfl
 | 2, _ => rfl
 | 3, _ => rfl
 | 4, _ => rfl
 | 5, _ => rfl
theorem modn_at {n o s j : Nat} (hj : j < 6) : (zN n o s)[0 + j]? = some (.int .u64 (wd n j)) := by
 match j, hj with
 | 0, _ => rfl
 | 1, _ => rfl
 | 2, _ => rfl
 | 3, _ => rfl
 | 4, _ => rfl
 | 5, _ => rfl
theorem patch_row {f : Nat → Int} {j : Nat} {v : Int} (hj : j < 6) : patch (rowc f) (0 + j) [.int .u64 v] = rowc (upd f j v) := by
 match j, hj with
 | 0, _ => rfl
 | 1, _ => rfl
 | 2, _ => rfl
 | 3, _ => rfl
 | 4, _ => rfl
 | 5, _ => rfl
theorem row_bd {f : Nat → Int} {j : Nat} (hj : j < 6) : 0 + j < (rowc f).length := by
 show 0 + j < 6
 omega
theorem row_congr {f g : Nat → Int} (h : ∀ j, j < 6 → f j = g j) : rowc f = rowc g := by
 unfold rowc
 rw [h 0 (by decide), h 1 (by decide), h 2 (by decide), h 3 (by decide), h 4 (by decide), h 5 (by decide)]
theorem zX {ρ : Operand → Value} {o : Oper} {x y : Operand} {g off j : Nat} {w : World} (ho : o.op = .indexAddr 24 x y) (hx : ρ x = PT g off) (hy : ρ y = .int .i64 ((j : Nat) : Int)) (hj : j < 6) :
  (execOp ρ o).run Tryz.prog w = .ok (.value (PT g (off + j))) w := by
 have h1 : (j : Int) < 6 := by omega
 simp only [execOp, ho, hx, hy]
 clear ho hx hy
 go_simp
theorem ex_index6 {ρ : Operand → Value} {o : Oper} {x y : Operand} {a j : Nat} {w : World} (ho : o.op = .index 24 x y) (hx : ρ x = N a) (hy : ρ y = .int .i64 ((j : Nat) : Int)) (hj : j < 6) :
  (execOp ρ o).run Tryz.prog w = .ok (.value (.int .u64 (wd a j))) w := by
 simp only [execOp, ho, hx, hy]
 clear ho hx hy
 rcases (by omega : j = 0 ∨ j = 1 ∨ j = 2 ∨ j = 3 ∨ j = 4 ∨ j = 5) with rfl | rfl | rfl | rfl | rfl | rfl <;> kernel_rfl
theorem cells_zero : zB 0 = zero6 := by simp [zB, zero6, wd_zero]
theorem cells_start (n wr a b : Nat) : zero6 = zB (mrun n wr a b 0) := by show zero6 = zB 0; exact cells_zero.symm
theorem Mm.at0 {w : World} {g : Nat} {cs cs' : List Value} {l : List (Nat × List Value)} (h : Mm w ((g, cs) :: l)) (e : cs = cs') : Mm w ((g, cs') :: l) := e ▸ h
/-! One round's row. -/
def inn (S Y j m : Nat) : Int := if m + 1 < j then wd Y (m + 1) else wd S m
theorem inn_at {S Y m : Nat} (hj : m + 1 < 6) : (rowc (inn S Y (m + 1)))[0 + (m + 1)]? = some (.int .u64 (wd S (m + 1))) := by
 rw [row_at hj]
 unfold inn
 rw [if_neg (by omega)]
theorem inn_step {S Y m : Nat} {v : Int} (h : v = wd Y (m + 1)) : rowc (upd (inn S Y (m + 1)) m v) = rowc (inn S Y (m + 1 + 1)) := row_congr fun j _ => by
 unfold upd inn
 by_cases h1 : j = m
 ·subst h1; rw [if_pos rfl, if_pos (by omega), h]
 ·rw [if_neg h1]
  by_cases h2 : j + 1 < m + 1
  ·rw [if_pos h2, if_pos (by omega)]
  ·rw [if_neg h2, if_neg (by omega)]
theorem patch_row5 {f : Nat → Int} {v : Int} : patch (rowc f) 5 [.int .u64 v] = rowc (upd f 5 v) := rfl
theorem inn_end {S Y Z : Nat} {v : Int} (hv : v = wd Z 5) (h : ∀ k, k < 5 → wd Z k = wd Y (k + 1)) : rowc (upd (inn S Y 6) 5 v) = zB Z := by
 show _ = rowc (wd Z)
 refine row_congr fun j hj => ?_
 unfold upd inn
 by_cases h1 : j = 5
 ·subst h1; rw [if_pos rfl, hv]
 ·rw [if_neg h1, if_pos (by omega), h j (by omega)]
theorem first_lo (x y : Nat) (m : Int) : addLo (pLo x y) m 0 = mulLo x y m 0 := by
 unfold addLo pLo mulLo
 rw [← Int.natCast_mul]
 generalize x * y = p
 omega
theorem first_hi (x y : Nat) (m : Int) (hx : x < 18446744073709551616) (hy : y < 18446744073709551616) (hm : 0 ≤ m) (hm' : m < 18446744073709551616) :
  IntKind.u64.wrap (pHi x y + addHi (pLo x y) m 0) = mulHi x y m 0 := by
 have h := prod_le x y hx hy
 rw [IntKind.wrap_u64]
 unfold addHi pLo pHi mulHi
 rw [← Int.natCast_mul]
 generalize x * y = p at h ⊢
 omega
theorem call66 : CO 66 := by intro args w; go_simp
theorem call64 : CO 64 := by intro args w; go_simp
theorem call65 : CO 65 := by intro args w; go_simp
end Rg
end Go.Proofs.YtmanelnacifgcaaGreatDoor
end
