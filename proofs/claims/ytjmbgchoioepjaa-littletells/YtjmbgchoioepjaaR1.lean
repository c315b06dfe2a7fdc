/- Memory by the list: blocks and their cells; the operations of a region on them. -/
import Derived.Test.YtjmbgchoioepjaaR0
namespace Go.Proofs.Ytjmbgchoioepjaa
open Go.RowKit
namespace Rg

/-- The blocks of the list are there, apart from each other, and hold these cells. -/
structure Mm (w : World) (l : List (Nat × List Value)) : Prop where
  blk : ∀ p ∈ l, p.1 < w.heap.size ∧ Blk w p.1 p.2
  nd : l.Pairwise (fun a b => a.1 ≠ b.1)
theorem Mm.nil (w : World) : Mm w [] := ⟨fun p h => absurd h (by simp), List.Pairwise.nil⟩
theorem Mm.below {w w1 : World} {l : List (Nat × List Value)} (h : Mm w l) (hb : Below w.heap.size w w1) : Mm w1 l :=
  ⟨fun p hp => ⟨Nat.lt_of_lt_of_le (h.blk p hp).1 hb.size, (h.blk p hp).2.below hb (h.blk p hp).1⟩, h.nd⟩
theorem Mm.drew {w : World} {l : List (Nat × List Value)} (h : Mm w l) : Mm w.drew l := h.below (Below.refl _ _).drew
theorem Mm.cons {w : World} {l : List (Nat × List Value)} (h : Mm w l) {g : Nat} {cs : List Value} (hb : Blk w g cs) (hg : g < w.heap.size) (hn : ∀ p ∈ l, p.1 ≠ g) : Mm w ((g, cs) :: l) :=
  ⟨fun p hp => by
    rcases List.mem_cons.1 hp with e | hp
    · subst e; exact ⟨hg, hb⟩
    · exact h.blk p hp, List.Pairwise.cons (fun p hp => (hn p hp).symm) h.nd⟩
theorem Mm.alloc {w : World} {l : List (Nat × List Value)} (h : Mm w l) (cs : List Value) (t : TypeId) {g : Nat} (hg : g = w.heap.size) : Mm (w.alloc (.cells cs.toArray t)) ((g, cs) :: l) := by
  subst hg
  exact (h.below ((Below.refl _ _).alloc (Nat.le_refl _) _)).cons (Blk.new w cs t) (by simp) (fun p hp => by have := (h.blk p hp).1; omega)
theorem Mm.sub {w : World} {l l' : List (Nat × List Value)} (h : Mm w l) (hs : l'.Sublist l) : Mm w l' := ⟨fun p hp => h.blk p (hs.subset hp), h.nd.sublist hs⟩
theorem Mm.tail {w : World} {p : Nat × List Value} {l : List (Nat × List Value)} (h : Mm w (p :: l)) : Mm w l := h.sub (List.sublist_cons_self _ _)
theorem Mm.cell {w : World} {l : List (Nat × List Value)} (h : Mm w l) {g : Nat} {cs : List Value} (hm : (g, cs) ∈ l) {k : Nat} {v : Value} (hk : cs[k]? = some v) : w.cell? ⟨g, k, none⟩ = some v := ((h.blk _ hm).2 k v hk).1
theorem Mm.free {w : World} {l : List (Nat × List Value)} (h : Mm w l) {g : Nat} {cs : List Value} (hm : (g, cs) ∈ l) {k : Nat} {v : Value} (hk : cs[k]? = some v) : w.frozen? ⟨g, k, none⟩ = false := ((h.blk _ hm).2 k v hk).2
theorem Mm.lt {w : World} {l : List (Nat × List Value)} (h : Mm w l) {g : Nat} {cs : List Value} (hm : (g, cs) ∈ l) : g < w.heap.size := (h.blk _ hm).1

/-! What a region leaves. -/
def laidOn (i : Nat) : List Kind → Option (List Value)
  | [] => none
  | (Sum.inr (Sum.inr (Sum.inr (Sum.inr (Sum.inl (j, _, cs)))))) :: r => if j = i then some cs else laidOn i r
  | _ :: r => laidOn i r
def fin (ks : List Kind) (i : Nat) : List Value := match laidOn i ks with | some cs => cs | none => (fresh ks i).getD []
theorem laidOn_some {i : Nat} {cs : List Value} : ∀ {ks : List Kind}, laidOn i ks = some cs → ∃ (s : Nat) (zs : List Value), ks[s]? = some (.laid i zs cs)
  | [], h => by cases h
  | k :: r, h => by
    cases k using Kind.each with
    | laid j zs cs' =>
      unfold laidOn at h
      split at h
      · rename_i e
        injection h with h
        subst h e
        exact ⟨0, zs, rfl⟩
      · obtain ⟨s, z, hs⟩ := laidOn_some h
        exact ⟨s + 1, z, hs⟩
    | _ =>
      obtain ⟨s, z, hs⟩ := laidOn_some (ks := r) h
      exact ⟨s + 1, z, hs⟩
theorem laidOn_none {i : Nat} : ∀ {ks : List Kind}, laidOn i ks = none → ∀ (s : Nat) (zs cs : List Value), ks[s]? ≠ some (.laid i zs cs)
  | [], _ => fun _ _ _ h => by simp at h
  | k :: r, h => by
    intro s zs cs hs
    have hr : laidOn i r = none := by
      cases k using Kind.each with
      | laid j z c => unfold laidOn at h; split at h <;> first | cases h | exact h
      | _ => exact h
    cases s with
    | zero =>
      simp at hs
      subst hs
      unfold laidOn at h
      rw [if_pos rfl] at h
      cases h
    | succ s => exact laidOn_none hr s zs cs (by simpa using hs)
theorem Mem.fin {ks : List Kind} {w₀ w : World} {l : Array Bool} {γ : Nat → Nat} (h : Mem ks w₀ l γ w) {p : Nat} (hp : ks.length ≤ p) (hl : ∀ i, i < p → l.getD i false = true) {i : Nat} (hi : (fresh ks i).isSome = true) :
    Blk w (γ i) (fin ks i) ∧ w₀.heap.size ≤ γ i ∧ γ i < w.heap.size := by
  obtain ⟨zs, hz⟩ := Option.isSome_iff_exists.1 hi
  have hlt : ∀ (s : Nat) (k : Kind), ks[s]? = some k → l.getD s false = true := fun s k hs => hl s (by have := (List.getElem?_eq_some_iff.1 hs).1; omega)
  have hil : l.getD i false = true := by
    unfold fresh at hz
    cases hk : ks[i]? with
    | none => rw [hk] at hz; cases hz
    | some k => exact hlt i k hk
  refine ⟨?_, h.made i zs hz hil⟩
  unfold Rg.fin
  cases hL : laidOn i ks with
  | some cs =>
    obtain ⟨s, z, hs⟩ := laidOn_some hL
    exact (h.full s i z cs hs (hlt s _ hs)).1
  | none =>
    rw [hz]
    exact h.raw i zs hz hil (fun s z c hs => absurd hs (laidOn_none hL s z c))
/-- The blocks that a region made, beside those that were there. -/
theorem Mm.grow {ks : List Kind} {w₀ w : World} {l : Array Bool} {γ : Nat → Nat} {L : List (Nat × List Value)} (hm : Mm w₀ L) (h : Mem ks w₀ l γ w) {p : Nat} (hp : ks.length ≤ p) (hl : ∀ i, i < p → l.getD i false = true) :
    ∀ (is : List Nat), (is.all fun i => (fresh ks i).isSome) = true → is.Pairwise (· ≠ ·) → Mm w (is.map (fun i => (γ i, fin ks i)) ++ L)
  | [], _, _ => hm.below h.below
  | i :: is, ha, hn => by
    simp only [List.all_cons, Bool.and_eq_true] at ha
    have ih := Mm.grow hm h hp hl is ha.2 (List.Pairwise.of_cons hn)
    obtain ⟨h1, h2, h3⟩ := h.fin hp hl ha.1
    refine ih.cons h1 h3 (fun q hq => ?_)
    rcases List.mem_append.1 hq with hq | hq
    · obtain ⟨j, hj, e⟩ := List.mem_map.1 hq
      subst e
      have hjs := List.all_eq_true.1 ha.2 j hj
      obtain ⟨zi, hzi⟩ := Option.isSome_iff_exists.1 ha.1
      obtain ⟨zj, hzj⟩ := Option.isSome_iff_exists.1 hjs
      have hlist : ∀ {x : Nat} {z : List Value}, fresh ks x = some z → l.getD x false = true := fun {x z} hx => by
        unfold fresh at hx
        cases hk : ks[x]? with
        | none => rw [hk] at hx; cases hx
        | some k => exact hl x (by have := (List.getElem?_eq_some_iff.1 hk).1; omega)
      exact h.apart j i zj zi hzj hzi (hlist hzj) (hlist hzi) (fun e => (List.rel_of_pairwise_cons hn hj) e.symm)
    · have := (hm.blk q hq).1
      omega
/-- A store into a block of the list. -/
def patch (cs : List Value) (off : Nat) (vs : List Value) : List Value := cs.take off ++ vs ++ cs.drop (off + vs.length)
theorem patch_get (cs : List Value) (off : Nat) (vs : List Value) (h : off + vs.length ≤ cs.length) (k : Nat) : (patch cs off vs)[k]? = if off ≤ k ∧ k < off + vs.length then vs[k - off]? else cs[k]? := by
  unfold patch
  by_cases h1 : k < off
  · rw [if_neg (by omega), List.append_assoc, List.getElem?_append_left (by simp; omega), List.getElem?_take, if_pos h1]
  · by_cases h2 : k < off + vs.length
    · rw [if_pos ⟨by omega, h2⟩, List.append_assoc, List.getElem?_append_right (by simp; omega), List.getElem?_append_left (by simp; omega)]
      congr 1
      simp; omega
    · rw [if_neg (by omega), List.getElem?_append_right (by simp; omega), List.getElem?_drop]
      congr 1
      simp; omega
theorem Blk.patch {w : World} {g : Nat} {cs : List Value} (h : Blk w g cs) (off : Nat) (vs : List Value) (hl : off + vs.length ≤ cs.length) : Blk (w.setCells g off vs) g (patch cs off vs) := fun j v hv => by
  rw [patch_get _ _ _ hl] at hv
  split at hv
  · rename_i hj
    have hz : cs[j]? = some (cs[j]'(by omega)) := List.getElem?_eq_getElem _
    refine ⟨?_, by rw [World.frozen?_setCells]; exact (h j _ hz).2⟩
    have := World.cell?_setCells_in g vs off w (fun i hi => by
      have := (h (off + i) _ (List.getElem?_eq_getElem (show off + i < cs.length by omega))).1
      rw [this]; rfl) (j - off) (by omega)
    rw [show off + (j - off) = j by omega] at this
    rw [this]
    obtain ⟨h1, h2⟩ := List.getElem?_eq_some_iff.1 hv
    rw [← h2]
  · rename_i hj
    exact ⟨by rw [World.cell?_setCells_out g vs off w _ (fun _ => by simp; omega)]; exact (h j v hv).1, by rw [World.frozen?_setCells]; exact (h j v hv).2⟩
theorem Blk.apart {w : World} {g g' off : Nat} {cs vs : List Value} (h : Blk w g cs) (hg : g ≠ g') : Blk (w.setCells g' off vs) g cs := fun j v hv =>
  ⟨by rw [World.cell?_setCells_out g' vs off w _ (fun e => absurd e hg)]; exact (h j v hv).1, by rw [World.frozen?_setCells]; exact (h j v hv).2⟩
theorem Mm.put {w : World} {l : List (Nat × List Value)} (h : Mm w l) (k : Nat) {g off : Nat} {cs vs : List Value} (hk : l[k]? = some (g, cs)) (hl : off + vs.length ≤ cs.length) : Mm (w.setCells g off vs) (l.set k (g, patch cs off vs)) := by
  have hkl : k < l.length := (List.getElem?_eq_some_iff.1 hk).1
  have hke : l[k] = (g, cs) := (List.getElem?_eq_some_iff.1 hk).2
  have hpw := List.pairwise_iff_getElem.1 h.nd
  refine ⟨fun p hp => ?_, ?_⟩
  · rw [size_setCells]
    obtain ⟨j, hj, e⟩ := List.getElem_of_mem hp
    rw [List.getElem_set] at e
    have hj' : j < l.length := by simpa using hj
    split at e
    · subst e
      have := h.blk _ (List.mem_of_getElem? hk)
      exact ⟨this.1, Blk.patch this.2 off vs hl⟩
    · rename_i hne
      subst e
      have := h.blk _ (List.getElem_mem hj')
      refine ⟨this.1, Blk.apart this.2 ?_⟩
      rcases Nat.lt_or_ge j k with h' | h'
      · have := hpw j k hj' hkl h'
        rw [hke] at this
        exact this
      · have := hpw k j hkl hj' (by omega)
        rw [hke] at this
        exact this.symm
  · refine List.pairwise_iff_getElem.2 fun i j hi hj hij => ?_
    have hi' : i < l.length := by simpa using hi
    have hj' : j < l.length := by simpa using hj
    have := hpw i j hi' hj' hij
    rw [List.getElem_set, List.getElem_set]
    split
    · rename_i e1
      subst e1
      rw [if_neg (by omega)]
      rw [hke] at this
      exact this
    · split
      · rename_i e2
        subst e2
        rw [hke] at this
        exact this
      · exact this
end Rg
end Go.Proofs.Ytjmbgchoioepjaa
