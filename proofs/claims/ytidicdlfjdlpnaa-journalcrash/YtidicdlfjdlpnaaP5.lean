/- Texts of the proof, joined. -/
import Derived.Test.YtidicdlfjdlpnaaP4
import Derived.Shelf.LaysM
import Derived.Shelf.Strconv.Clone
import Derived.Ground.NamesProg
import Derived.Test.YtidicdlfjdlpnaaProg
section
namespace Go.Proofs.Ytidicdlfjdlpnaa
open Go.RowKit
namespace Rg
namespace Wi
set_option maxRecDepth 100000
def opF (l : List Uop) (i : Nat) : Uop := l.getD i Uop.no
theorem opF_at {l : List Uop} {i : Nat} (h : i < l.length) : l[i]? = some (opF l i) := by
  unfold opF
  rw [List.getD_eq_getElem?_getD, List.getElem?_eq_getElem h]
  rfl
theorem opF_mem {l : List Uop} {i : Nat} (h : i < l.length) : opF l i ∈ l := List.mem_of_getElem? (opF_at h)
theorem opF_app {l : List Uop} (o : Uop) {i : Nat} (h : i < l.length) : opF (l ++ [o]) i = opF l i := by
  unfold opF
  rw [List.getD_eq_getElem?_getD, List.getD_eq_getElem?_getD, List.getElem?_append_left h]
theorem opF_last (l : List Uop) (o : Uop) : opF (l ++ [o]) l.length = o := by
  unfold opF
  rw [List.getD_eq_getElem?_getD, List.getElem?_append_right (Nat.le_refl _), Nat.sub_self]
  rfl
theorem rN_cg (n : Nat) {F G : Nat → Uop} : ∀ {i : Nat}, (∀ j, j < i → F j = G j) → rN n F i = rN n G i
  | 0, _ => rfl
  | i + 1, h => by
    show (F i).st + (F i).q.n = (G i).st + (G i).q.n
    rw [h i (Nat.lt_succ_self _)]
/-- A file. -/
structure Fq where
  nm : ByteArray
  g : Nat
  s : Value
  u : Value
  n : Nat
  P : Nat → Nat
  ops : List Uop
  fr : Bool
/-- How many operations are under way; how many bytes the content has, and which. -/
def Fq.m (f : Fq) : Nat := f.ops.length
def Fq.N (f : Fq) : Nat := rN f.n (opF f.ops) f.ops.length
def Fq.C (f : Fq) : Nat → Nat := rP f.P (opF f.ops) f.ops.length
def Fq.bl (f : Fq) : List Nat := f.g :: fbl f.s f.u f.ops
structure FOk (w : World) (f : Fq) : Prop where
  cel : Mm w [(f.g, [f.s, f.u, Value.bool f.fr])]
  fi : Fi f.s f.u f.n f.P f.ops w
  ap : Apt f.g f.s f.u f.ops
  vl : ∀ i, i < f.ops.length → (opF f.ops i).st ≤ rN f.n (opF f.ops) i ∧ (opF f.ops i).st + (opF f.ops i).q.n ≤ 1048576 ∧ ((opF f.ops i).st = rN f.n (opF f.ops) i ∨ (opF f.ops i).q.n = 0)
  n1 : f.n ≤ 1048576
  m1 : f.ops.length ≤ 1000000
section
variable {w w' : World} {f : Fq}
theorem FOk.glt (h : FOk w f) : f.g < w.heap.size := (h.cel.blk _ (List.mem_cons_self ..)).1
theorem FOk.lt (h : FOk w f) : ∀ x ∈ f.bl, x < w.heap.size := fun x hx => by
  rcases List.mem_cons.1 hx with e | e
  · subst e; exact h.glt
  · exact h.fi.lt x e
theorem FOk.chg {L : List Nat} (h : FOk w f) (hc : Chg L w w') (hn : ∀ x ∈ f.bl, x ∉ L) : FOk w' f :=
  ⟨hc.mm h.cel (fun p hp => by obtain rfl := List.mem_singleton.1 hp; exact hn _ (List.mem_cons_self ..)), h.fi.chg hc (fun x hx => hn x (List.mem_cons_of_mem _ hx)), h.ap, h.vl, h.n1, h.m1⟩
theorem FOk.below (h : FOk w f) (hb : Below w.heap.size w w') : FOk w' f := h.chg (L := []) (Chg.of hb) (fun _ _ hx => by cases hx)
theorem FOk.N1 (h : FOk w f) : f.N ≤ 1048576 := by
  unfold Fq.N
  cases hm : f.ops.length with
  | zero => exact h.n1
  | succ k => exact (h.vl k (by omega)).2.1
/-- The operations under way, where there are some. -/
theorem FOk.und (h : FOk w f) (hm : 0 < f.ops.length) : ∃ gu cu, f.u = .slice (some ⟨gu, 0, none⟩) f.ops.length cu ∧ f.ops.length ≤ cu ∧ gu < w.heap.size ∧ gu ∉ f.g :: vbl f.s ∧ ∀ i, i < f.ops.length → w.cell? ⟨gu, 2 * i, none⟩ = some (.int .i64 ((opF f.ops i).st : Int)) ∧ w.cell? ⟨gu, 2 * i + 1, none⟩ = some (.slice (opF f.ops i).q.p (opF f.ops i).q.n (opF f.ops i).q.cp) := by
  rcases h.fi.und.2 with ⟨_, h2⟩ | ⟨gu, cu, cur, h1, h2, h3, h4, h5⟩
  · omega
  · have hmem : gu ∈ vbl f.u := by rw [h1]; unfold vbl; simp [Value.ownBlock]
    refine ⟨gu, cu, h1, h4, own_lt h.fi.und gu hmem, fun hx => ?_, fun i hi => ?_⟩
    · rcases List.mem_cons.1 hx with e | e
      · subst e; exact h.ap.gu hmem
      · exact h.ap.su gu e hmem
    · obtain ⟨g2, c2, e2, h6, h7⟩ := h.fi.opAt (opF_at hi)
      rw [h1] at e2
      injection e2 with e3
      injection e3 with e4
      injection e4 with e5
      subst e5
      exact ⟨h6, h7⟩
theorem FOk.bare (h : FOk w f) (hm : f.ops.length = 0) : ∃ pu cu, f.u = .slice pu 0 cu := by
  obtain ⟨p, c, e, _⟩ := own_slice h.fi.und
  exact ⟨p, c, by rw [e, hm]⟩
end
theorem size_f (f : Fq) (w : World) (h : FOk w f) : Calls Try.prog 68 #[PT f.g 0] w fun e w' => e = .returned (.int .i64 ((f.N : Nat) : Int)) ∧ Below w.heap.size w w' := by
  obtain ⟨ps, cs, es, _⟩ := own_slice h.fi.row
  have hc := h.cel
  unfold Fq.N
  by_cases hm : f.ops.length = 0
  · obtain ⟨pu, cu, eu⟩ := h.bare hm
    rw [eu, es] at hc
    rw [hm]
    exact size_nil f.g ps pu f.n cs cu f.fr w hc
  · obtain ⟨gu, cu, eu, h1, h2, h3, h4⟩ := h.und (by omega)
    rw [eu] at hc
    obtain ⟨k, hk⟩ : ∃ k, f.ops.length = k + 1 := ⟨f.ops.length - 1, by omega⟩
    have := size_F f.g gu f.s f.ops.length cu f.fr (opF f.ops k) (by omega) h.m1 (Nat.le_trans (h.vl k (by omega)).2.1 (by omega)) w hc h2 (by
      rw [show f.ops.length - 1 = k by omega]
      exact h4 k (by omega))
    rw [hk]
    exact this
theorem content_f (f : Fq) (w : World) (h : FOk w f) : Calls Try.prog 65 #[PT f.g 0] w fun e w' => ∃ v, e = .returned v ∧ Cw w v f.N f.C w' := by
  obtain ⟨q, eq, hq1, hq2, hq3, hq4, hq5, _⟩ := own_part h.fi.row
  have hc := h.cel
  have hn := h.n1
  unfold Fq.N Fq.C
  rw [eq] at hc
  by_cases hm : f.ops.length = 0
  · obtain ⟨pu, cu, eu⟩ := h.bare hm
    rw [eu] at hc
    rw [hm]
    show Calls _ _ _ _ fun e w' => ∃ v, e = .returned v ∧ Cw w v f.n f.P w'
    rw [← hq3, ← hq4]
    exact content_none f.g q cu f.fr (by omega) pu w hc h.glt ⟨hq1, hq2, hq5⟩
  · obtain ⟨gu, cu, eu, h1, h2, h3, h4⟩ := h.und (by omega)
    rw [eu] at hc
    rw [← hq3, ← hq4]
    exact content_some f.g q cu f.fr (by omega) gu f.ops.length (opF f.ops) (by omega) h.m1 w hc h.glt ⟨hq1, hq2, hq5⟩ h2 h4 (fun i hi => by
      rw [hq3]
      exact ⟨(h.vl i hi).1, Nat.le_trans (h.vl i hi).2.1 (by omega)⟩) (fun i hi => h.fi.opk _ (opF_mem hi))
/-- What a crash that keeps a operations and bt bytes of the next one leaves. -/
def Fq.dn (f : Fq) (a : Int) : Nat := min a.toNat f.ops.length
def Fq.tn (f : Fq) (a bt : Int) : Nat := if f.dn a < f.ops.length then min bt.toNat (opF f.ops (f.dn a)).q.n else 0
def Fq.sN (f : Fq) (a bt : Int) : Nat := rN f.n (opF f.ops) (f.dn a) + f.tn a bt
def Fq.sP (f : Fq) (a : Int) : Nat → Nat := ct (rP f.P (opF f.ops) (f.dn a)) (rN f.n (opF f.ops) (f.dn a)) (opF f.ops (f.dn a)).q.f
def Fq.there (f : Fq) (a bt : Int) : Bool := !f.fr || decide (0 < f.dn a + f.tn a bt)
theorem Sg.cg {w w' : World} {g n n2 : Nat} {S s : Value} {P P2 : Nat → Nat} (h : Sg w g S s n P w') (hn : n = n2) (e : ∀ j, j < n → P j = P2 j) : Sg w g S s n2 P2 w' := by
  subst hn
  exact ⟨h.ch, own_cg h.row e, h.bl⟩
theorem ct_low (P : Nat → Nat) (n : Nat) (Q : Nat → Nat) (j : Nat) (h : j < n) : P j = ct P n Q j := by
  unfold ct
  rw [if_pos h]
theorem Fq.rN_le {w : World} {f : Fq} (h : FOk w f) (i : Nat) (hi : i ≤ f.ops.length) : rN f.n (opF f.ops) i ≤ 1048576 := by
  cases i with
  | zero => exact h.n1
  | succ k => exact (h.vl k (by omega)).2.1
theorem settle_f (f : Fq) (a bt : Int) (w : World) (h : FOk w f) : Calls Try.prog 73 #[PT f.g 0, .int .i64 a, .int .i64 bt] w fun e w' => e = .returned (.bool (f.there a bt)) ∧ ∃ s', Mm w' [(f.g, [s', Value.slice none 0 0, Value.bool false])] ∧ Sg w f.g f.s s' (f.sN a bt) (f.sP a) w' := by
  have hc := h.cel
  by_cases hm : f.ops.length = 0
  · obtain ⟨pu, cu, eu⟩ := h.bare hm
    have hd : f.dn a = 0 := by unfold Fq.dn; rw [hm, Nat.min_zero]
    have ht : f.tn a bt = 0 := by unfold Fq.tn; rw [hd, if_neg (by omega)]
    have fin : ∀ (s' : Value) (w' : World), Sg w f.g f.s s' f.n f.P w' → Sg w f.g f.s s' (f.sN a bt) (f.sP a) w' := fun s' w' hs => hs.cg (by unfold Fq.sN; rw [hd, ht]; rfl) (fun j hj => by unfold Fq.sP; rw [hd]; exact ct_low _ _ _ j hj)
    rw [eu] at hc
    cases hf : f.fr with
    | false =>
      rw [hf] at hc
      refine (settle_none_old f.g f.s f.n f.P a bt cu pu w hc h.glt h.ap.gs h.fi.row).mono fun e w' hh => ?_
      obtain ⟨h1, s', h2, h3⟩ := hh
      exact ⟨by rw [h1]; unfold Fq.there; rw [hf]; rfl, s', h2, fin s' w' h3⟩
    | true =>
      rw [hf] at hc
      refine (settle_none_new f.g f.s f.n f.P a bt cu pu w hc h.glt h.ap.gs h.fi.row).mono fun e w' hh => ?_
      obtain ⟨h1, s', h2, h3⟩ := hh
      exact ⟨by rw [h1]; unfold Fq.there; rw [hf, hd, ht, Nat.min_zero]; rfl, s', h2, fin s' w' h3⟩
  · obtain ⟨gu, cu, eu, k1, k2, k3, k4⟩ := h.und (by omega)
    rw [eu] at hc
    have hv : ∀ i, i < f.ops.length → (opF f.ops i).st ≤ rN f.n (opF f.ops) i ∧ (opF f.ops i).st + (opF f.ops i).q.n ≤ 2097152 := fun i hi => ⟨(h.vl i hi).1, Nat.le_trans (h.vl i hi).2.1 (by omega)⟩
    have hok : ∀ i, i < f.ops.length → ∀ s' n' P' w', Sg w f.g f.s s' n' P' w' → (opF f.ops i).ok w' := fun i hi s' n' P' w' hs => (h.fi.opk _ (opF_mem hi)).keep hs.ch.size (fun x hx => hs.ch.block x (h.lt x (by
      unfold Fq.bl fbl
      simp only [List.mem_cons, List.mem_append, List.mem_flatMap]
      exact .inr (.inr (.inr ⟨_, opF_mem hi, hx⟩)))) (fun hm => by
      rcases List.mem_cons.1 hm with e | e
      · subst e; exact h.ap.go _ (opF_mem hi) hx
      · exact h.ap.so x e _ (opF_mem hi) hx))
    by_cases hd : min a.toNat f.ops.length = f.ops.length
    · have ht : f.tn a bt = 0 := by unfold Fq.tn Fq.dn; rw [hd, if_neg (Nat.lt_irrefl _)]
      have fin : ∀ (s' : Value) (w' : World), Sg w f.g f.s s' (rN f.n (opF f.ops) (min a.toNat f.ops.length)) (rP f.P (opF f.ops) (min a.toNat f.ops.length)) w' → Sg w f.g f.s s' (f.sN a bt) (f.sP a) w' := fun s' w' hs => hs.cg (by unfold Fq.sN; rw [ht]; rfl) (fun j hj => by unfold Fq.sP; exact ct_low _ _ _ j hj)
      cases hf : f.fr with
      | false =>
        rw [hf] at hc
        refine (settle_all_old f.g f.s f.n f.P a bt cu gu f.ops.length (opF f.ops) h.m1 k1 hd w hc h.glt h.ap.gs h.fi.row k2 k3 k4 hv hok).mono fun e w' hh => ?_
        obtain ⟨h1, s', h2, h3⟩ := hh
        exact ⟨by rw [h1]; unfold Fq.there; rw [hf]; rfl, s', h2, fin s' w' h3⟩
      | true =>
        rw [hf] at hc
        refine (settle_all_new f.g f.s f.n f.P a bt cu gu f.ops.length (opF f.ops) h.m1 k1 hd w hc h.glt h.ap.gs h.fi.row k2 k3 k4 hv hok).mono fun e w' hh => ?_
        obtain ⟨h1, s', h2, h3⟩ := hh
        exact ⟨by rw [h1]; unfold Fq.there; rw [hf, ht]; rfl, s', h2, fin s' w' h3⟩
    · have hlt : min a.toNat f.ops.length < f.ops.length := by omega
      have ht : f.tn a bt = min bt.toNat (opF f.ops (min a.toNat f.ops.length)).q.n := by unfold Fq.tn Fq.dn; rw [if_pos hlt]
      have hbt : rN f.n (opF f.ops) (min a.toNat f.ops.length) + min bt.toNat (opF f.ops (min a.toNat f.ops.length)).q.n ≤ 2097152 := by
        have e1 := Fq.rN_le h (min a.toNat f.ops.length) (by omega)
        have e2 := (h.vl _ hlt).2.1
        omega
      have htc : min bt.toNat (opF f.ops (min a.toNat f.ops.length)).q.n ≤ (opF f.ops (min a.toNat f.ops.length)).q.cp := Nat.le_trans (Nat.min_le_right _ _) (h.fi.opk _ (opF_mem hlt)).1.2
      have fin : ∀ (s' : Value) (w' : World), Sg w f.g f.s s' (rN f.n (opF f.ops) (min a.toNat f.ops.length) + min bt.toNat (opF f.ops (min a.toNat f.ops.length)).q.n) (ct (rP f.P (opF f.ops) (min a.toNat f.ops.length)) (rN f.n (opF f.ops) (min a.toNat f.ops.length)) (opF f.ops (min a.toNat f.ops.length)).q.f) w' → Sg w f.g f.s s' (f.sN a bt) (f.sP a) w' := fun s' w' hs => hs.cg (by unfold Fq.sN; rw [ht]; rfl) (fun j _ => rfl)
      cases hf : f.fr with
      | false =>
        rw [hf] at hc
        refine (settle_part_old f.g f.s f.n f.P a bt cu gu f.ops.length (opF f.ops) h.m1 k1 hlt w hc h.glt h.ap.gs h.fi.row k2 k3 k4 hv hok hbt htc).mono fun e w' hh => ?_
        obtain ⟨h1, s', h2, h3⟩ := hh
        exact ⟨by rw [h1]; unfold Fq.there; rw [hf]; rfl, s', h2, fin s' w' h3⟩
      | true =>
        rw [hf] at hc
        refine (settle_part_new f.g f.s f.n f.P a bt cu gu f.ops.length (opF f.ops) h.m1 k1 hlt w hc h.glt h.ap.gs h.fi.row k2 k3 k4 hv hok hbt htc).mono fun e w' hh => ?_
        obtain ⟨h1, s', h2, h3⟩ := hh
        exact ⟨by rw [h1]; unfold Fq.there; rw [hf, ht]; rfl, s', h2, fin s' w' h3⟩
/-- The file then. -/
def Fq.set (f : Fq) (s : Value) (a bt : Int) : Fq := ⟨f.nm, f.g, s, .slice none 0 0, f.sN a bt, f.sP a, [], false⟩
theorem FOk.settled {w w' : World} {f : Fq} (h : FOk w f) {s' : Value} {a bt : Int} (hm : Mm w' [(f.g, [s', Value.slice none 0 0, Value.bool false])]) (hs : Sg w f.g f.s s' (f.sN a bt) (f.sP a) w') : FOk w' (f.set s' a bt) ∧ Chg f.bl w w' ∧ ∀ x ∈ (f.set s' a bt).bl, x ∈ f.bl ∨ w.heap.size ≤ x := by
  have hbs : ∀ x ∈ vbl f.s, x ∈ f.bl := fun x hx => by unfold Fq.bl fbl; simp [hx]
  have hle : f.sN a bt ≤ 1048576 := by
    unfold Fq.sN Fq.tn
    have e1 := Fq.rN_le h (f.dn a) (Nat.min_le_right _ _)
    split
    · rename_i hlt
      obtain ⟨_, e4, e5⟩ := h.vl _ hlt
      have e3 := Nat.min_le_right bt.toNat (opF f.ops (f.dn a)).q.n
      rcases e5 with e5 | e5 <;> omega
    · omega
  have hgs : f.g ∉ vbl s' := hs.ng h.ap.gs h.glt
  refine ⟨⟨hm, ⟨hs.row, World.ownsRow_nil _ _ _ _, fun o ho => (by cases ho)⟩, ⟨hgs, fun hx => (by cases hx), fun o ho => (by cases ho), fun x _ hx => (by cases hx), fun x _ o ho => (by cases ho), fun x hx => (by cases hx)⟩, fun i hi => absurd hi (Nat.not_lt_zero _), hle, Nat.zero_le _⟩, hs.ch.mono (fun x hx => .inl ?_), fun x hx => ?_⟩
  · rcases List.mem_cons.1 hx with e | e
    · subst e; exact List.mem_cons_self ..
    · exact hbs x e
  · rcases List.mem_cons.1 hx with e | e
    · exact .inl (by rw [e]; exact List.mem_cons_self ..)
    · have e2 : x ∈ vbl s' := by
        unfold Fq.set fbl at e
        simpa [Value.ownBlock] using e
      exact (hs.bl x e2).imp_left (hbs x)
/-- The file with one operation more. -/
def Fq.more (f : Fq) (u : Value) (o : Uop) : Fq := ⟨f.nm, f.g, f.s, u, f.n, f.P, f.ops ++ [o], f.fr⟩
theorem begin_f (f : Fq) (o : Uop) (w : World) (h : FOk w f) (hm : f.ops.length < 1000000) (ho : o.ok w) (ha : ∀ x ∈ uob o, x ∉ f.bl) (h1 : o.st ≤ f.N) (h2 : o.st + o.q.n ≤ 1048576) (h3 : o.st = f.N ∨ o.q.n = 0) :
    Calls Try.prog 69 #[PT f.g 0, .agg ([.int .i64 ((o.st : Nat) : Int), .slice o.q.p o.q.n o.q.cp] : List Value).toArray] w fun e w' => e = .returned (.tuple #[]) ∧ ∃ u', FOk w' (f.more u' o) ∧ Chg f.bl w w' ∧ ∀ x ∈ vbl u', x ∈ f.bl ∨ w.heap.size ≤ x := by
  obtain ⟨ps, cs, es, _⟩ := own_slice h.fi.row
  obtain ⟨pu, cu, eu, _⟩ := own_slice h.fi.und
  have hc := h.cel
  have hfi := h.fi
  have hap := h.ap
  rw [es, eu] at hc hfi hap
  have hub : ∀ x ∈ vbl f.u, x ∈ f.bl := fun x hx => by unfold Fq.bl fbl; simp [hx]
  have hgu : ∀ x ∈ f.g :: vbl (Value.slice pu f.ops.length cu), x ∈ f.bl := fun x hx => by
    rw [← eu] at hx
    rcases List.mem_cons.1 hx with e | e
    · subst e; exact List.mem_cons_self ..
    · exact hub x e
  refine (begin_any f.g ps pu f.n cs cu f.fr f.P f.ops o (by omega) w hc hfi hap ho (fun x hx hx2 => ha x hx (hgu x hx2))).mono fun e w' hh => ?_
  obtain ⟨e1, u', e2, e3, e4, e5⟩ := hh
  rw [← es] at e2 e3
  have e6 : ∀ x ∈ vbl u', x ∈ vbl f.u ∨ w.heap.size ≤ x := by rw [eu]; exact e5
  have hcg : ∀ i, i ≤ f.ops.length → rN f.n (opF (f.ops ++ [o])) i = rN f.n (opF f.ops) i := fun i hi => rN_cg f.n (fun j hj => opF_app o (by omega))
  refine ⟨e1, u', ⟨e2, e3, ?_, fun i hi => ?_, h.n1, ?_⟩, e4.mono (fun x hx => .inl (hgu x hx)), fun x hx => (e6 x hx).imp_left (hub x)⟩
  · refine h.ap.begun (B := w.heap.size) h.lt e6 (fun x hx => ⟨?_, ha x hx⟩)
    unfold uob at hx
    split at hx
    · simp at hx
    · simp at hx
      subst hx
      exact ho.2.2.lt (by omega)
  · have hi2 : i < f.ops.length + 1 := by simpa [Fq.more] using hi
    show (opF (f.ops ++ [o]) i).st ≤ rN f.n (opF (f.ops ++ [o])) i ∧ (opF (f.ops ++ [o]) i).st + (opF (f.ops ++ [o]) i).q.n ≤ 1048576 ∧ ((opF (f.ops ++ [o]) i).st = rN f.n (opF (f.ops ++ [o])) i ∨ (opF (f.ops ++ [o]) i).q.n = 0)
    rcases Nat.lt_or_eq_of_le (Nat.le_of_lt_succ hi2) with hl | hl
    · rw [opF_app o hl, hcg i (by omega)]
      exact h.vl i hl
    · subst hl
      rw [opF_last, hcg _ (Nat.le_refl _)]
      exact ⟨h1, h2, h3⟩
  · show (f.ops ++ [o]).length ≤ 1000000
    rw [List.length_append]
    show f.ops.length + 1 ≤ 1000000
    omega
end Wi
end Rg
end Go.Proofs.Ytidicdlfjdlpnaa
end
section
namespace Go.Proofs.Ytidicdlfjdlpnaa
open Go.RowKit
namespace Rg
namespace Wi
theorem call64 : ∀ args w, (callFunc 64 args).run Try.prog w = .ok (.enter 64 args) w := by intro args w; go_simp
theorem call65 : ∀ args w, (callFunc 65 args).run Try.prog w = .ok (.enter 65 args) w := by intro args w; go_simp
set_option maxRecDepth 100000
/-- How a pointer to a file reads. -/
def RF : Value → Option (DataW Nat × List MemPlace)
  | .pointer (some ⟨g, 0, none⟩) => some (.held g, [])
  | .pointer none => some (.nil, [])
  | _ => none
theorem RF_held {v : Value} {g : Nat} {ps : List MemPlace} (h : RF v = some (.held g, ps)) : v = PT g 0 := by
  unfold RF at h
  split at h
  · simp at h
    rw [h.1]
  · simp at h
  · cases h
theorem RF_nil {v : Value} {ps : List MemPlace} (h : RF v = some (.nil, ps)) : v = .pointer none := by
  unfold RF at h
  split at h
  · simp at h
  · rfl
  · cases h
def RU : Value → Option (DataW Nat × List MemPlace)
  | .agg ⟨[]⟩ => some (.nil, [])
  | _ => none
theorem RU_inv {v : Value} {z : DataW Nat × List MemPlace} (h : RU v = some z) : v = .agg ([] : List Value).toArray := by
  unfold RU at h
  split at h
  · rfl
  · cases h
structure Dq where
  d : Nat
  mb : Nat
  rb : Nat
  k : Nat
  fs : List Fq
  rf : Nat → Bool
def lk (fs : List Fq) (s : ByteArray) : Option Fq := fs.find? (fun f => decide (f.nm = s))
def dv : Option Fq → DataW Nat
  | some f => .held f.g
  | none => .nil
def pv : Option Fq → Value
  | some f => PT f.g 0
  | none => .pointer none
/-- A text as a map's key. -/
abbrev ky (s : ByteArray) : Lit := .string s.data.toList
structure DOk (w : World) (D : Dq) : Prop where
  cel : Mm w [(D.d, [Value.map (some D.mb), Value.map (some D.rb), Value.int .i64 ((D.k : Nat) : Int)])]
  mp : ∃ X, w.ownsMap Try.prog 9 RF D.mb D.fs.length X ∧ (∀ s, X.atKey (ky s) .nil = dv (lk D.fs s)) ∧ (∀ s, Maps.has X (ky s) = (lk D.fs s).isSome) ∧ Maps.size X = D.fs.length
  rm : ∃ n Y, w.ownsMap Try.prog 3 RU D.rb n Y ∧ ∀ i : Nat, i < 4611686018427387905 → Maps.has Y (.int .i64 (i : Int)) = D.rf i
  fl : ∀ f ∈ D.fs, FOk w f
  ap : ∀ f ∈ D.fs, ∀ g ∈ D.fs, f.nm ≠ g.nm → ∀ x ∈ f.bl, x ∉ g.bl
  hd : ∀ f ∈ D.fs, ∀ x ∈ f.bl, x ≠ D.d ∧ x ≠ D.mb ∧ x ≠ D.rb
  h3 : D.d ≠ D.mb ∧ D.d ≠ D.rb ∧ D.mb ≠ D.rb
  un : (D.fs.map Fq.nm).Nodup
  k1 : D.k < 4611686018427387904
  n64 : D.fs.length ≤ 64
theorem ownMap_keep {w w' : World} {k : TypeId} {R : Value → Option (DataW Nat × List MemPlace)} {b n : Nat} {D : DataW Nat} (h : w.ownsMap Try.prog k R b n D) (hb : w'.heap[b]? = w.heap[b]?) : w'.ownsMap Try.prog k R b n D := by
  obtain ⟨es, clock, h1, h2, h3, h4⟩ := h
  exact ⟨es, clock, hb.trans h1, h2, h3, h4⟩
theorem lk_mem {fs : List Fq} {s : ByteArray} {f : Fq} (h : lk fs s = some f) : f ∈ fs ∧ f.nm = s := by
  unfold lk at h
  exact ⟨List.mem_of_find?_eq_some h, by have e := List.find?_some h; exact of_decide_eq_true e⟩
theorem DOk.look {w u : World} {D : Dq} (h : DOk w D) (s : ByteArray) (hs : s.size ≤ maxLen) (hu : u.heap[D.mb]? = w.heap[D.mb]?) : (Instr.lookup 39 (.map (some D.mb)) (.string s) false).run Try.prog u = .ok (pv (lk D.fs s)) u := by
  obtain ⟨X, h1, h2, _, _⟩ := h.mp
  obtain ⟨v, ps, hr, hv⟩ := (ownMap_keep h1 hu).lookup (Maps.string_keyed Try.underlying9) Try.underlying39 (z := .pointer none) (by kernel_rfl) (zd := .nil) (zp := []) rfl (WideMaps.keyOf_string_mk Try.underlying9 hs)
  rw [hr]
  have e := h2 s
  unfold ky at e
  rw [e] at hv
  cases hl : lk D.fs s with
  | none =>
    rw [hl] at hv
    rw [RF_nil hv]
    rfl
  | some f =>
    rw [hl] at hv
    rw [RF_held hv]
    rfl
theorem Cw.up {w u u' : World} {v : Value} {n : Nat} {P : Nat → Nat} (hb : Below w.heap.size w u) (h : Cw u v n P u') : Cw w v n P u' := ⟨hb.trans (h.b.mono hb.size), own_base h.own hb.size⟩
set_option maxHeartbeats 2000000 in
set_option maxRecDepth 100000 in
theorem Read_hit (d mb rb g N : Nat) (C : Nat → Nat) (k : Int) (s : ByteArray) (w : World) (hm : Mm w [(d, [Value.map (some mb), Value.map (some rb), Value.int .i64 k])]) (hlk0 : ∀ u, Below w.heap.size w u → (Instr.lookup 39 (.map (some mb)) (.string s) false).run Try.prog u = .ok (PT g 0) u) (hct0 : ∀ u, Below w.heap.size w u → Calls Try.prog 65 #[PT g 0] u fun e u' => ∃ v, e = .returned v ∧ Cw u v N C u') :
    Calls Try.prog 18 #[PT d 0, .string s] w fun e w' => ∃ v, e = .returned (.tuple #[v, .int .i64 0]) ∧ Cw w v N C w' := by
  have H0 : Hid (_ ∧ _) := ⟨hm, Below.refl w.heap.size w⟩
  clear hm
  have hlk : Hid _ := hlk0
  clear hlk0
  have hct : Hid _ := hct0
  clear hct0
  go_enter Try.func18, Try.ntmps18
  refine wp_seq ?_
  refine sq_startW (l := [0, 1]) rfl (fun u0 hu0 => ?_)
  have H1 : Hid (Mm u0 [(d, [Value.map (some mb), Value.map (some rb), Value.int .i64 k])] ∧ Below w.heap.size w u0) := by rw [hu0]; exact H0
  clear hu0 H0
  refine rest_set (d := 4) (v := .slice none 0 0) (w' := u0) rfl rfl rfl (rfl) ?_
  simp only [Act.put, sa, sz, ss]
  refine rest_set (d := 5) (v := .int .i64 0) (w' := u0) rfl rfl rfl (rfl) ?_
  simp only [Act.put, sa, sz, ss]
  refine rest_nil (then_normal (wp_seq ?_))
  refine sq_start (l := [0, 1, 2, 3, 4, 5, 6, 7]) rfl ?_
  refine rest_set (d := 9) (v := PT d 0) (w' := u0) rfl rfl rfl (rfl) ?_
  simp only [Act.put, sa, sz, ss]
  refine rest_set (d := 10) (v := .string s) (w' := u0) rfl rfl rfl (rfl) ?_
  simp only [Act.put, sa, sz, ss]
  refine rest_enter (d := 11) (R := fun vv w' => vv = .tuple #[PT g 0, .int .i64 0] ∧ Below u0.heap.size u0 w') rfl rfl rfl (exec_call (args := #[PT d 0, .string s]) rfl call64 rfl (mpn rfl)) (Calls.mono (find_hit d mb rb g k s u0 (H1.out.1.one 0 rfl) (fun u hu => hlk.out u (H1.out.2.trans (hu.mono H1.out.2.size)))) (fun e w2 hh => ⟨_, hh.1, rfl, hh.2⟩)) ?_
  rintro _ w2 ⟨rfl, hb⟩
  have H2 : Hid (Mm w2 [(d, [Value.map (some mb), Value.map (some rb), Value.int .i64 k])] ∧ Below w.heap.size w w2) := ⟨H1.out.1.below hb, H1.out.2.trans (hb.mono H1.out.2.size)⟩
  clear hb
  clear H1
  simp only [Act.put, sa, sz, ss]
  refine rest_set (d := 8) (v := .tuple #[PT g 0, .int .i64 0]) (w' := w2) rfl rfl rfl (rfl) ?_
  simp only [Act.put, sa, sz, ss]
  refine rest_set (d := 12) (v := PT g 0) (w' := w2) rfl rfl rfl (by go_simp) ?_
  simp only [Act.put, sa, sz, ss]
  refine rest_set (d := 13) (v := .int .i64 0) (w' := w2) rfl rfl rfl (by go_simp) ?_
  simp only [Act.put, sa, sz, ss]
  refine rest_set (d := 6) (v := PT g 0) (w' := w2) rfl rfl rfl (rfl) ?_
  simp only [Act.put, sa, sz, ss]
  refine rest_set (d := 7) (v := .int .i64 0) (w' := w2) rfl rfl rfl (rfl) ?_
  simp only [Act.put, sa, sz, ss]
  refine rest_nil (then_normal ?_)
  refine wp_seq (wp_seq ?_)
  refine sq_start (l := [0, 1]) rfl ?_
  refine rest_set (d := 14) (v := .int .i64 0) (w' := w2) rfl rfl rfl (rfl) ?_
  simp only [Act.put, sa, sz, ss]
  refine rest_set (d := 15) (v := .bool false) (w' := w2) rfl rfl rfl (by kernel_rfl) ?_
  simp only [Act.put, sa, sz, ss]
  refine rest_nil (then_normal ?_)
  refine wp_cond_false rfl (wp_skip ?_)
  refine then_normal (wp_seq ?_)
  refine sq_start (l := [0, 1, 2, 3]) rfl ?_
  refine rest_set (d := 17) (v := PT g 0) (w' := w2) rfl rfl rfl (rfl) ?_
  simp only [Act.put, sa, sz, ss]
  refine rest_enter (d := 18) (R := fun vv w' => Cw w2 vv N C w') rfl rfl rfl (exec_call (args := #[PT g 0]) rfl call65 rfl (mpn rfl)) (Calls.mono (hct.out w2 H2.out.2) (fun e w2 hh => by obtain ⟨v', he, hO⟩ := hh; exact ⟨_, he, hO⟩)) ?_
  rintro vr w3 hO
  have hcw : Hid _ := Cw.up H2.out.2 hO
  have H3 : Hid (Mm w3 [] ∧ Below w.heap.size w w3) := ⟨Mm.nil _, hcw.out.b⟩
  clear hO H2
  simp only [Act.put, sa, sz, ss]
  refine rest_set (d := 4) (v := vr) (w' := w3) rfl rfl rfl (rfl) ?_
  simp only [Act.put, sa, sz, ss]
  refine rest_set (d := 5) (v := .int .i64 0) (w' := w3) rfl rfl rfl (rfl) ?_
  simp only [Act.put, sa, sz, ss]
  refine rest_nil (then_normal (wp_ret ?_))
  repeat (first | refine then_ret ?_ | refine block_ret ?_)
  refine bodyPost_ret (v := .tuple #[vr, .int .i64 0]) (by simp [results, Try.results18, go_sem, *]) rfl ?_
  exact ⟨_, rfl, hcw.out⟩
set_option maxHeartbeats 2000000 in
set_option maxRecDepth 100000 in
theorem Read_miss (d mb rb : Nat) (k : Int) (s : ByteArray) (w : World) (hm : Mm w [(d, [Value.map (some mb), Value.map (some rb), Value.int .i64 k])]) (hlk0 : ∀ u, Below w.heap.size w u → (Instr.lookup 39 (.map (some mb)) (.string s) false).run Try.prog u = .ok (.pointer none) u) :
    Calls Try.prog 18 #[PT d 0, .string s] w fun e w' => e = .returned (.tuple #[.slice none 0 0, .int .i64 6]) ∧ Below w.heap.size w w' := by
  have H0 : Hid (_ ∧ _) := ⟨hm, Below.refl w.heap.size w⟩
  clear hm
  have hlk : Hid _ := hlk0
  clear hlk0
  go_enter Try.func18, Try.ntmps18
  refine wp_seq ?_
  refine sq_startW (l := [0, 1]) rfl (fun u0 hu0 => ?_)
  have H1 : Hid (Mm u0 [(d, [Value.map (some mb), Value.map (some rb), Value.int .i64 k])] ∧ Below w.heap.size w u0) := by rw [hu0]; exact H0
  clear hu0 H0
  refine rest_set (d := 4) (v := .slice none 0 0) (w' := u0) rfl rfl rfl (rfl) ?_
  simp only [Act.put, sa, sz, ss]
  refine rest_set (d := 5) (v := .int .i64 0) (w' := u0) rfl rfl rfl (rfl) ?_
  simp only [Act.put, sa, sz, ss]
  refine rest_nil (then_normal (wp_seq ?_))
  refine sq_start (l := [0, 1, 2, 3, 4, 5, 6, 7]) rfl ?_
  refine rest_set (d := 9) (v := PT d 0) (w' := u0) rfl rfl rfl (rfl) ?_
  simp only [Act.put, sa, sz, ss]
  refine rest_set (d := 10) (v := .string s) (w' := u0) rfl rfl rfl (rfl) ?_
  simp only [Act.put, sa, sz, ss]
  refine rest_enter (d := 11) (R := fun vv w' => vv = .tuple #[.pointer none, .int .i64 6] ∧ Below u0.heap.size u0 w') rfl rfl rfl (exec_call (args := #[PT d 0, .string s]) rfl call64 rfl (mpn rfl)) (Calls.mono (find_miss d mb rb k s u0 (H1.out.1.one 0 rfl) (fun u hu => hlk.out u (H1.out.2.trans (hu.mono H1.out.2.size)))) (fun e w2 hh => ⟨_, hh.1, rfl, hh.2⟩)) ?_
  rintro _ w2 ⟨rfl, hb⟩
  have H2 : Hid (Mm w2 [(d, [Value.map (some mb), Value.map (some rb), Value.int .i64 k])] ∧ Below w.heap.size w w2) := ⟨H1.out.1.below hb, H1.out.2.trans (hb.mono H1.out.2.size)⟩
  clear hb
  clear H1
  simp only [Act.put, sa, sz, ss]
  refine rest_set (d := 8) (v := .tuple #[.pointer none, .int .i64 6]) (w' := w2) rfl rfl rfl (rfl) ?_
  simp only [Act.put, sa, sz, ss]
  refine rest_set (d := 12) (v := .pointer none) (w' := w2) rfl rfl rfl (by go_simp) ?_
  simp only [Act.put, sa, sz, ss]
  refine rest_set (d := 13) (v := .int .i64 6) (w' := w2) rfl rfl rfl (by go_simp) ?_
  simp only [Act.put, sa, sz, ss]
  refine rest_set (d := 6) (v := .pointer none) (w' := w2) rfl rfl rfl (rfl) ?_
  simp only [Act.put, sa, sz, ss]
  refine rest_set (d := 7) (v := .int .i64 6) (w' := w2) rfl rfl rfl (rfl) ?_
  simp only [Act.put, sa, sz, ss]
  refine rest_nil (then_normal ?_)
  refine wp_seq (wp_seq ?_)
  refine sq_start (l := [0, 1]) rfl ?_
  refine rest_set (d := 14) (v := .int .i64 6) (w' := w2) rfl rfl rfl (rfl) ?_
  simp only [Act.put, sa, sz, ss]
  refine rest_set (d := 15) (v := .bool true) (w' := w2) rfl rfl rfl (by kernel_rfl) ?_
  simp only [Act.put, sa, sz, ss]
  refine rest_nil (then_normal ?_)
  refine wp_cond_true rfl (wp_seq ?_)
  refine sq_start (l := [0, 1, 2]) rfl ?_
  refine rest_set (d := 16) (v := .int .i64 6) (w' := w2) rfl rfl rfl (rfl) ?_
  simp only [Act.put, sa, sz, ss]
  refine rest_set (d := 4) (v := .slice none 0 0) (w' := w2) rfl rfl rfl (rfl) ?_
  simp only [Act.put, sa, sz, ss]
  refine rest_set (d := 5) (v := .int .i64 6) (w' := w2) rfl rfl rfl (rfl) ?_
  simp only [Act.put, sa, sz, ss]
  refine rest_nil (then_normal (wp_ret ?_))
  repeat (first | refine then_ret ?_ | refine block_ret ?_)
  refine bodyPost_ret (v := .tuple #[.slice none 0 0, .int .i64 6]) (by simp [results, Try.results18, go_sem, *]) rfl ?_
  exact ⟨rfl, H2.out.2⟩
set_option maxHeartbeats 2000000 in
set_option maxRecDepth 100000 in
theorem Pending_hit (d mb rb g m cu : Nat) (pu : Option Addr) (S : Value) (fr : Bool) (k : Int) (s : ByteArray) (w : World) (hm : Mm w [(d, [Value.map (some mb), Value.map (some rb), Value.int .i64 k]), (g, [S, Value.slice pu m cu, Value.bool fr])]) (hlk0 : ∀ u, Below w.heap.size w u → (Instr.lookup 39 (.map (some mb)) (.string s) false).run Try.prog u = .ok (PT g 0) u) :
    Calls Try.prog 27 #[PT d 0, .string s] w fun e w' => e = .returned (.int .i64 ((m : Nat) : Int)) ∧ Below w.heap.size w w' := by
  have H0 : Hid (_ ∧ _) := ⟨hm, Below.refl w.heap.size w⟩
  clear hm
  have hlk : Hid _ := hlk0
  clear hlk0
  go_enter Try.func27, Try.ntmps27
  refine wp_seq ?_
  refine sq_startW (l := [0]) rfl (fun u0 hu0 => ?_)
  have H1 : Hid (Mm u0 [(d, [Value.map (some mb), Value.map (some rb), Value.int .i64 k]), (g, [S, Value.slice pu m cu, Value.bool fr])] ∧ Below w.heap.size w u0) := by rw [hu0]; exact H0
  clear hu0 H0
  refine rest_set (d := 4) (v := .int .i64 0) (w' := u0) rfl rfl rfl (rfl) ?_
  simp only [Act.put, sa, sz, ss]
  refine rest_nil (then_normal (wp_seq ?_))
  refine sq_start (l := [0, 1, 2, 3, 4, 5, 6, 7]) rfl ?_
  refine rest_set (d := 8) (v := PT d 0) (w' := u0) rfl rfl rfl (rfl) ?_
  simp only [Act.put, sa, sz, ss]
  refine rest_set (d := 9) (v := .string s) (w' := u0) rfl rfl rfl (rfl) ?_
  simp only [Act.put, sa, sz, ss]
  refine rest_enter (d := 10) (R := fun vv w' => vv = .tuple #[PT g 0, .int .i64 0] ∧ Below u0.heap.size u0 w') rfl rfl rfl (exec_call (args := #[PT d 0, .string s]) rfl call64 rfl (mpn rfl)) (Calls.mono (find_hit d mb rb g k s u0 (H1.out.1.one 0 rfl) (fun u hu => hlk.out u (H1.out.2.trans (hu.mono H1.out.2.size)))) (fun e w2 hh => ⟨_, hh.1, rfl, hh.2⟩)) ?_
  rintro _ w2 ⟨rfl, hb⟩
  have H2 : Hid (Mm w2 [(d, [Value.map (some mb), Value.map (some rb), Value.int .i64 k]), (g, [S, Value.slice pu m cu, Value.bool fr])] ∧ Below w.heap.size w w2) := ⟨H1.out.1.below hb, H1.out.2.trans (hb.mono H1.out.2.size)⟩
  clear hb
  clear H1
  simp only [Act.put, sa, sz, ss]
  refine rest_set (d := 7) (v := .tuple #[PT g 0, .int .i64 0]) (w' := w2) rfl rfl rfl (rfl) ?_
  simp only [Act.put, sa, sz, ss]
  refine rest_set (d := 11) (v := PT g 0) (w' := w2) rfl rfl rfl (by go_simp) ?_
  simp only [Act.put, sa, sz, ss]
  refine rest_set (d := 12) (v := .int .i64 0) (w' := w2) rfl rfl rfl (by go_simp) ?_
  simp only [Act.put, sa, sz, ss]
  refine rest_set (d := 5) (v := PT g 0) (w' := w2) rfl rfl rfl (rfl) ?_
  simp only [Act.put, sa, sz, ss]
  refine rest_set (d := 6) (v := .int .i64 0) (w' := w2) rfl rfl rfl (rfl) ?_
  simp only [Act.put, sa, sz, ss]
  refine rest_nil (then_normal ?_)
  refine wp_seq (wp_seq ?_)
  refine sq_start (l := [0, 1]) rfl ?_
  refine rest_set (d := 13) (v := .int .i64 0) (w' := w2) rfl rfl rfl (rfl) ?_
  simp only [Act.put, sa, sz, ss]
  refine rest_set (d := 14) (v := .bool false) (w' := w2) rfl rfl rfl (by kernel_rfl) ?_
  simp only [Act.put, sa, sz, ss]
  refine rest_nil (then_normal ?_)
  refine wp_cond_false rfl (wp_skip ?_)
  refine then_normal (wp_seq ?_)
  refine sq_start (l := [0, 1, 2, 3, 4, 5]) rfl ?_
  refine rest_set (d := 15) (v := PT g 0) (w' := w2) rfl rfl rfl (rfl) ?_
  simp only [Act.put, sa, sz, ss]
  refine rest_set (d := 16) (v := PT g 0) (w' := w2) rfl rfl rfl (by go_simp) ?_
  simp only [Act.put, sa, sz, ss]
  refine rest_set (d := 17) (v := PT g 1) (w' := w2) rfl rfl rfl (by go_simp) ?_
  simp only [Act.put, sa, sz, ss]
  refine rest_set (d := 18) (v := .slice pu m cu) (w' := w2) rfl rfl rfl (ex_loadC H2.out.1 1 rfl rfl rfl Try.isAgg115 rfl) ?_
  simp only [Act.put, sa, sz, ss]
  refine rest_set (d := 19) (v := .int .i64 ((m : Nat) : Int)) (w' := w2) rfl rfl rfl (by go_simp) ?_
  simp only [Act.put, sa, sz, ss]
  refine rest_set (d := 4) (v := .int .i64 ((m : Nat) : Int)) (w' := w2) rfl rfl rfl (rfl) ?_
  simp only [Act.put, sa, sz, ss]
  refine rest_nil (then_normal (wp_ret ?_))
  repeat (first | refine then_ret ?_ | refine block_ret ?_)
  refine bodyPost_ret (v := .int .i64 ((m : Nat) : Int)) (by simp [results, Try.results27, go_sem, *]) rfl ?_
  exact ⟨rfl, H2.out.2⟩
set_option maxHeartbeats 2000000 in
set_option maxRecDepth 100000 in
theorem Pending_miss (d mb rb : Nat) (k : Int) (s : ByteArray) (w : World) (hm : Mm w [(d, [Value.map (some mb), Value.map (some rb), Value.int .i64 k])]) (hlk0 : ∀ u, Below w.heap.size w u → (Instr.lookup 39 (.map (some mb)) (.string s) false).run Try.prog u = .ok (.pointer none) u) :
    Calls Try.prog 27 #[PT d 0, .string s] w fun e w' => e = .returned (.int .i64 0) ∧ Below w.heap.size w w' := by
  have H0 : Hid (_ ∧ _) := ⟨hm, Below.refl w.heap.size w⟩
  clear hm
  have hlk : Hid _ := hlk0
  clear hlk0
  go_enter Try.func27, Try.ntmps27
  refine wp_seq ?_
  refine sq_startW (l := [0]) rfl (fun u0 hu0 => ?_)
  have H1 : Hid (Mm u0 [(d, [Value.map (some mb), Value.map (some rb), Value.int .i64 k])] ∧ Below w.heap.size w u0) := by rw [hu0]; exact H0
  clear hu0 H0
  refine rest_set (d := 4) (v := .int .i64 0) (w' := u0) rfl rfl rfl (rfl) ?_
  simp only [Act.put, sa, sz, ss]
  refine rest_nil (then_normal (wp_seq ?_))
  refine sq_start (l := [0, 1, 2, 3, 4, 5, 6, 7]) rfl ?_
  refine rest_set (d := 8) (v := PT d 0) (w' := u0) rfl rfl rfl (rfl) ?_
  simp only [Act.put, sa, sz, ss]
  refine rest_set (d := 9) (v := .string s) (w' := u0) rfl rfl rfl (rfl) ?_
  simp only [Act.put, sa, sz, ss]
  refine rest_enter (d := 10) (R := fun vv w' => vv = .tuple #[.pointer none, .int .i64 6] ∧ Below u0.heap.size u0 w') rfl rfl rfl (exec_call (args := #[PT d 0, .string s]) rfl call64 rfl (mpn rfl)) (Calls.mono (find_miss d mb rb k s u0 (H1.out.1.one 0 rfl) (fun u hu => hlk.out u (H1.out.2.trans (hu.mono H1.out.2.size)))) (fun e w2 hh => ⟨_, hh.1, rfl, hh.2⟩)) ?_
  rintro _ w2 ⟨rfl, hb⟩
  have H2 : Hid (Mm w2 [(d, [Value.map (some mb), Value.map (some rb), Value.int .i64 k])] ∧ Below w.heap.size w w2) := ⟨H1.out.1.below hb, H1.out.2.trans (hb.mono H1.out.2.size)⟩
  clear hb
  clear H1
  simp only [Act.put, sa, sz, ss]
  refine rest_set (d := 7) (v := .tuple #[.pointer none, .int .i64 6]) (w' := w2) rfl rfl rfl (rfl) ?_
  simp only [Act.put, sa, sz, ss]
  refine rest_set (d := 11) (v := .pointer none) (w' := w2) rfl rfl rfl (by go_simp) ?_
  simp only [Act.put, sa, sz, ss]
  refine rest_set (d := 12) (v := .int .i64 6) (w' := w2) rfl rfl rfl (by go_simp) ?_
  simp only [Act.put, sa, sz, ss]
  refine rest_set (d := 5) (v := .pointer none) (w' := w2) rfl rfl rfl (rfl) ?_
  simp only [Act.put, sa, sz, ss]
  refine rest_set (d := 6) (v := .int .i64 6) (w' := w2) rfl rfl rfl (rfl) ?_
  simp only [Act.put, sa, sz, ss]
  refine rest_nil (then_normal ?_)
  refine wp_seq (wp_seq ?_)
  refine sq_start (l := [0, 1]) rfl ?_
  refine rest_set (d := 13) (v := .int .i64 6) (w' := w2) rfl rfl rfl (rfl) ?_
  simp only [Act.put, sa, sz, ss]
  refine rest_set (d := 14) (v := .bool true) (w' := w2) rfl rfl rfl (by kernel_rfl) ?_
  simp only [Act.put, sa, sz, ss]
  refine rest_nil (then_normal ?_)
  refine wp_cond_true rfl (wp_seq ?_)
  refine sq_start (l := [0]) rfl ?_
  refine rest_set (d := 4) (v := .int .i64 0) (w' := w2) rfl rfl rfl (rfl) ?_
  simp only [Act.put, sa, sz, ss]
  refine rest_nil (then_normal (wp_ret ?_))
  repeat (first | refine then_ret ?_ | refine block_ret ?_)
  refine bodyPost_ret (v := .int .i64 0) (by simp [results, Try.results27, go_sem, *]) rfl ?_
  exact ⟨rfl, H2.out.2⟩
theorem Read_f (D : Dq) (s : ByteArray) (hs : s.size ≤ maxLen) (w : World) (h : DOk w D) : Calls Try.prog 18 #[PT D.d 0, .string s] w fun e w' => match lk D.fs s with
    | some f => ∃ v, e = .returned (.tuple #[v, .int .i64 0]) ∧ Cw w v f.N f.C w'
    | none => e = .returned (.tuple #[.slice none 0 0, .int .i64 6]) ∧ Below w.heap.size w w' := by
  have hlt : D.mb < w.heap.size := by obtain ⟨X, h1, _⟩ := h.mp; exact h1.lt
  cases hl : lk D.fs s with
  | none => exact Read_miss D.d D.mb D.rb D.k s w h.cel (fun u hu => by rw [h.look s hs (hu.block _ hlt), hl]; rfl)
  | some f => exact Read_hit D.d D.mb D.rb f.g f.N f.C D.k s w h.cel (fun u hu => by rw [h.look s hs (hu.block _ hlt), hl]; rfl) (fun u hu => content_f f u ((h.fl f (lk_mem hl).1).below hu))
theorem Pending_f (D : Dq) (s : ByteArray) (hs : s.size ≤ maxLen) (w : World) (h : DOk w D) : Calls Try.prog 27 #[PT D.d 0, .string s] w fun e w' => e = .returned (.int .i64 (((match lk D.fs s with | some f => f.ops.length | none => 0) : Nat) : Int)) ∧ Below w.heap.size w w' := by
  have hlt : D.mb < w.heap.size := by obtain ⟨X, h1, _⟩ := h.mp; exact h1.lt
  cases hl : lk D.fs s with
  | none => exact Pending_miss D.d D.mb D.rb D.k s w h.cel (fun u hu => by rw [h.look s hs (hu.block _ hlt), hl]; rfl)
  | some f =>
    have hf := h.fl f (lk_mem hl).1
    obtain ⟨pu, cu, eu, _⟩ := own_slice hf.fi.und
    have hc := hf.cel
    rw [eu] at hc
    have hne : D.d ≠ f.g := fun e => ((h.hd f (lk_mem hl).1) f.g (List.mem_cons_self ..)).1 e.symm
    exact Pending_hit D.d D.mb D.rb f.g f.ops.length cu pu f.s f.fr D.k s w (hc.cons (h.cel.blk _ (List.mem_cons_self ..)).2 (h.cel.blk _ (List.mem_cons_self ..)).1 (fun p hp => by obtain rfl := List.mem_singleton.1 hp; exact hne.symm)) (fun u hu => by rw [h.look s hs (hu.block _ hlt), hl]; rfl)
end Wi
end Rg
end Go.Proofs.Ytidicdlfjdlpnaa
end
section
namespace Go.Proofs.Ytidicdlfjdlpnaa
open Go.RowKit
namespace Rg
namespace Wi
theorem call66 : ∀ args w, (callFunc 66 args).run Try.prog w = .ok (.enter 66 args) w := by intro args w; go_simp
theorem call72 : ∀ args w, (callFunc 72 args).run Try.prog w = .ok (.enter 72 args) w := by intro args w; go_simp
theorem call73 : ∀ args w, (callFunc 73 args).run Try.prog w = .ok (.enter 73 args) w := by intro args w; go_simp
set_option maxRecDepth 100000
theorem Kp.chg {d : Nat} {w u : World} (h : Kp d w u) : Chg [d] w u := ⟨h.os, h.tape, h.output, h.size, fun k hk hn => h.block k hk (fun e => hn (by rw [e]; exact List.mem_singleton.2 rfl))⟩
/-- Behind a call that was made in a world u1 with A, and answered in u2 with B. -/
def Aft (A : World → Prop) (B : World → World → Prop) (w' : World) : Prop := ∃ u1 u2, A u1 ∧ B u1 u2 ∧ Below u2.heap.size u2 w'
theorem Aft.step {A : World → Prop} {B : World → World → Prop} {w1 w2 : World} (h : Aft A B w1) (hb : Below w1.heap.size w1 w2) : Aft A B w2 := by
  obtain ⟨u1, u2, h1, h2, h3⟩ := h
  exact ⟨u1, u2, h1, h2, h3.trans (hb.mono h3.size)⟩
set_option maxHeartbeats 2000000 in
set_option maxRecDepth 100000 in
theorem counted_no (d mb rb k : Nat) (hk : k < 4611686018427387904) (s : ByteArray) (w : World) (hm : Mm w [(d, [Value.map (some mb), Value.map (some rb), Value.int .i64 ((k : Nat) : Int)])]) (hlr0 : ∀ u, Kp d w u → (Instr.lookup 40 (.map (some rb)) (.int .i64 ((k + 1 : Nat) : Int)) true).run Try.prog u = .ok (.tuple #[.agg ([] : List Value).toArray, .bool true]) u) :
    Calls Try.prog 72 #[PT d 0, .string s] w fun e w' => e = .returned (.tuple #[.pointer none, .int .i64 13]) ∧ Mm w' [(d, [Value.map (some mb), Value.map (some rb), Value.int .i64 ((k + 1 : Nat) : Int)])] ∧ Kp d w w' := by
  have H0 : Hid (_ ∧ _) := ⟨hm, Kp.refl d w⟩
  clear hm
  have hlr : Hid _ := hlr0
  clear hlr0
  go_enter Try.func72, Try.ntmps72
  refine wp_seq ?_
  refine sq_startW (l := [0, 1]) rfl (fun u0 hu0 => ?_)
  have H1 : Hid (Mm u0 [(d, [Value.map (some mb), Value.map (some rb), Value.int .i64 ((k : Nat) : Int)])] ∧ Kp d w u0) := by rw [hu0]; exact H0
  clear hu0 H0
  refine rest_set (d := 4) (v := .pointer none) (w' := u0) rfl rfl rfl (rfl) ?_
  simp only [Act.put, sa, sz, ss]
  refine rest_set (d := 5) (v := .int .i64 0) (w' := u0) rfl rfl rfl (rfl) ?_
  simp only [Act.put, sa, sz, ss]
  refine rest_nil (then_normal ?_)
  refine wp_seq (wp_seq ?_)
  refine sq_start (l := [0, 1, 2]) rfl ?_
  refine rest_set (d := 7) (v := PT d 0) (w' := u0) rfl rfl rfl (rfl) ?_
  simp only [Act.put, sa, sz, ss]
  refine rest_enter (d := 8) (R := fun vv w' => vv = .int .i64 13 ∧ Mm w' [(d, [Value.map (some mb), Value.map (some rb), Value.int .i64 ((k + 1 : Nat) : Int)])] ∧ Kp d u0 w') rfl rfl rfl (exec_call (args := #[PT d 0]) rfl call66 rfl (mpn rfl)) (Calls.mono (count_no d mb rb k hk u0 (H1.out.1.one 0 rfl) (fun u hu => hlr.out u (H1.out.2.join hu))) (fun e w2 hh => ⟨_, hh.1, rfl, hh.2⟩)) ?_
  rintro _ w2 ⟨rfl, hn, hp⟩
  have H2 : Hid (Mm w2 [(d, [Value.map (some mb), Value.map (some rb), Value.int .i64 ((k + 1 : Nat) : Int)])] ∧ Kp d w w2) := ⟨H1.out.1.change 0 rfl hp hn, H1.out.2.join hp⟩
  clear hn hp
  clear H1
  simp only [Act.put, sa, sz, ss]
  refine rest_set (d := 6) (v := .int .i64 13) (w' := w2) rfl rfl rfl (rfl) ?_
  simp only [Act.put, sa, sz, ss]
  refine rest_nil (then_normal (wp_seq ?_))
  refine sq_start (l := [0, 1]) rfl ?_
  refine rest_set (d := 9) (v := .int .i64 13) (w' := w2) rfl rfl rfl (rfl) ?_
  simp only [Act.put, sa, sz, ss]
  refine rest_set (d := 10) (v := .bool true) (w' := w2) rfl rfl rfl (by kernel_rfl) ?_
  simp only [Act.put, sa, sz, ss]
  refine rest_nil (then_normal ?_)
  refine wp_cond_true rfl (wp_seq ?_)
  refine sq_start (l := [0, 1, 2]) rfl ?_
  refine rest_set (d := 11) (v := .int .i64 13) (w' := w2) rfl rfl rfl (rfl) ?_
  simp only [Act.put, sa, sz, ss]
  refine rest_set (d := 4) (v := .pointer none) (w' := w2) rfl rfl rfl (rfl) ?_
  simp only [Act.put, sa, sz, ss]
  refine rest_set (d := 5) (v := .int .i64 13) (w' := w2) rfl rfl rfl (rfl) ?_
  simp only [Act.put, sa, sz, ss]
  refine rest_nil (then_normal (wp_ret ?_))
  repeat (first | refine then_ret ?_ | refine block_ret ?_)
  refine bodyPost_ret (v := .tuple #[.pointer none, .int .i64 13]) (by simp [results, Try.results72, go_sem, *]) rfl ?_
  exact ⟨rfl, H2.out.1.one 0 rfl, H2.out.2⟩
set_option maxHeartbeats 2000000 in
set_option maxRecDepth 100000 in
theorem counted_hit (d mb rb k : Nat) (hk : k < 4611686018427387904) (g : Nat) (s : ByteArray) (w : World) (hm : Mm w [(d, [Value.map (some mb), Value.map (some rb), Value.int .i64 ((k : Nat) : Int)])]) (hlr0 : ∀ u, Kp d w u → (Instr.lookup 40 (.map (some rb)) (.int .i64 ((k + 1 : Nat) : Int)) true).run Try.prog u = .ok (.tuple #[.agg ([] : List Value).toArray, .bool false]) u) (hlk0 : ∀ u, Kp d w u → (Instr.lookup 39 (.map (some mb)) (.string s) false).run Try.prog u = .ok (PT g 0) u) :
    Calls Try.prog 72 #[PT d 0, .string s] w fun e w' => e = .returned (.tuple #[PT g 0, .int .i64 0]) ∧ Mm w' [(d, [Value.map (some mb), Value.map (some rb), Value.int .i64 ((k + 1 : Nat) : Int)])] ∧ Kp d w w' := by
  have H0 : Hid (_ ∧ _) := ⟨hm, Kp.refl d w⟩
  clear hm
  have hlr : Hid _ := hlr0
  clear hlr0
  have hlk : Hid _ := hlk0
  clear hlk0
  go_enter Try.func72, Try.ntmps72
  refine wp_seq ?_
  refine sq_startW (l := [0, 1]) rfl (fun u0 hu0 => ?_)
  have H1 : Hid (Mm u0 [(d, [Value.map (some mb), Value.map (some rb), Value.int .i64 ((k : Nat) : Int)])] ∧ Kp d w u0) := by rw [hu0]; exact H0
  clear hu0 H0
  refine rest_set (d := 4) (v := .pointer none) (w' := u0) rfl rfl rfl (rfl) ?_
  simp only [Act.put, sa, sz, ss]
  refine rest_set (d := 5) (v := .int .i64 0) (w' := u0) rfl rfl rfl (rfl) ?_
  simp only [Act.put, sa, sz, ss]
  refine rest_nil (then_normal ?_)
  refine wp_seq (wp_seq ?_)
  refine sq_start (l := [0, 1, 2]) rfl ?_
  refine rest_set (d := 7) (v := PT d 0) (w' := u0) rfl rfl rfl (rfl) ?_
  simp only [Act.put, sa, sz, ss]
  refine rest_enter (d := 8) (R := fun vv w' => vv = .int .i64 0 ∧ Mm w' [(d, [Value.map (some mb), Value.map (some rb), Value.int .i64 ((k + 1 : Nat) : Int)])] ∧ Kp d u0 w') rfl rfl rfl (exec_call (args := #[PT d 0]) rfl call66 rfl (mpn rfl)) (Calls.mono (count_ok d mb rb k hk u0 (H1.out.1.one 0 rfl) (fun u hu => hlr.out u (H1.out.2.join hu))) (fun e w2 hh => ⟨_, hh.1, rfl, hh.2⟩)) ?_
  rintro _ w2 ⟨rfl, hn, hp⟩
  have H2 : Hid (Mm w2 [(d, [Value.map (some mb), Value.map (some rb), Value.int .i64 ((k + 1 : Nat) : Int)])] ∧ Kp d w w2) := ⟨H1.out.1.change 0 rfl hp hn, H1.out.2.join hp⟩
  clear hn hp
  clear H1
  simp only [Act.put, sa, sz, ss]
  refine rest_set (d := 6) (v := .int .i64 0) (w' := w2) rfl rfl rfl (rfl) ?_
  simp only [Act.put, sa, sz, ss]
  refine rest_nil (then_normal (wp_seq ?_))
  refine sq_start (l := [0, 1]) rfl ?_
  refine rest_set (d := 9) (v := .int .i64 0) (w' := w2) rfl rfl rfl (rfl) ?_
  simp only [Act.put, sa, sz, ss]
  refine rest_set (d := 10) (v := .bool false) (w' := w2) rfl rfl rfl (by kernel_rfl) ?_
  simp only [Act.put, sa, sz, ss]
  refine rest_nil (then_normal ?_)
  refine wp_cond_false rfl (wp_skip ?_)
  refine then_normal (wp_seq ?_)
  refine sq_start (l := [0, 1, 2, 3, 4, 5, 6]) rfl ?_
  refine rest_set (d := 12) (v := PT d 0) (w' := w2) rfl rfl rfl (rfl) ?_
  simp only [Act.put, sa, sz, ss]
  refine rest_set (d := 13) (v := .string s) (w' := w2) rfl rfl rfl (rfl) ?_
  simp only [Act.put, sa, sz, ss]
  refine rest_enter (d := 14) (R := fun vv w' => vv = .tuple #[PT g 0, .int .i64 0] ∧ Below w2.heap.size w2 w') rfl rfl rfl (exec_call (args := #[PT d 0, .string s]) rfl call64 rfl (mpn rfl)) (Calls.mono (find_hit d mb rb g ((k + 1 : Nat) : Int) s w2 (H2.out.1.one 0 rfl) (fun u hu => hlk.out u (H2.out.2.trans (hu)))) (fun e w2 hh => ⟨_, hh.1, rfl, hh.2⟩)) ?_
  rintro _ w3 ⟨rfl, hb⟩
  have H3 : Hid (Mm w3 [(d, [Value.map (some mb), Value.map (some rb), Value.int .i64 ((k + 1 : Nat) : Int)])] ∧ Kp d w w3) := ⟨H2.out.1.below hb, H2.out.2.trans (hb)⟩
  clear hb
  clear H2
  simp only [Act.put, sa, sz, ss]
  refine rest_set (d := 15) (v := PT g 0) (w' := w3) rfl rfl rfl (by go_simp) ?_
  simp only [Act.put, sa, sz, ss]
  refine rest_set (d := 16) (v := .int .i64 0) (w' := w3) rfl rfl rfl (by go_simp) ?_
  simp only [Act.put, sa, sz, ss]
  refine rest_set (d := 4) (v := PT g 0) (w' := w3) rfl rfl rfl (rfl) ?_
  simp only [Act.put, sa, sz, ss]
  refine rest_set (d := 5) (v := .int .i64 0) (w' := w3) rfl rfl rfl (rfl) ?_
  simp only [Act.put, sa, sz, ss]
  refine rest_nil (then_normal (wp_ret ?_))
  repeat (first | refine then_ret ?_ | refine block_ret ?_)
  refine bodyPost_ret (v := .tuple #[PT g 0, .int .i64 0]) (by simp [results, Try.results72, go_sem, *]) rfl ?_
  exact ⟨rfl, H3.out.1.one 0 rfl, H3.out.2⟩
set_option maxHeartbeats 2000000 in
set_option maxRecDepth 100000 in
theorem counted_miss (d mb rb k : Nat) (hk : k < 4611686018427387904) (s : ByteArray) (w : World) (hm : Mm w [(d, [Value.map (some mb), Value.map (some rb), Value.int .i64 ((k : Nat) : Int)])]) (hlr0 : ∀ u, Kp d w u → (Instr.lookup 40 (.map (some rb)) (.int .i64 ((k + 1 : Nat) : Int)) true).run Try.prog u = .ok (.tuple #[.agg ([] : List Value).toArray, .bool false]) u) (hlk0 : ∀ u, Kp d w u → (Instr.lookup 39 (.map (some mb)) (.string s) false).run Try.prog u = .ok (.pointer none) u) :
    Calls Try.prog 72 #[PT d 0, .string s] w fun e w' => e = .returned (.tuple #[.pointer none, .int .i64 6]) ∧ Mm w' [(d, [Value.map (some mb), Value.map (some rb), Value.int .i64 ((k + 1 : Nat) : Int)])] ∧ Kp d w w' := by
  have H0 : Hid (_ ∧ _) := ⟨hm, Kp.refl d w⟩
  clear hm
  have hlr : Hid _ := hlr0
  clear hlr0
  have hlk : Hid _ := hlk0
  clear hlk0
  go_enter Try.func72, Try.ntmps72
  refine wp_seq ?_
  refine sq_startW (l := [0, 1]) rfl (fun u0 hu0 => ?_)
  have H1 : Hid (Mm u0 [(d, [Value.map (some mb), Value.map (some rb), Value.int .i64 ((k : Nat) : Int)])] ∧ Kp d w u0) := by rw [hu0]; exact H0
  clear hu0 H0
  refine rest_set (d := 4) (v := .pointer none) (w' := u0) rfl rfl rfl (rfl) ?_
  simp only [Act.put, sa, sz, ss]
  refine rest_set (d := 5) (v := .int .i64 0) (w' := u0) rfl rfl rfl (rfl) ?_
  simp only [Act.put, sa, sz, ss]
  refine rest_nil (then_normal ?_)
  refine wp_seq (wp_seq ?_)
  refine sq_start (l := [0, 1, 2]) rfl ?_
  refine rest_set (d := 7) (v := PT d 0) (w' := u0) rfl rfl rfl (rfl) ?_
  simp only [Act.put, sa, sz, ss]
  refine rest_enter (d := 8) (R := fun vv w' => vv = .int .i64 0 ∧ Mm w' [(d, [Value.map (some mb), Value.map (some rb), Value.int .i64 ((k + 1 : Nat) : Int)])] ∧ Kp d u0 w') rfl rfl rfl (exec_call (args := #[PT d 0]) rfl call66 rfl (mpn rfl)) (Calls.mono (count_ok d mb rb k hk u0 (H1.out.1.one 0 rfl) (fun u hu => hlr.out u (H1.out.2.join hu))) (fun e w2 hh => ⟨_, hh.1, rfl, hh.2⟩)) ?_
  rintro _ w2 ⟨rfl, hn, hp⟩
  have H2 : Hid (Mm w2 [(d, [Value.map (some mb), Value.map (some rb), Value.int .i64 ((k + 1 : Nat) : Int)])] ∧ Kp d w w2) := ⟨H1.out.1.change 0 rfl hp hn, H1.out.2.join hp⟩
  clear hn hp
  clear H1
  simp only [Act.put, sa, sz, ss]
  refine rest_set (d := 6) (v := .int .i64 0) (w' := w2) rfl rfl rfl (rfl) ?_
  simp only [Act.put, sa, sz, ss]
  refine rest_nil (then_normal (wp_seq ?_))
  refine sq_start (l := [0, 1]) rfl ?_
  refine rest_set (d := 9) (v := .int .i64 0) (w' := w2) rfl rfl rfl (rfl) ?_
  simp only [Act.put, sa, sz, ss]
  refine rest_set (d := 10) (v := .bool false) (w' := w2) rfl rfl rfl (by kernel_rfl) ?_
  simp only [Act.put, sa, sz, ss]
  refine rest_nil (then_normal ?_)
  refine wp_cond_false rfl (wp_skip ?_)
  refine then_normal (wp_seq ?_)
  refine sq_start (l := [0, 1, 2, 3, 4, 5, 6]) rfl ?_
  refine rest_set (d := 12) (v := PT d 0) (w' := w2) rfl rfl rfl (rfl) ?_
  simp only [Act.put, sa, sz, ss]
  refine rest_set (d := 13) (v := .string s) (w' := w2) rfl rfl rfl (rfl) ?_
  simp only [Act.put, sa, sz, ss]
  refine rest_enter (d := 14) (R := fun vv w' => vv = .tuple #[.pointer none, .int .i64 6] ∧ Below w2.heap.size w2 w') rfl rfl rfl (exec_call (args := #[PT d 0, .string s]) rfl call64 rfl (mpn rfl)) (Calls.mono (find_miss d mb rb ((k + 1 : Nat) : Int) s w2 (H2.out.1.one 0 rfl) (fun u hu => hlk.out u (H2.out.2.trans (hu)))) (fun e w2 hh => ⟨_, hh.1, rfl, hh.2⟩)) ?_
  rintro _ w3 ⟨rfl, hb⟩
  have H3 : Hid (Mm w3 [(d, [Value.map (some mb), Value.map (some rb), Value.int .i64 ((k + 1 : Nat) : Int)])] ∧ Kp d w w3) := ⟨H2.out.1.below hb, H2.out.2.trans (hb)⟩
  clear hb
  clear H2
  simp only [Act.put, sa, sz, ss]
  refine rest_set (d := 15) (v := .pointer none) (w' := w3) rfl rfl rfl (by go_simp) ?_
  simp only [Act.put, sa, sz, ss]
  refine rest_set (d := 16) (v := .int .i64 6) (w' := w3) rfl rfl rfl (by go_simp) ?_
  simp only [Act.put, sa, sz, ss]
  refine rest_set (d := 4) (v := .pointer none) (w' := w3) rfl rfl rfl (rfl) ?_
  simp only [Act.put, sa, sz, ss]
  refine rest_set (d := 5) (v := .int .i64 6) (w' := w3) rfl rfl rfl (rfl) ?_
  simp only [Act.put, sa, sz, ss]
  refine rest_nil (then_normal (wp_ret ?_))
  repeat (first | refine then_ret ?_ | refine block_ret ?_)
  refine bodyPost_ret (v := .tuple #[.pointer none, .int .i64 6]) (by simp [results, Try.results72, go_sem, *]) rfl ?_
  exact ⟨rfl, H3.out.1.one 0 rfl, H3.out.2⟩
set_option maxHeartbeats 2000000 in
set_option maxRecDepth 100000 in
theorem Sync_no (d mb rb k : Nat) (hk : k < 4611686018427387904) (s : ByteArray) (w : World) (hm : Mm w [(d, [Value.map (some mb), Value.map (some rb), Value.int .i64 ((k : Nat) : Int)])]) (hlr0 : ∀ u, Kp d w u → (Instr.lookup 40 (.map (some rb)) (.int .i64 ((k + 1 : Nat) : Int)) true).run Try.prog u = .ok (.tuple #[.agg ([] : List Value).toArray, .bool true]) u) :
    Calls Try.prog 21 #[PT d 0, .string s] w fun e w' => e = .returned (.int .i64 13) ∧ Mm w' [(d, [Value.map (some mb), Value.map (some rb), Value.int .i64 ((k + 1 : Nat) : Int)])] ∧ Kp d w w' := by
  have H0 : Hid (_ ∧ _) := ⟨hm, Kp.refl d w⟩
  clear hm
  have hlr : Hid _ := hlr0
  clear hlr0
  go_enter Try.func21, Try.ntmps21
  refine wp_seq ?_
  refine sq_startW (l := [0]) rfl (fun u0 hu0 => ?_)
  have H1 : Hid (Mm u0 [(d, [Value.map (some mb), Value.map (some rb), Value.int .i64 ((k : Nat) : Int)])] ∧ Kp d w u0) := by rw [hu0]; exact H0
  clear hu0 H0
  refine rest_set (d := 4) (v := .int .i64 0) (w' := u0) rfl rfl rfl (rfl) ?_
  simp only [Act.put, sa, sz, ss]
  refine rest_nil (then_normal (wp_seq ?_))
  refine sq_start (l := [0, 1, 2, 3, 4, 5, 6, 7]) rfl ?_
  refine rest_set (d := 8) (v := PT d 0) (w' := u0) rfl rfl rfl (rfl) ?_
  simp only [Act.put, sa, sz, ss]
  refine rest_set (d := 9) (v := .string s) (w' := u0) rfl rfl rfl (rfl) ?_
  simp only [Act.put, sa, sz, ss]
  refine rest_enter (d := 10) (R := fun vv w' => vv = .tuple #[.pointer none, .int .i64 13] ∧ Mm w' [(d, [Value.map (some mb), Value.map (some rb), Value.int .i64 ((k + 1 : Nat) : Int)])] ∧ Kp d u0 w') rfl rfl rfl (exec_call (args := #[PT d 0, .string s]) rfl call72 rfl (mpn rfl)) (Calls.mono (counted_no d mb rb k hk s u0 (H1.out.1.one 0 rfl) (fun u hu => hlr.out u (H1.out.2.join hu))) (fun e w2 hh => ⟨_, hh.1, rfl, hh.2⟩)) ?_
  rintro _ w2 ⟨rfl, hn, hp⟩
  have H2 : Hid (Mm w2 [(d, [Value.map (some mb), Value.map (some rb), Value.int .i64 ((k + 1 : Nat) : Int)])] ∧ Kp d w w2) := ⟨H1.out.1.change 0 rfl hp hn, H1.out.2.join hp⟩
  clear hn hp
  clear H1
  simp only [Act.put, sa, sz, ss]
  refine rest_set (d := 7) (v := .tuple #[.pointer none, .int .i64 13]) (w' := w2) rfl rfl rfl (rfl) ?_
  simp only [Act.put, sa, sz, ss]
  refine rest_set (d := 11) (v := .pointer none) (w' := w2) rfl rfl rfl (by go_simp) ?_
  simp only [Act.put, sa, sz, ss]
  refine rest_set (d := 12) (v := .int .i64 13) (w' := w2) rfl rfl rfl (by go_simp) ?_
  simp only [Act.put, sa, sz, ss]
  refine rest_set (d := 5) (v := .pointer none) (w' := w2) rfl rfl rfl (rfl) ?_
  simp only [Act.put, sa, sz, ss]
  refine rest_set (d := 6) (v := .int .i64 13) (w' := w2) rfl rfl rfl (rfl) ?_
  simp only [Act.put, sa, sz, ss]
  refine rest_nil (then_normal ?_)
  refine wp_seq (wp_seq ?_)
  refine sq_start (l := [0, 1]) rfl ?_
  refine rest_set (d := 13) (v := .int .i64 13) (w' := w2) rfl rfl rfl (rfl) ?_
  simp only [Act.put, sa, sz, ss]
  refine rest_set (d := 14) (v := .bool true) (w' := w2) rfl rfl rfl (by kernel_rfl) ?_
  simp only [Act.put, sa, sz, ss]
  refine rest_nil (then_normal ?_)
  refine wp_cond_true rfl (wp_seq ?_)
  refine sq_start (l := [0, 1]) rfl ?_
  refine rest_set (d := 15) (v := .int .i64 13) (w' := w2) rfl rfl rfl (rfl) ?_
  simp only [Act.put, sa, sz, ss]
  refine rest_set (d := 4) (v := .int .i64 13) (w' := w2) rfl rfl rfl (rfl) ?_
  simp only [Act.put, sa, sz, ss]
  refine rest_nil (then_normal (wp_ret ?_))
  repeat (first | refine then_ret ?_ | refine block_ret ?_)
  refine bodyPost_ret (v := .int .i64 13) (by simp [results, Try.results21, go_sem, *]) rfl ?_
  exact ⟨rfl, H2.out.1.one 0 rfl, H2.out.2⟩
set_option maxHeartbeats 2000000 in
set_option maxRecDepth 100000 in
theorem Sync_miss (d mb rb k : Nat) (hk : k < 4611686018427387904) (s : ByteArray) (w : World) (hm : Mm w [(d, [Value.map (some mb), Value.map (some rb), Value.int .i64 ((k : Nat) : Int)])]) (hlr0 : ∀ u, Kp d w u → (Instr.lookup 40 (.map (some rb)) (.int .i64 ((k + 1 : Nat) : Int)) true).run Try.prog u = .ok (.tuple #[.agg ([] : List Value).toArray, .bool false]) u) (hlk0 : ∀ u, Kp d w u → (Instr.lookup 39 (.map (some mb)) (.string s) false).run Try.prog u = .ok (.pointer none) u) :
    Calls Try.prog 21 #[PT d 0, .string s] w fun e w' => e = .returned (.int .i64 6) ∧ Mm w' [(d, [Value.map (some mb), Value.map (some rb), Value.int .i64 ((k + 1 : Nat) : Int)])] ∧ Kp d w w' := by
  have H0 : Hid (_ ∧ _) := ⟨hm, Kp.refl d w⟩
  clear hm
  have hlr : Hid _ := hlr0
  clear hlr0
  have hlk : Hid _ := hlk0
  clear hlk0
  go_enter Try.func21, Try.ntmps21
  refine wp_seq ?_
  refine sq_startW (l := [0]) rfl (fun u0 hu0 => ?_)
  have H1 : Hid (Mm u0 [(d, [Value.map (some mb), Value.map (some rb), Value.int .i64 ((k : Nat) : Int)])] ∧ Kp d w u0) := by rw [hu0]; exact H0
  clear hu0 H0
  refine rest_set (d := 4) (v := .int .i64 0) (w' := u0) rfl rfl rfl (rfl) ?_
  simp only [Act.put, sa, sz, ss]
  refine rest_nil (then_normal (wp_seq ?_))
  refine sq_start (l := [0, 1, 2, 3, 4, 5, 6, 7]) rfl ?_
  refine rest_set (d := 8) (v := PT d 0) (w' := u0) rfl rfl rfl (rfl) ?_
  simp only [Act.put, sa, sz, ss]
  refine rest_set (d := 9) (v := .string s) (w' := u0) rfl rfl rfl (rfl) ?_
  simp only [Act.put, sa, sz, ss]
  refine rest_enter (d := 10) (R := fun vv w' => vv = .tuple #[.pointer none, .int .i64 6] ∧ Mm w' [(d, [Value.map (some mb), Value.map (some rb), Value.int .i64 ((k + 1 : Nat) : Int)])] ∧ Kp d u0 w') rfl rfl rfl (exec_call (args := #[PT d 0, .string s]) rfl call72 rfl (mpn rfl)) (Calls.mono (counted_miss d mb rb k hk s u0 (H1.out.1.one 0 rfl) (fun u hu => hlr.out u (H1.out.2.join hu)) (fun u hu => hlk.out u (H1.out.2.join hu))) (fun e w2 hh => ⟨_, hh.1, rfl, hh.2⟩)) ?_
  rintro _ w2 ⟨rfl, hn, hp⟩
  have H2 : Hid (Mm w2 [(d, [Value.map (some mb), Value.map (some rb), Value.int .i64 ((k + 1 : Nat) : Int)])] ∧ Kp d w w2) := ⟨H1.out.1.change 0 rfl hp hn, H1.out.2.join hp⟩
  clear hn hp
  clear H1
  simp only [Act.put, sa, sz, ss]
  refine rest_set (d := 7) (v := .tuple #[.pointer none, .int .i64 6]) (w' := w2) rfl rfl rfl (rfl) ?_
  simp only [Act.put, sa, sz, ss]
  refine rest_set (d := 11) (v := .pointer none) (w' := w2) rfl rfl rfl (by go_simp) ?_
  simp only [Act.put, sa, sz, ss]
  refine rest_set (d := 12) (v := .int .i64 6) (w' := w2) rfl rfl rfl (by go_simp) ?_
  simp only [Act.put, sa, sz, ss]
  refine rest_set (d := 5) (v := .pointer none) (w' := w2) rfl rfl rfl (rfl) ?_
  simp only [Act.put, sa, sz, ss]
  refine rest_set (d := 6) (v := .int .i64 6) (w' := w2) rfl rfl rfl (rfl) ?_
  simp only [Act.put, sa, sz, ss]
  refine rest_nil (then_normal ?_)
  refine wp_seq (wp_seq ?_)
  refine sq_start (l := [0, 1]) rfl ?_
  refine rest_set (d := 13) (v := .int .i64 6) (w' := w2) rfl rfl rfl (rfl) ?_
  simp only [Act.put, sa, sz, ss]
  refine rest_set (d := 14) (v := .bool true) (w' := w2) rfl rfl rfl (by kernel_rfl) ?_
  simp only [Act.put, sa, sz, ss]
  refine rest_nil (then_normal ?_)
  refine wp_cond_true rfl (wp_seq ?_)
  refine sq_start (l := [0, 1]) rfl ?_
  refine rest_set (d := 15) (v := .int .i64 6) (w' := w2) rfl rfl rfl (rfl) ?_
  simp only [Act.put, sa, sz, ss]
  refine rest_set (d := 4) (v := .int .i64 6) (w' := w2) rfl rfl rfl (rfl) ?_
  simp only [Act.put, sa, sz, ss]
  refine rest_nil (then_normal (wp_ret ?_))
  repeat (first | refine then_ret ?_ | refine block_ret ?_)
  refine bodyPost_ret (v := .int .i64 6) (by simp [results, Try.results21, go_sem, *]) rfl ?_
  exact ⟨rfl, H2.out.1.one 0 rfl, H2.out.2⟩
set_option maxHeartbeats 2000000 in
set_option maxRecDepth 100000 in
theorem Sync_hit (d mb rb k : Nat) (hk : k < 4611686018427387904) (g m cu : Nat) (pu : Option Addr) (S : Value) (fr : Bool) (s : ByteArray) (Ψ : World → World → Prop) (w : World) (hm : Mm w [(d, [Value.map (some mb), Value.map (some rb), Value.int .i64 ((k : Nat) : Int)]), (g, [S, Value.slice pu m cu, Value.bool fr])]) (hlr0 : ∀ u, Kp d w u → (Instr.lookup 40 (.map (some rb)) (.int .i64 ((k + 1 : Nat) : Int)) true).run Try.prog u = .ok (.tuple #[.agg ([] : List Value).toArray, .bool false]) u) (hlk0 : ∀ u, Kp d w u → (Instr.lookup 39 (.map (some mb)) (.string s) false).run Try.prog u = .ok (PT g 0) u) (hst0 : ∀ u, Kp d w u → Mm u [(d, [Value.map (some mb), Value.map (some rb), Value.int .i64 ((k + 1 : Nat) : Int)])] → Calls Try.prog 73 #[PT g 0, .int .i64 ((m : Nat) : Int), .int .i64 0] u fun e u' => ∃ x, e = .returned (.bool x) ∧ Ψ u u') :
    Calls Try.prog 21 #[PT d 0, .string s] w fun e w' => e = .returned (.int .i64 0) ∧ Aft (fun u => Kp d w u ∧ Mm u [(d, [Value.map (some mb), Value.map (some rb), Value.int .i64 ((k + 1 : Nat) : Int)])]) Ψ w' := by
  have H0 : Hid (_ ∧ _) := ⟨hm, Kp.refl d w⟩
  clear hm
  have hlr : Hid _ := hlr0
  clear hlr0
  have hlk : Hid _ := hlk0
  clear hlk0
  have hst : Hid _ := hst0
  clear hst0
  go_enter Try.func21, Try.ntmps21
  refine wp_seq ?_
  refine sq_startW (l := [0]) rfl (fun u0 hu0 => ?_)
  have H1 : Hid (Mm u0 [(d, [Value.map (some mb), Value.map (some rb), Value.int .i64 ((k : Nat) : Int)]), (g, [S, Value.slice pu m cu, Value.bool fr])] ∧ Kp d w u0) := by rw [hu0]; exact H0
  clear hu0 H0
  refine rest_set (d := 4) (v := .int .i64 0) (w' := u0) rfl rfl rfl (rfl) ?_
  simp only [Act.put, sa, sz, ss]
  refine rest_nil (then_normal (wp_seq ?_))
  refine sq_start (l := [0, 1, 2, 3, 4, 5, 6, 7]) rfl ?_
  refine rest_set (d := 8) (v := PT d 0) (w' := u0) rfl rfl rfl (rfl) ?_
  simp only [Act.put, sa, sz, ss]
  refine rest_set (d := 9) (v := .string s) (w' := u0) rfl rfl rfl (rfl) ?_
  simp only [Act.put, sa, sz, ss]
  refine rest_enter (d := 10) (R := fun vv w' => vv = .tuple #[PT g 0, .int .i64 0] ∧ Mm w' [(d, [Value.map (some mb), Value.map (some rb), Value.int .i64 ((k + 1 : Nat) : Int)])] ∧ Kp d u0 w') rfl rfl rfl (exec_call (args := #[PT d 0, .string s]) rfl call72 rfl (mpn rfl)) (Calls.mono (counted_hit d mb rb k hk g s u0 (H1.out.1.one 0 rfl) (fun u hu => hlr.out u (H1.out.2.join hu)) (fun u hu => hlk.out u (H1.out.2.join hu))) (fun e w2 hh => ⟨_, hh.1, rfl, hh.2⟩)) ?_
  rintro _ w2 ⟨rfl, hn, hp⟩
  have H2 : Hid (Mm w2 [(d, [Value.map (some mb), Value.map (some rb), Value.int .i64 ((k + 1 : Nat) : Int)]), (g, [S, Value.slice pu m cu, Value.bool fr])] ∧ Kp d w w2) := ⟨H1.out.1.change 0 rfl hp hn, H1.out.2.join hp⟩
  clear hn hp
  clear H1
  simp only [Act.put, sa, sz, ss]
  refine rest_set (d := 7) (v := .tuple #[PT g 0, .int .i64 0]) (w' := w2) rfl rfl rfl (rfl) ?_
  simp only [Act.put, sa, sz, ss]
  refine rest_set (d := 11) (v := PT g 0) (w' := w2) rfl rfl rfl (by go_simp) ?_
  simp only [Act.put, sa, sz, ss]
  refine rest_set (d := 12) (v := .int .i64 0) (w' := w2) rfl rfl rfl (by go_simp) ?_
  simp only [Act.put, sa, sz, ss]
  refine rest_set (d := 5) (v := PT g 0) (w' := w2) rfl rfl rfl (rfl) ?_
  simp only [Act.put, sa, sz, ss]
  refine rest_set (d := 6) (v := .int .i64 0) (w' := w2) rfl rfl rfl (rfl) ?_
  simp only [Act.put, sa, sz, ss]
  refine rest_nil (then_normal ?_)
  refine wp_seq (wp_seq ?_)
  refine sq_start (l := [0, 1]) rfl ?_
  refine rest_set (d := 13) (v := .int .i64 0) (w' := w2) rfl rfl rfl (rfl) ?_
  simp only [Act.put, sa, sz, ss]
  refine rest_set (d := 14) (v := .bool false) (w' := w2) rfl rfl rfl (by kernel_rfl) ?_
  simp only [Act.put, sa, sz, ss]
  refine rest_nil (then_normal ?_)
  refine wp_cond_false rfl (wp_skip ?_)
  refine then_normal (wp_seq ?_)
  refine sq_start (l := [0, 1, 2, 3, 4, 5, 6]) rfl ?_
  refine rest_set (d := 16) (v := PT g 0) (w' := w2) rfl rfl rfl (rfl) ?_
  simp only [Act.put, sa, sz, ss]
  refine rest_set (d := 17) (v := PT g 0) (w' := w2) rfl rfl rfl (rfl) ?_
  simp only [Act.put, sa, sz, ss]
  refine rest_set (d := 18) (v := PT g 0) (w' := w2) rfl rfl rfl (by go_simp) ?_
  simp only [Act.put, sa, sz, ss]
  refine rest_set (d := 19) (v := PT g 1) (w' := w2) rfl rfl rfl (by go_simp) ?_
  simp only [Act.put, sa, sz, ss]
  refine rest_set (d := 20) (v := .slice pu m cu) (w' := w2) rfl rfl rfl (ex_loadC H2.out.1 1 rfl rfl rfl Try.isAgg115 rfl) ?_
  simp only [Act.put, sa, sz, ss]
  refine rest_set (d := 21) (v := .int .i64 ((m : Nat) : Int)) (w' := w2) rfl rfl rfl (by go_simp) ?_
  simp only [Act.put, sa, sz, ss]
  refine rest_enter (d := 22) (R := fun vv w' => (∃ x, vv = .bool x) ∧ Ψ w2 w') rfl rfl rfl (exec_call (args := #[PT g 0, .int .i64 ((m : Nat) : Int), .int .i64 0]) rfl call73 rfl (mpn rfl)) (Calls.mono (hst.out w2 H2.out.2 (H2.out.1.one 0 rfl)) (fun e w2 hh => by obtain ⟨x, he, hO⟩ := hh; exact ⟨_, he, ⟨x, rfl⟩, hO⟩)) ?_
  rintro _ w3 ⟨⟨bx, rfl⟩, hO⟩
  have H3 : Hid (Mm w3 [] ∧ Aft (fun u => Kp d w u ∧ Mm u [(d, [Value.map (some mb), Value.map (some rb), Value.int .i64 ((k + 1 : Nat) : Int)])]) Ψ w3) := ⟨Mm.nil _, ⟨w2, w3, ⟨H2.out.2, H2.out.1.one 0 rfl⟩, hO, Below.refl _ _⟩⟩
  clear hO H2
  simp only [Act.put, sa, sz, ss]
  refine rest_nil (then_normal (wp_seq ?_))
  refine sq_start (l := [0]) rfl ?_
  refine rest_set (d := 4) (v := .int .i64 0) (w' := w3) rfl rfl rfl (rfl) ?_
  simp only [Act.put, sa, sz, ss]
  refine rest_nil (then_normal (wp_ret ?_))
  repeat (first | refine then_ret ?_ | refine block_ret ?_)
  refine bodyPost_ret (v := .int .i64 0) (by simp [results, Try.results21, go_sem, *]) rfl ?_
  exact ⟨rfl, H3.out.2⟩
end Wi
end Rg
end Go.Proofs.Ytidicdlfjdlpnaa
end
section
namespace Go.Proofs.Ytidicdlfjdlpnaa
open Go.RowKit
namespace Rg
namespace Wi
set_option maxRecDepth 100000
theorem nm_inj : ∀ {l : List Fq}, (l.map Fq.nm).Nodup → ∀ {x y : Fq}, x ∈ l → y ∈ l → x.nm = y.nm → x = y
  | [], _, x, _, hx, _, _ => by cases hx
  | a :: r, h, x, y, hx, hy, e => by
    rw [List.map_cons, List.nodup_cons] at h
    rcases List.mem_cons.1 hx with hx | hx
    · rcases List.mem_cons.1 hy with hy | hy
      · rw [hx, hy]
      · exact absurd (by rw [← hx, e]; exact List.mem_map_of_mem hy) h.1
    · rcases List.mem_cons.1 hy with hy | hy
      · exact absurd (by rw [← hy, ← e]; exact List.mem_map_of_mem hx) h.1
      · exact nm_inj h.2 hx hy e
def Dq.tick (D : Dq) : Dq := ⟨D.d, D.mb, D.rb, D.k + 1, D.fs, D.rf⟩
theorem DOk.tick {w u : World} {D : Dq} (h : DOk w D) (hk : D.k + 1 < 4611686018427387904) (hp : Kp D.d w u) (hm : Mm u [(D.d, [Value.map (some D.mb), Value.map (some D.rb), Value.int .i64 ((D.k + 1 : Nat) : Int)])]) : DOk u D.tick := by
  obtain ⟨X, x1, x2, x3, x4⟩ := h.mp
  obtain ⟨n, Y, y1, y2⟩ := h.rm
  exact ⟨hm, ⟨X, ownMap_keep x1 (hp.block _ x1.lt h.h3.1.symm), x2, x3, x4⟩, ⟨n, Y, ownMap_keep y1 (hp.block _ y1.lt h.h3.2.1.symm), y2⟩, fun f hf => (h.fl f hf).chg (Kp.chg hp) (fun x hx hm => ((h.hd f hf) x hx).1 (List.mem_singleton.1 hm)), h.ap, h.hd, h.h3, h.un, hk, h.n64⟩
/-- A disk in which a file has become another. -/
def swp (f f' x : Fq) : Fq := if x.nm = f.nm then f' else x
def Dq.swap (D : Dq) (f f' : Fq) : Dq := ⟨D.d, D.mb, D.rb, D.k, D.fs.map (swp f f'), D.rf⟩
theorem swp_nm {f f' : Fq} (h : f'.nm = f.nm) (x : Fq) : (swp f f' x).nm = x.nm := by
  unfold swp
  split
  · rename_i e; rw [h, e]
  · rfl
theorem lk_swap {f f' : Fq} (h : f'.nm = f.nm) (fs : List Fq) (s : ByteArray) : lk (fs.map (swp f f')) s = (lk fs s).map (swp f f') := by
  unfold lk
  rw [List.find?_map]
  congr 1
  congr 1
  funext x
  show decide ((swp f f' x).nm = s) = decide (x.nm = s)
  rw [swp_nm h]
theorem DOk.swap {w w' : World} {D : Dq} {f f' : Fq} (h : DOk w D) (hf : f ∈ D.fs) (hn : f'.nm = f.nm) (hg : f'.g = f.g) (hF : FOk w' f') (hc : Chg f.bl w w') (hb : ∀ x ∈ f'.bl, x ∈ f.bl ∨ w.heap.size ≤ x) : DOk w' (D.swap f f') := by
  obtain ⟨X, x1, x2, x3, x4⟩ := h.mp
  obtain ⟨n, Y, y1, y2⟩ := h.rm
  have hdl : D.d < w.heap.size := (h.cel.blk _ (List.mem_cons_self ..)).1
  have hsg : ∀ x ∈ D.fs, (swp f f' x).g = x.g := fun x hx => by
    unfold swp
    split
    · rename_i e; rw [hg, nm_inj h.un hx hf e]
    · rfl
  have key : ∀ x ∈ D.fs, (x = f ∧ swp f f' x = f') ∨ (x.nm ≠ f.nm ∧ swp f f' x = x) := fun x hx => by
    by_cases e : x.nm = f.nm
    · exact .inl ⟨nm_inj h.un hx hf e, by unfold swp; rw [if_pos e]⟩
    · exact .inr ⟨e, by unfold swp; rw [if_neg e]⟩
  refine ⟨hc.mm h.cel (fun p hp hm => ?_), ⟨X, (show (D.swap f f').fs.length = D.fs.length from List.length_map ..) ▸ ownMap_keep x1 (hc.block _ x1.lt (fun hm => ((h.hd f hf) _ hm).2.1 rfl)), fun s => ?_, fun s => ?_, ?_⟩, ⟨n, Y, ownMap_keep y1 (hc.block _ y1.lt (fun hm => ((h.hd f hf) _ hm).2.2 rfl)), y2⟩, fun y hy => ?_, fun y hy z hz hne x hx => ?_, fun y hy x hx => ?_, h.h3, ?_, h.k1, by show (D.fs.map (swp f f')).length ≤ 64; rw [List.length_map]; exact h.n64⟩
  · obtain rfl := List.mem_singleton.1 hp
    exact ((h.hd f hf) _ hm).1 rfl
  · rw [x2 s]
    show dv (lk D.fs s) = dv (lk (D.fs.map (swp f f')) s)
    rw [lk_swap hn]
    cases hl : lk D.fs s with
    | none => rfl
    | some x => exact congrArg DataW.held (hsg x (lk_mem hl).1).symm
  · rw [x3 s]
    show (lk D.fs s).isSome = (lk (D.fs.map (swp f f')) s).isSome
    rw [lk_swap hn, Option.isSome_map]
  · rw [x4]
    exact (List.length_map ..).symm
  · obtain ⟨x, hx, rfl⟩ := List.mem_map.1 hy
    rcases key x hx with ⟨_, e⟩ | ⟨e1, e⟩
    · rw [e]; exact hF
    · rw [e]; exact (h.fl x hx).chg hc (h.ap x hx f hf e1)
  · obtain ⟨y0, hy0, rfl⟩ := List.mem_map.1 hy
    obtain ⟨z0, hz0, rfl⟩ := List.mem_map.1 hz
    rw [swp_nm hn, swp_nm hn] at hne
    have hlt : ∀ v ∈ D.fs, ∀ x ∈ v.bl, x < w.heap.size := fun v hv => (h.fl v hv).lt
    rcases key y0 hy0 with ⟨a1, a2⟩ | ⟨a1, a2⟩ <;> rcases key z0 hz0 with ⟨b1, b2⟩ | ⟨b1, b2⟩
    · exact absurd (by rw [a1, b1]) hne
    · rw [a2] at hx
      rw [b2]
      rcases hb x hx with e | e
      · exact h.ap f hf z0 hz0 (fun e => b1 e.symm) x e
      · exact fun hm => by have := hlt z0 hz0 x hm; omega
    · rw [a2] at hx
      rw [b2]
      intro hm
      rcases hb x hm with e | e
      · exact h.ap y0 hy0 f hf a1 x hx e
      · have := hlt y0 hy0 x hx; omega
    · rw [a2] at hx
      rw [b2]
      exact h.ap y0 hy0 z0 hz0 hne x hx
  · obtain ⟨y0, hy0, rfl⟩ := List.mem_map.1 hy
    rcases key y0 hy0 with ⟨_, a2⟩ | ⟨_, a2⟩
    · rw [a2] at hx
      rcases hb x hx with e | e
      · exact (h.hd f hf) x e
      · have m1 := x1.lt
        have m2 := y1.lt
        exact ⟨by show x ≠ D.d; omega, by show x ≠ D.mb; omega, by show x ≠ D.rb; omega⟩
    · rw [a2] at hx
      exact (h.hd y0 hy0) x hx
  · show ((D.fs.map (swp f f')).map Fq.nm).Nodup
    rw [List.map_map, show Fq.nm ∘ swp f f' = Fq.nm from funext (swp_nm hn)]
    exact h.un
theorem DOk.below {w w' : World} {D : Dq} (h : DOk w D) (hb : Below w.heap.size w w') : DOk w' D := by
  obtain ⟨X, x1, x2, x3, x4⟩ := h.mp
  obtain ⟨n, Y, y1, y2⟩ := h.rm
  exact ⟨h.cel.below hb, ⟨X, ownMap_keep x1 (hb.block _ x1.lt), x2, x3, x4⟩, ⟨n, Y, ownMap_keep y1 (hb.block _ y1.lt), y2⟩, fun f hf => (h.fl f hf).below hb, h.ap, h.hd, h.h3, h.un, h.k1, h.n64⟩
/-- All blocks of a disk. -/
def Dq.bl (D : Dq) : List Nat := D.d :: D.mb :: D.rb :: D.fs.flatMap Fq.bl
theorem wf_i64 (a : Int) (h0 : 0 ≤ a) (h1 : a ≤ 9223372036854775807) : (Lit.int .i64 a).wf = true := by
  have e1 : IntKind.i64.min = -9223372036854775808 := by decide
  have e2 : IntKind.i64.max = 9223372036854775807 := by decide
  simp only [Lit.wf, Bool.and_eq_true, decide_eq_true_eq]
  exact ⟨by rw [e1]; omega, by rw [e2]; exact h1⟩
theorem DOk.lookR {w u : World} {D : Dq} (h : DOk w D) (hu : u.heap[D.rb]? = w.heap[D.rb]?) : (Instr.lookup 40 (.map (some D.rb)) (.int .i64 ((D.k + 1 : Nat) : Int)) true).run Try.prog u = .ok (.tuple #[.agg ([] : List Value).toArray, .bool (D.rf (D.k + 1))]) u := by
  obtain ⟨n, Y, y1, y2⟩ := h.rm
  have hk := h.k1
  have hw : (Lit.int .i64 ((D.k + 1 : Nat) : Int)).wf = true := wf_i64 _ (by omega) (by omega)
  obtain ⟨v, ps, hr, hv⟩ := (ownMap_keep y1 hu).look_ok (Maps.int_keyed Try.underlying3) Try.underlying40 (z := .agg ([] : List Value).toArray) (by kernel_rfl) (zd := .nil) (zp := []) rfl (Maps.keyOf_int_mk Try.underlying3 hw)
  rw [hr, RU_inv hv, y2 (D.k + 1) (by omega)]
theorem Sync_f (D : Dq) (s : ByteArray) (hs : s.size ≤ maxLen) (w : World) (h : DOk w D) (hk : D.k + 1 < 4611686018427387904) : Calls Try.prog 21 #[PT D.d 0, .string s] w fun e w' =>
    if D.rf (D.k + 1) then e = .returned (.int .i64 13) ∧ DOk w' D.tick ∧ Chg D.bl w w' else match lk D.fs s with
    | none => e = .returned (.int .i64 6) ∧ DOk w' D.tick ∧ Chg D.bl w w'
    | some f => e = .returned (.int .i64 0) ∧ ∃ s', DOk w' (D.tick.swap f (f.set s' f.ops.length 0)) ∧ Chg D.bl w w' ∧ ∀ x ∈ (f.set s' f.ops.length 0).bl, x ∈ f.bl ∨ w.heap.size ≤ x := by
  have hlt : D.mb < w.heap.size := by obtain ⟨X, h1, _⟩ := h.mp; exact h1.lt
  have hlr : D.rb < w.heap.size := by obtain ⟨n, Y, h1, _⟩ := h.rm; exact h1.lt
  have kr : ∀ u, Kp D.d w u → u.heap[D.rb]? = w.heap[D.rb]? := fun u hu => hu.block _ hlr h.h3.2.1.symm
  have km : ∀ u, Kp D.d w u → u.heap[D.mb]? = w.heap[D.mb]? := fun u hu => hu.block _ hlt h.h3.1.symm
  have kc : ∀ u, Kp D.d w u → Chg D.bl w u := fun u hu => (Kp.chg hu).mono (fun x hx => .inl (by rw [List.mem_singleton.1 hx]; exact List.mem_cons_self ..))
  cases hr : D.rf (D.k + 1) with
  | true =>
    refine (Sync_no D.d D.mb D.rb D.k h.k1 s w h.cel (fun u hu => by rw [h.lookR (kr u hu), hr])).mono fun e w' hh => ?_
    rw [if_pos rfl]
    exact ⟨hh.1, h.tick hk hh.2.2 hh.2.1, kc w' hh.2.2⟩
  | false =>
    cases hl : lk D.fs s with
    | none =>
      refine (Sync_miss D.d D.mb D.rb D.k h.k1 s w h.cel (fun u hu => by rw [h.lookR (kr u hu), hr]) (fun u hu => by rw [h.look s hs (km u hu), hl]; rfl)).mono fun e w' hh => ?_
      rw [if_neg (by decide)]
      exact ⟨hh.1, h.tick hk hh.2.2 hh.2.1, kc w' hh.2.2⟩
    | some f =>
      have hm := (lk_mem hl).1
      have hf := h.fl f hm
      obtain ⟨pu, cu, eu, _⟩ := own_slice hf.fi.und
      have hc := hf.cel
      rw [eu] at hc
      have hne : D.d ≠ f.g := fun e => ((h.hd f hm) f.g (List.mem_cons_self ..)).1 e.symm
      have hM : Mm w [(D.d, [Value.map (some D.mb), Value.map (some D.rb), Value.int .i64 ((D.k : Nat) : Int)]), (f.g, [f.s, Value.slice pu f.ops.length cu, Value.bool f.fr])] := hc.cons (h.cel.blk _ (List.mem_cons_self ..)).2 (h.cel.blk _ (List.mem_cons_self ..)).1 (fun p hp => by obtain rfl := List.mem_singleton.1 hp; exact hne.symm)
      refine (Sync_hit D.d D.mb D.rb D.k h.k1 f.g f.ops.length cu pu f.s f.fr s (fun u u' => ∃ s', DOk u' (D.tick.swap f (f.set s' f.ops.length 0)) ∧ Chg f.bl u u' ∧ ∀ x ∈ (f.set s' f.ops.length 0).bl, x ∈ f.bl ∨ u.heap.size ≤ x) w hM (fun u hu => by rw [h.lookR (kr u hu), hr]) (fun u hu => by rw [h.look s hs (km u hu), hl]; rfl) (fun u hu hm2 => ?_)).mono fun e w' hh => ?_
      · have ht := h.tick hk hu hm2
        refine (settle_f f f.ops.length 0 u (ht.fl f hm)).mono fun e u' hh => ?_
        obtain ⟨h1, s', h2, h3⟩ := hh
        obtain ⟨g1, g2, g3⟩ := (ht.fl f hm).settled h2 h3
        exact ⟨_, h1, s', ht.swap hm rfl rfl g1 g2 g3, g2, g3⟩
      · obtain ⟨h1, u1, u2, ⟨a1, a2⟩, ⟨s', a3, a4, a6⟩, a5⟩ := hh
        rw [if_neg (by decide)]
        exact ⟨h1, s', a3.below a5, ((kc u1 a1).trans a4 (fun x hx => .inl (by unfold Dq.bl; simp only [List.mem_cons, List.mem_flatMap]; exact .inr (.inr (.inr ⟨f, hm, hx⟩))))).below a5, fun x hx => (a6 x hx).imp_right (Nat.le_trans a1.size)⟩
end Wi
end Rg
end Go.Proofs.Ytidicdlfjdlpnaa
end
section
namespace Go.Proofs.Ytidicdlfjdlpnaa
open Go.RowKit
namespace Rg
namespace Wi
theorem call69 : ∀ args w, (callFunc 69 args).run Try.prog w = .ok (.enter 69 args) w := by intro args w; go_simp
set_option maxRecDepth 100000
set_option maxHeartbeats 2000000 in
set_option maxRecDepth 100000 in
theorem Cut_no (d : Nat) (s : ByteArray) (c : Int) (I0 I1 : World → Prop) (w : World) (h0 : I0 w) (s0z : ∀ u u', I0 u → Below u.heap.size u u' → I0 u') (s1z : ∀ u u', I1 u → Below u.heap.size u u' → I1 u') (hcdz : ∀ u, I0 u → Calls Try.prog 72 #[PT d 0, .string s] u fun e u' => e = .returned (.tuple #[.pointer none, .int .i64 13]) ∧ I1 u') :
    Calls Try.prog 20 #[PT d 0, .string s, .int .i64 c] w fun e w' => e = .returned (.int .i64 13) ∧ I1 w' := by
  have H0 : Hid (_ ∧ _) := ⟨Mm.nil w, h0⟩
  have s0 : Hid _ := s0z
  have s1 : Hid _ := s1z
  have hcd : Hid _ := hcdz
  clear h0 s0z s1z hcdz
  go_enter Try.func20, Try.ntmps20
  refine wp_seq ?_
  refine sq_startW (l := [0]) rfl (fun u0 hu0 => ?_)
  have H1 : Hid (Mm u0 [] ∧ I0 u0) := by rw [hu0]; exact H0
  clear hu0 H0
  refine rest_set (d := 6) (v := .int .i64 0) (w' := u0) rfl rfl rfl (rfl) ?_
  simp only [Act.put, sa, sz, ss]
  refine rest_nil (then_normal (wp_seq ?_))
  refine sq_start (l := [0, 1, 2, 3, 4, 5, 6, 7]) rfl ?_
  refine rest_set (d := 10) (v := PT d 0) (w' := u0) rfl rfl rfl (rfl) ?_
  simp only [Act.put, sa, sz, ss]
  refine rest_set (d := 11) (v := .string s) (w' := u0) rfl rfl rfl (rfl) ?_
  simp only [Act.put, sa, sz, ss]
  refine rest_enter (d := 12) (R := fun vv w' => vv = .tuple #[.pointer none, .int .i64 13] ∧ I1 w') rfl rfl rfl (exec_call (args := #[PT d 0, .string s]) rfl call72 rfl (mpn rfl)) (Calls.mono (hcd.out u0 H1.out.2) (fun e w2 hh => ⟨_, hh.1, rfl, hh.2⟩)) ?_
  rintro _ w2 ⟨rfl, hI⟩
  have H2 : Hid (Mm w2 [] ∧ I1 w2) := ⟨Mm.nil _, hI⟩
  clear hI H1
  simp only [Act.put, sa, sz, ss]
  refine rest_set (d := 9) (v := .tuple #[.pointer none, .int .i64 13]) (w' := w2) rfl rfl rfl (rfl) ?_
  simp only [Act.put, sa, sz, ss]
  refine rest_set (d := 13) (v := .pointer none) (w' := w2) rfl rfl rfl (by go_simp) ?_
  simp only [Act.put, sa, sz, ss]
  refine rest_set (d := 14) (v := .int .i64 13) (w' := w2) rfl rfl rfl (by go_simp) ?_
  simp only [Act.put, sa, sz, ss]
  refine rest_set (d := 7) (v := .pointer none) (w' := w2) rfl rfl rfl (rfl) ?_
  simp only [Act.put, sa, sz, ss]
  refine rest_set (d := 8) (v := .int .i64 13) (w' := w2) rfl rfl rfl (rfl) ?_
  simp only [Act.put, sa, sz, ss]
  refine rest_nil (then_normal ?_)
  refine wp_seq (wp_seq ?_)
  refine sq_start (l := [0, 1]) rfl ?_
  refine rest_set (d := 15) (v := .int .i64 13) (w' := w2) rfl rfl rfl (rfl) ?_
  simp only [Act.put, sa, sz, ss]
  refine rest_set (d := 16) (v := .bool true) (w' := w2) rfl rfl rfl (by kernel_rfl) ?_
  simp only [Act.put, sa, sz, ss]
  refine rest_nil (then_normal ?_)
  refine wp_cond_true rfl (wp_seq ?_)
  refine sq_start (l := [0, 1]) rfl ?_
  refine rest_set (d := 17) (v := .int .i64 13) (w' := w2) rfl rfl rfl (rfl) ?_
  simp only [Act.put, sa, sz, ss]
  refine rest_set (d := 6) (v := .int .i64 13) (w' := w2) rfl rfl rfl (rfl) ?_
  simp only [Act.put, sa, sz, ss]
  refine rest_nil (then_normal (wp_ret ?_))
  repeat (first | refine then_ret ?_ | refine block_ret ?_)
  refine bodyPost_ret (v := .int .i64 13) (by simp [results, Try.results20, go_sem, *]) rfl ?_
  exact ⟨rfl, H2.out.2⟩
set_option maxHeartbeats 2000000 in
set_option maxRecDepth 100000 in
theorem Cut_miss (d : Nat) (s : ByteArray) (c : Int) (I0 I1 : World → Prop) (w : World) (h0 : I0 w) (s0z : ∀ u u', I0 u → Below u.heap.size u u' → I0 u') (s1z : ∀ u u', I1 u → Below u.heap.size u u' → I1 u') (hcdz : ∀ u, I0 u → Calls Try.prog 72 #[PT d 0, .string s] u fun e u' => e = .returned (.tuple #[.pointer none, .int .i64 6]) ∧ I1 u') :
    Calls Try.prog 20 #[PT d 0, .string s, .int .i64 c] w fun e w' => e = .returned (.int .i64 6) ∧ I1 w' := by
  have H0 : Hid (_ ∧ _) := ⟨Mm.nil w, h0⟩
  have s0 : Hid _ := s0z
  have s1 : Hid _ := s1z
  have hcd : Hid _ := hcdz
  clear h0 s0z s1z hcdz
  go_enter Try.func20, Try.ntmps20
  refine wp_seq ?_
  refine sq_startW (l := [0]) rfl (fun u0 hu0 => ?_)
  have H1 : Hid (Mm u0 [] ∧ I0 u0) := by rw [hu0]; exact H0
  clear hu0 H0
  refine rest_set (d := 6) (v := .int .i64 0) (w' := u0) rfl rfl rfl (rfl) ?_
  simp only [Act.put, sa, sz, ss]
  refine rest_nil (then_normal (wp_seq ?_))
  refine sq_start (l := [0, 1, 2, 3, 4, 5, 6, 7]) rfl ?_
  refine rest_set (d := 10) (v := PT d 0) (w' := u0) rfl rfl rfl (rfl) ?_
  simp only [Act.put, sa, sz, ss]
  refine rest_set (d := 11) (v := .string s) (w' := u0) rfl rfl rfl (rfl) ?_
  simp only [Act.put, sa, sz, ss]
  refine rest_enter (d := 12) (R := fun vv w' => vv = .tuple #[.pointer none, .int .i64 6] ∧ I1 w') rfl rfl rfl (exec_call (args := #[PT d 0, .string s]) rfl call72 rfl (mpn rfl)) (Calls.mono (hcd.out u0 H1.out.2) (fun e w2 hh => ⟨_, hh.1, rfl, hh.2⟩)) ?_
  rintro _ w2 ⟨rfl, hI⟩
  have H2 : Hid (Mm w2 [] ∧ I1 w2) := ⟨Mm.nil _, hI⟩
  clear hI H1
  simp only [Act.put, sa, sz, ss]
  refine rest_set (d := 9) (v := .tuple #[.pointer none, .int .i64 6]) (w' := w2) rfl rfl rfl (rfl) ?_
  simp only [Act.put, sa, sz, ss]
  refine rest_set (d := 13) (v := .pointer none) (w' := w2) rfl rfl rfl (by go_simp) ?_
  simp only [Act.put, sa, sz, ss]
  refine rest_set (d := 14) (v := .int .i64 6) (w' := w2) rfl rfl rfl (by go_simp) ?_
  simp only [Act.put, sa, sz, ss]
  refine rest_set (d := 7) (v := .pointer none) (w' := w2) rfl rfl rfl (rfl) ?_
  simp only [Act.put, sa, sz, ss]
  refine rest_set (d := 8) (v := .int .i64 6) (w' := w2) rfl rfl rfl (rfl) ?_
  simp only [Act.put, sa, sz, ss]
  refine rest_nil (then_normal ?_)
  refine wp_seq (wp_seq ?_)
  refine sq_start (l := [0, 1]) rfl ?_
  refine rest_set (d := 15) (v := .int .i64 6) (w' := w2) rfl rfl rfl (rfl) ?_
  simp only [Act.put, sa, sz, ss]
  refine rest_set (d := 16) (v := .bool true) (w' := w2) rfl rfl rfl (by kernel_rfl) ?_
  simp only [Act.put, sa, sz, ss]
  refine rest_nil (then_normal ?_)
  refine wp_cond_true rfl (wp_seq ?_)
  refine sq_start (l := [0, 1]) rfl ?_
  refine rest_set (d := 17) (v := .int .i64 6) (w' := w2) rfl rfl rfl (rfl) ?_
  simp only [Act.put, sa, sz, ss]
  refine rest_set (d := 6) (v := .int .i64 6) (w' := w2) rfl rfl rfl (rfl) ?_
  simp only [Act.put, sa, sz, ss]
  refine rest_nil (then_normal (wp_ret ?_))
  repeat (first | refine then_ret ?_ | refine block_ret ?_)
  refine bodyPost_ret (v := .int .i64 6) (by simp [results, Try.results20, go_sem, *]) rfl ?_
  exact ⟨rfl, H2.out.2⟩
set_option maxHeartbeats 2000000 in
set_option maxRecDepth 100000 in
theorem Cut_low (d g : Nat) (s : ByteArray) (c : Int) (hc : c < 0) (I0 I1 : World → Prop) (w : World) (h0 : I0 w) (s0z : ∀ u u', I0 u → Below u.heap.size u u' → I0 u') (s1z : ∀ u u', I1 u → Below u.heap.size u u' → I1 u') (hcdz : ∀ u, I0 u → Calls Try.prog 72 #[PT d 0, .string s] u fun e u' => e = .returned (.tuple #[PT g 0, .int .i64 0]) ∧ I1 u') :
    Calls Try.prog 20 #[PT d 0, .string s, .int .i64 c] w fun e w' => e = .returned (.int .i64 2) ∧ I1 w' := by
  have H0 : Hid (_ ∧ _) := ⟨Mm.nil w, h0⟩
  have s0 : Hid _ := s0z
  have s1 : Hid _ := s1z
  have hcd : Hid _ := hcdz
  clear h0 s0z s1z hcdz
  go_enter Try.func20, Try.ntmps20
  refine wp_seq ?_
  refine sq_startW (l := [0]) rfl (fun u0 hu0 => ?_)
  have H1 : Hid (Mm u0 [] ∧ I0 u0) := by rw [hu0]; exact H0
  clear hu0 H0
  refine rest_set (d := 6) (v := .int .i64 0) (w' := u0) rfl rfl rfl (rfl) ?_
  simp only [Act.put, sa, sz, ss]
  refine rest_nil (then_normal (wp_seq ?_))
  refine sq_start (l := [0, 1, 2, 3, 4, 5, 6, 7]) rfl ?_
  refine rest_set (d := 10) (v := PT d 0) (w' := u0) rfl rfl rfl (rfl) ?_
  simp only [Act.put, sa, sz, ss]
  refine rest_set (d := 11) (v := .string s) (w' := u0) rfl rfl rfl (rfl) ?_
  simp only [Act.put, sa, sz, ss]
  refine rest_enter (d := 12) (R := fun vv w' => vv = .tuple #[PT g 0, .int .i64 0] ∧ I1 w') rfl rfl rfl (exec_call (args := #[PT d 0, .string s]) rfl call72 rfl (mpn rfl)) (Calls.mono (hcd.out u0 H1.out.2) (fun e w2 hh => ⟨_, hh.1, rfl, hh.2⟩)) ?_
  rintro _ w2 ⟨rfl, hI⟩
  have H2 : Hid (Mm w2 [] ∧ I1 w2) := ⟨Mm.nil _, hI⟩
  clear hI H1
  simp only [Act.put, sa, sz, ss]
  refine rest_set (d := 9) (v := .tuple #[PT g 0, .int .i64 0]) (w' := w2) rfl rfl rfl (rfl) ?_
  simp only [Act.put, sa, sz, ss]
  refine rest_set (d := 13) (v := PT g 0) (w' := w2) rfl rfl rfl (by go_simp) ?_
  simp only [Act.put, sa, sz, ss]
  refine rest_set (d := 14) (v := .int .i64 0) (w' := w2) rfl rfl rfl (by go_simp) ?_
  simp only [Act.put, sa, sz, ss]
  refine rest_set (d := 7) (v := PT g 0) (w' := w2) rfl rfl rfl (rfl) ?_
  simp only [Act.put, sa, sz, ss]
  refine rest_set (d := 8) (v := .int .i64 0) (w' := w2) rfl rfl rfl (rfl) ?_
  simp only [Act.put, sa, sz, ss]
  refine rest_nil (then_normal ?_)
  refine wp_seq (wp_seq ?_)
  refine sq_start (l := [0, 1]) rfl ?_
  refine rest_set (d := 15) (v := .int .i64 0) (w' := w2) rfl rfl rfl (rfl) ?_
  simp only [Act.put, sa, sz, ss]
  refine rest_set (d := 16) (v := .bool false) (w' := w2) rfl rfl rfl (by kernel_rfl) ?_
  simp only [Act.put, sa, sz, ss]
  refine rest_nil (then_normal ?_)
  refine wp_cond_false rfl (wp_skip ?_)
  refine then_normal (wp_seq (wp_seq ?_))
  refine sq_start (l := [0, 1, 2, 3, 4, 5, 6, 7]) rfl ?_
  refine rest_set (d := 18) (v := .int .i64 c) (w' := w2) rfl rfl rfl (rfl) ?_
  simp only [Act.put, sa, sz, ss]
  refine rest_set (d := 19) (v := .bool true) (w' := w2) rfl rfl rfl (by go_simp <;> omega) ?_
  simp only [Act.put, sa, sz, ss]
  refine rest_set (d := 20) (v := .bool true) (w' := w2) rfl rfl rfl (rfl) ?_
  simp only [Act.put, sa, sz, ss]
  refine rest_gone1 (d := 21) rfl rfl rfl ?_
  simp only [Act.put, sa, sz, ss]
  refine rest_gone1 (d := 22) rfl rfl rfl ?_
  simp only [Act.put, sa, sz, ss]
  refine rest_gone1 (d := 23) rfl rfl rfl ?_
  simp only [Act.put, sa, sz, ss]
  refine rest_gone1 (d := 24) rfl rfl rfl ?_
  simp only [Act.put, sa, sz, ss]
  refine rest_set (d := 25) (v := .bool true) (w' := w2) rfl rfl rfl (by go_simp) ?_
  simp only [Act.put, sa, sz, ss]
  refine rest_nil (then_normal ?_)
  refine wp_cond_true rfl (wp_seq ?_)
  refine sq_start (l := [0]) rfl ?_
  refine rest_set (d := 6) (v := .int .i64 2) (w' := w2) rfl rfl rfl (rfl) ?_
  simp only [Act.put, sa, sz, ss]
  refine rest_nil (then_normal (wp_ret ?_))
  repeat (first | refine then_ret ?_ | refine block_ret ?_)
  refine bodyPost_ret (v := .int .i64 2) (by simp [results, Try.results20, go_sem, *]) rfl ?_
  exact ⟨rfl, H2.out.2⟩
set_option maxHeartbeats 2000000 in
set_option maxRecDepth 100000 in
theorem Cut_high (d g N : Nat) (s : ByteArray) (c : Nat) (hc : N < c) (I0 I1 : World → Prop) (w : World) (h0 : I0 w) (s0z : ∀ u u', I0 u → Below u.heap.size u u' → I0 u') (s1z : ∀ u u', I1 u → Below u.heap.size u u' → I1 u') (hcdz : ∀ u, I0 u → Calls Try.prog 72 #[PT d 0, .string s] u fun e u' => e = .returned (.tuple #[PT g 0, .int .i64 0]) ∧ I1 u') (hszz : ∀ u, I1 u → Calls Try.prog 68 #[PT g 0] u fun e u' => e = .returned (.int .i64 ((N : Nat) : Int)) ∧ Below u.heap.size u u') :
    Calls Try.prog 20 #[PT d 0, .string s, .int .i64 ((c : Nat) : Int)] w fun e w' => e = .returned (.int .i64 2) ∧ I1 w' := by
  have H0 : Hid (_ ∧ _) := ⟨Mm.nil w, h0⟩
  have s0 : Hid _ := s0z
  have s1 : Hid _ := s1z
  have hcd : Hid _ := hcdz
  have hsz : Hid _ := hszz
  clear h0 s0z s1z hcdz hszz
  go_enter Try.func20, Try.ntmps20
  refine wp_seq ?_
  refine sq_startW (l := [0]) rfl (fun u0 hu0 => ?_)
  have H1 : Hid (Mm u0 [] ∧ I0 u0) := by rw [hu0]; exact H0
  clear hu0 H0
  refine rest_set (d := 6) (v := .int .i64 0) (w' := u0) rfl rfl rfl (rfl) ?_
  simp only [Act.put, sa, sz, ss]
  refine rest_nil (then_normal (wp_seq ?_))
  refine sq_start (l := [0, 1, 2, 3, 4, 5, 6, 7]) rfl ?_
  refine rest_set (d := 10) (v := PT d 0) (w' := u0) rfl rfl rfl (rfl) ?_
  simp only [Act.put, sa, sz, ss]
  refine rest_set (d := 11) (v := .string s) (w' := u0) rfl rfl rfl (rfl) ?_
  simp only [Act.put, sa, sz, ss]
  refine rest_enter (d := 12) (R := fun vv w' => vv = .tuple #[PT g 0, .int .i64 0] ∧ I1 w') rfl rfl rfl (exec_call (args := #[PT d 0, .string s]) rfl call72 rfl (mpn rfl)) (Calls.mono (hcd.out u0 H1.out.2) (fun e w2 hh => ⟨_, hh.1, rfl, hh.2⟩)) ?_
  rintro _ w2 ⟨rfl, hI⟩
  have H2 : Hid (Mm w2 [] ∧ I1 w2) := ⟨Mm.nil _, hI⟩
  clear hI H1
  simp only [Act.put, sa, sz, ss]
  refine rest_set (d := 9) (v := .tuple #[PT g 0, .int .i64 0]) (w' := w2) rfl rfl rfl (rfl) ?_
  simp only [Act.put, sa, sz, ss]
  refine rest_set (d := 13) (v := PT g 0) (w' := w2) rfl rfl rfl (by go_simp) ?_
  simp only [Act.put, sa, sz, ss]
  refine rest_set (d := 14) (v := .int .i64 0) (w' := w2) rfl rfl rfl (by go_simp) ?_
  simp only [Act.put, sa, sz, ss]
  refine rest_set (d := 7) (v := PT g 0) (w' := w2) rfl rfl rfl (rfl) ?_
  simp only [Act.put, sa, sz, ss]
  refine rest_set (d := 8) (v := .int .i64 0) (w' := w2) rfl rfl rfl (rfl) ?_
  simp only [Act.put, sa, sz, ss]
  refine rest_nil (then_normal ?_)
  refine wp_seq (wp_seq ?_)
  refine sq_start (l := [0, 1]) rfl ?_
  refine rest_set (d := 15) (v := .int .i64 0) (w' := w2) rfl rfl rfl (rfl) ?_
  simp only [Act.put, sa, sz, ss]
  refine rest_set (d := 16) (v := .bool false) (w' := w2) rfl rfl rfl (by kernel_rfl) ?_
  simp only [Act.put, sa, sz, ss]
  refine rest_nil (then_normal ?_)
  refine wp_cond_false rfl (wp_skip ?_)
  refine then_normal (wp_seq (wp_seq ?_))
  refine sq_start (l := [0, 1, 2, 3, 4, 5, 6, 7]) rfl ?_
  refine rest_set (d := 18) (v := .int .i64 ((c : Nat) : Int)) (w' := w2) rfl rfl rfl (rfl) ?_
  simp only [Act.put, sa, sz, ss]
  refine rest_set (d := 19) (v := .bool false) (w' := w2) rfl rfl rfl (by go_simp <;> omega) ?_
  simp only [Act.put, sa, sz, ss]
  refine rest_set (d := 20) (v := .bool false) (w' := w2) rfl rfl rfl (rfl) ?_
  simp only [Act.put, sa, sz, ss]
  refine rest_set (d := 21) (v := .int .i64 ((c : Nat) : Int)) (w' := w2) rfl rfl rfl (rfl) ?_
  simp only [Act.put, sa, sz, ss]
  refine rest_set (d := 22) (v := PT g 0) (w' := w2) rfl rfl rfl (rfl) ?_
  simp only [Act.put, sa, sz, ss]
  refine rest_enter (d := 23) (R := fun vv w' => vv = .int .i64 ((N : Nat) : Int) ∧ Below w2.heap.size w2 w') rfl rfl rfl (exec_call (args := #[PT g 0]) rfl call68 rfl (mpn rfl)) (Calls.mono (hsz.out w2 H2.out.2) (fun e w2 hh => ⟨_, hh.1, rfl, hh.2⟩)) ?_
  rintro _ w3 ⟨rfl, hb⟩
  have H3 : Hid (Mm w3 [] ∧ I1 w3) := ⟨H2.out.1.below hb, s1.out _ _ H2.out.2 (hb)⟩
  clear hb
  clear H2
  simp only [Act.put, sa, sz, ss]
  refine rest_set (d := 24) (v := .bool true) (w' := w3) rfl rfl rfl (by go_simp <;> omega) ?_
  simp only [Act.put, sa, sz, ss]
  refine rest_set (d := 25) (v := .bool true) (w' := w3) rfl rfl rfl (by go_simp) ?_
  simp only [Act.put, sa, sz, ss]
  refine rest_nil (then_normal ?_)
  refine wp_cond_true rfl (wp_seq ?_)
  refine sq_start (l := [0]) rfl ?_
  refine rest_set (d := 6) (v := .int .i64 2) (w' := w3) rfl rfl rfl (rfl) ?_
  simp only [Act.put, sa, sz, ss]
  refine rest_nil (then_normal (wp_ret ?_))
  repeat (first | refine then_ret ?_ | refine block_ret ?_)
  refine bodyPost_ret (v := .int .i64 2) (by simp [results, Try.results20, go_sem, *]) rfl ?_
  exact ⟨rfl, H3.out.2⟩
set_option maxHeartbeats 2000000 in
set_option maxRecDepth 100000 in
theorem Cut_ok (d g N : Nat) (s : ByteArray) (c : Nat) (hc : c ≤ N) (I0 I1 I2 : World → Prop) (w : World) (h0 : I0 w) (s0z : ∀ u u', I0 u → Below u.heap.size u u' → I0 u') (s1z : ∀ u u', I1 u → Below u.heap.size u u' → I1 u') (s2z : ∀ u u', I2 u → Below u.heap.size u u' → I2 u') (hcdz : ∀ u, I0 u → Calls Try.prog 72 #[PT d 0, .string s] u fun e u' => e = .returned (.tuple #[PT g 0, .int .i64 0]) ∧ I1 u') (hszz : ∀ u, I1 u → Calls Try.prog 68 #[PT g 0] u fun e u' => e = .returned (.int .i64 ((N : Nat) : Int)) ∧ Below u.heap.size u u') (hbgz : ∀ u, I1 u → Calls Try.prog 69 #[PT g 0, .agg ([.int .i64 ((c : Nat) : Int), .slice none 0 0] : List Value).toArray] u fun e u' => e = .returned (.tuple #[]) ∧ I2 u') :
    Calls Try.prog 20 #[PT d 0, .string s, .int .i64 ((c : Nat) : Int)] w fun e w' => e = .returned (.int .i64 0) ∧ I2 w' := by
  have H0 : Hid (_ ∧ _) := ⟨Mm.nil w, h0⟩
  have s0 : Hid _ := s0z
  have s1 : Hid _ := s1z
  have s2 : Hid _ := s2z
  have hcd : Hid _ := hcdz
  have hsz : Hid _ := hszz
  have hbg : Hid _ := hbgz
  clear h0 s0z s1z s2z hcdz hszz hbgz
  go_enter Try.func20, Try.ntmps20
  refine wp_seq ?_
  refine sq_startW (l := [0]) rfl (fun u0 hu0 => ?_)
  have H1 : Hid (Mm u0 [] ∧ I0 u0) := by rw [hu0]; exact H0
  clear hu0 H0
  refine rest_set (d := 6) (v := .int .i64 0) (w' := u0) rfl rfl rfl (rfl) ?_
  simp only [Act.put, sa, sz, ss]
  refine rest_nil (then_normal (wp_seq ?_))
  refine sq_start (l := [0, 1, 2, 3, 4, 5, 6, 7]) rfl ?_
  refine rest_set (d := 10) (v := PT d 0) (w' := u0) rfl rfl rfl (rfl) ?_
  simp only [Act.put, sa, sz, ss]
  refine rest_set (d := 11) (v := .string s) (w' := u0) rfl rfl rfl (rfl) ?_
  simp only [Act.put, sa, sz, ss]
  refine rest_enter (d := 12) (R := fun vv w' => vv = .tuple #[PT g 0, .int .i64 0] ∧ I1 w') rfl rfl rfl (exec_call (args := #[PT d 0, .string s]) rfl call72 rfl (mpn rfl)) (Calls.mono (hcd.out u0 H1.out.2) (fun e w2 hh => ⟨_, hh.1, rfl, hh.2⟩)) ?_
  rintro _ w2 ⟨rfl, hI⟩
  have H2 : Hid (Mm w2 [] ∧ I1 w2) := ⟨Mm.nil _, hI⟩
  clear hI H1
  simp only [Act.put, sa, sz, ss]
  refine rest_set (d := 9) (v := .tuple #[PT g 0, .int .i64 0]) (w' := w2) rfl rfl rfl (rfl) ?_
  simp only [Act.put, sa, sz, ss]
  refine rest_set (d := 13) (v := PT g 0) (w' := w2) rfl rfl rfl (by go_simp) ?_
  simp only [Act.put, sa, sz, ss]
  refine rest_set (d := 14) (v := .int .i64 0) (w' := w2) rfl rfl rfl (by go_simp) ?_
  simp only [Act.put, sa, sz, ss]
  refine rest_set (d := 7) (v := PT g 0) (w' := w2) rfl rfl rfl (rfl) ?_
  simp only [Act.put, sa, sz, ss]
  refine rest_set (d := 8) (v := .int .i64 0) (w' := w2) rfl rfl rfl (rfl) ?_
  simp only [Act.put, sa, sz, ss]
  refine rest_nil (then_normal ?_)
  refine wp_seq (wp_seq ?_)
  refine sq_start (l := [0, 1]) rfl ?_
  refine rest_set (d := 15) (v := .int .i64 0) (w' := w2) rfl rfl rfl (rfl) ?_
  simp only [Act.put, sa, sz, ss]
  refine rest_set (d := 16) (v := .bool false) (w' := w2) rfl rfl rfl (by kernel_rfl) ?_
  simp only [Act.put, sa, sz, ss]
  refine rest_nil (then_normal ?_)
  refine wp_cond_false rfl (wp_skip ?_)
  refine then_normal (wp_seq (wp_seq ?_))
  refine sq_start (l := [0, 1, 2, 3, 4, 5, 6, 7]) rfl ?_
  refine rest_set (d := 18) (v := .int .i64 ((c : Nat) : Int)) (w' := w2) rfl rfl rfl (rfl) ?_
  simp only [Act.put, sa, sz, ss]
  refine rest_set (d := 19) (v := .bool false) (w' := w2) rfl rfl rfl (by go_simp <;> omega) ?_
  simp only [Act.put, sa, sz, ss]
  refine rest_set (d := 20) (v := .bool false) (w' := w2) rfl rfl rfl (rfl) ?_
  simp only [Act.put, sa, sz, ss]
  refine rest_set (d := 21) (v := .int .i64 ((c : Nat) : Int)) (w' := w2) rfl rfl rfl (rfl) ?_
  simp only [Act.put, sa, sz, ss]
  refine rest_set (d := 22) (v := PT g 0) (w' := w2) rfl rfl rfl (rfl) ?_
  simp only [Act.put, sa, sz, ss]
  refine rest_enter (d := 23) (R := fun vv w' => vv = .int .i64 ((N : Nat) : Int) ∧ Below w2.heap.size w2 w') rfl rfl rfl (exec_call (args := #[PT g 0]) rfl call68 rfl (mpn rfl)) (Calls.mono (hsz.out w2 H2.out.2) (fun e w2 hh => ⟨_, hh.1, rfl, hh.2⟩)) ?_
  rintro _ w3 ⟨rfl, hb⟩
  have H3 : Hid (Mm w3 [] ∧ I1 w3) := ⟨H2.out.1.below hb, s1.out _ _ H2.out.2 (hb)⟩
  clear hb
  clear H2
  simp only [Act.put, sa, sz, ss]
  refine rest_set (d := 24) (v := .bool false) (w' := w3) rfl rfl rfl (by go_simp <;> omega) ?_
  simp only [Act.put, sa, sz, ss]
  refine rest_set (d := 25) (v := .bool false) (w' := w3) rfl rfl rfl (by go_simp) ?_
  simp only [Act.put, sa, sz, ss]
  refine rest_nil (then_normal ?_)
  refine wp_cond_false rfl (wp_skip ?_)
  refine then_normal (wp_seq ?_)
  refine sq_start (l := [0, 1, 2, 3]) rfl ?_
  refine rest_set (d := 26) (v := PT g 0) (w' := w3) rfl rfl rfl (rfl) ?_
  simp only [Act.put, sa, sz, ss]
  refine rest_set (d := 27) (v := .int .i64 ((c : Nat) : Int)) (w' := w3) rfl rfl rfl (rfl) ?_
  simp only [Act.put, sa, sz, ss]
  refine rest_set (d := 28) (v := .agg ([Value.int .i64 ((c : Nat) : Int), Value.slice none 0 0]).toArray) (w' := w3) rfl rfl rfl (by kernel_rfl) ?_
  simp only [Act.put, sa, sz, ss]
  refine rest_enter (d := 29) (R := fun vv w' => vv = .tuple #[] ∧ I2 w') rfl rfl rfl (exec_call (args := #[PT g 0, .agg ([Value.int .i64 ((c : Nat) : Int), Value.slice none 0 0]).toArray]) rfl call69 rfl (mpn rfl)) (Calls.mono (hbg.out w3 H3.out.2) (fun e w2 hh => ⟨_, hh.1, rfl, hh.2⟩)) ?_
  rintro _ w4 ⟨rfl, hI⟩
  have H4 : Hid (Mm w4 [] ∧ I2 w4) := ⟨Mm.nil _, hI⟩
  clear hI H3
  simp only [Act.put, sa, sz, ss]
  refine rest_nil (then_normal (wp_seq ?_))
  refine sq_start (l := [0]) rfl ?_
  refine rest_set (d := 6) (v := .int .i64 0) (w' := w4) rfl rfl rfl (rfl) ?_
  simp only [Act.put, sa, sz, ss]
  refine rest_nil (then_normal (wp_ret ?_))
  repeat (first | refine then_ret ?_ | refine block_ret ?_)
  refine bodyPost_ret (v := .int .i64 0) (by simp [results, Try.results20, go_sem, *]) rfl ?_
  exact ⟨rfl, H4.out.2⟩
end Wi
end Rg
end Go.Proofs.Ytidicdlfjdlpnaa
end
section
namespace Go.Proofs.Ytidicdlfjdlpnaa
open Go.RowKit
namespace Rg
namespace Wi
set_option maxRecDepth 100000
section
variable {w u : World} {D : Dq}
theorem DOk.kr (h : DOk w D) (hu : Kp D.d w u) : u.heap[D.rb]? = w.heap[D.rb]? := by
  obtain ⟨n, Y, h1, _⟩ := h.rm
  exact hu.block _ h1.lt h.h3.2.1.symm
theorem DOk.km (h : DOk w D) (hu : Kp D.d w u) : u.heap[D.mb]? = w.heap[D.mb]? := by
  obtain ⟨X, h1, _⟩ := h.mp
  exact hu.block _ h1.lt h.h3.1.symm
theorem Dq.kc (hu : Kp D.d w u) : Chg D.bl w u := (Kp.chg hu).mono (fun x hx => .inl (by rw [List.mem_singleton.1 hx]; exact List.mem_cons_self ..))
theorem Dq.fbl {f : Fq} (hf : f ∈ D.fs) : ∀ x ∈ f.bl, x ∈ D.bl := fun x hx => by
  unfold Dq.bl
  simp only [List.mem_cons, List.mem_flatMap]
  exact .inr (.inr (.inr ⟨f, hf, hx⟩))
end
/-- What count and counted answer. -/
def Dq.no (D : Dq) : Bool := D.rf (D.k + 1)
theorem count_f (D : Dq) (w : World) (h : DOk w D) (hk : D.k + 1 < 4611686018427387904) : Calls Try.prog 66 #[PT D.d 0] w fun e w' => e = .returned (.int .i64 (if D.no then 13 else 0)) ∧ DOk w' D.tick ∧ Chg D.bl w w' := by
  cases hr : D.no with
  | true => exact (count_no D.d D.mb D.rb D.k h.k1 w h.cel (fun u hu => by rw [h.lookR (h.kr hu), show D.rf (D.k + 1) = true from hr])).mono fun e w' hh => ⟨hh.1, h.tick hk hh.2.2 hh.2.1, Dq.kc hh.2.2⟩
  | false => exact (count_ok D.d D.mb D.rb D.k h.k1 w h.cel (fun u hu => by rw [h.lookR (h.kr hu), show D.rf (D.k + 1) = false from hr])).mono fun e w' hh => ⟨hh.1, h.tick hk hh.2.2 hh.2.1, Dq.kc hh.2.2⟩
def Dq.cnt (D : Dq) (s : ByteArray) : Value := if D.no then .tuple #[.pointer none, .int .i64 13] else match lk D.fs s with
  | some f => .tuple #[PT f.g 0, .int .i64 0]
  | none => .tuple #[.pointer none, .int .i64 6]
theorem counted_f (D : Dq) (s : ByteArray) (hs : s.size ≤ maxLen) (w : World) (h : DOk w D) (hk : D.k + 1 < 4611686018427387904) : Calls Try.prog 72 #[PT D.d 0, .string s] w fun e w' => e = .returned (D.cnt s) ∧ DOk w' D.tick ∧ Chg D.bl w w' := by
  unfold Dq.cnt
  cases hr : D.no with
  | true => exact (counted_no D.d D.mb D.rb D.k h.k1 s w h.cel (fun u hu => by rw [h.lookR (h.kr hu), show D.rf (D.k + 1) = true from hr])).mono fun e w' hh => ⟨hh.1, h.tick hk hh.2.2 hh.2.1, Dq.kc hh.2.2⟩
  | false =>
    cases hl : lk D.fs s with
    | none => exact (counted_miss D.d D.mb D.rb D.k h.k1 s w h.cel (fun u hu => by rw [h.lookR (h.kr hu), show D.rf (D.k + 1) = false from hr]) (fun u hu => by rw [h.look s hs (h.km hu), hl]; rfl)).mono fun e w' hh => ⟨hh.1, h.tick hk hh.2.2 hh.2.1, Dq.kc hh.2.2⟩
    | some f => exact (counted_hit D.d D.mb D.rb D.k h.k1 f.g s w h.cel (fun u hu => by rw [h.lookR (h.kr hu), show D.rf (D.k + 1) = false from hr]) (fun u hu => by rw [h.look s hs (h.km hu), hl]; rfl)).mono fun e w' hh => ⟨hh.1, h.tick hk hh.2.2 hh.2.1, Dq.kc hh.2.2⟩
/-- A cut under way. -/
def cuto (c : Nat) : Uop := ⟨c, ⟨0, 0, 0, 0, none, fun _ => 0⟩⟩
theorem cuto_ok (c : Nat) (w : World) : (cuto c).ok w := ⟨⟨Bv.void _ _ _ _ _, Nat.le_refl _⟩, fun _ => rfl, Rs.void _ _ _ _⟩
theorem cuto_b (c : Nat) : ∀ x, x ∉ uob (cuto c) := fun x hx => by
  unfold uob cuto at hx
  simp at hx
/-- Of a disk that was counted, with all that was changed its own. -/
def Dw (w : World) (D0 D : Dq) (u : World) : Prop := DOk u D ∧ Chg D0.bl w u ∧ ∀ x ∈ D.bl, x ∈ D0.bl ∨ w.heap.size ≤ x
theorem Dw.step {w : World} {D0 D : Dq} : ∀ u u', Dw w D0 D u → Below u.heap.size u u' → Dw w D0 D u' := fun _ _ h hb => ⟨h.1.below hb, h.2.1.below hb, h.2.2⟩
theorem Dw.trans {w u u' : World} {D0 D1 D2 : Dq} (h : Dw w D0 D1 u) (k : Dw u D1 D2 u') : Dw w D0 D2 u' := ⟨k.1, h.2.1.trans k.2.1 h.2.2, fun x hx => (k.2.2 x hx).elim (h.2.2 x) (fun e => .inr (Nat.le_trans h.2.1.size e))⟩
theorem Dw.refl {w : World} {D : Dq} (h : DOk w D) : Dw w D D w := ⟨h, Chg.refl _ _, fun _ hx => .inl hx⟩
theorem Dq.swap_bl {D : Dq} {f f' : Fq} {x : Nat} (hx : x ∈ (D.swap f f').bl) : x ∈ D.bl ∨ x ∈ f'.bl := by
  unfold Dq.bl Dq.swap at hx
  simp only [List.mem_cons, List.mem_flatMap, List.mem_map] at hx
  rcases hx with e | e | e | ⟨y, ⟨z, hz, rfl⟩, e⟩
  · exact .inl (by unfold Dq.bl; simp [e])
  · exact .inl (by unfold Dq.bl; simp [e])
  · exact .inl (by unfold Dq.bl; simp [e])
  · unfold swp at e
    split at e
    · exact .inr e
    · exact .inl (Dq.fbl hz x e)
theorem Cut_f (D : Dq) (s : ByteArray) (hs : s.size ≤ maxLen) (c : Int) (w : World) (h : DOk w D) (hk : D.k + 1 < 4611686018427387904) (hops : ∀ f ∈ D.fs, f.ops.length < 1000000) : Calls Try.prog 20 #[PT D.d 0, .string s, .int .i64 c] w fun e w' =>
    if D.no then e = .returned (.int .i64 13) ∧ Dw w D D.tick w' else match lk D.fs s with
    | none => e = .returned (.int .i64 6) ∧ Dw w D D.tick w'
    | some f => if 0 ≤ c ∧ c ≤ f.N then e = .returned (.int .i64 0) ∧ ∃ u, Dw w D (D.tick.swap f (f.more u (cuto c.toNat))) w' else e = .returned (.int .i64 2) ∧ Dw w D D.tick w' := by
  have hb0 : ∀ u u', Below w.heap.size w u → Below u.heap.size u u' → Below w.heap.size w u' := fun u u' h1 h2 => h1.trans (h2.mono h1.size)
  have hcd : ∀ v, D.cnt s = v → ∀ u, Below w.heap.size w u → Calls Try.prog 72 #[PT D.d 0, .string s] u fun e u' => e = .returned v ∧ Dw w D D.tick u' := fun v hv u hu =>
    (counted_f D s hs u (h.below hu) hk).mono fun e u' hh => ⟨by rw [hh.1, hv], hh.2.1, (Chg.of hu).trans hh.2.2 (fun x hx => .inl hx), fun x hx => .inl hx⟩
  cases hr : D.no with
  | true => exact Cut_no D.d s c _ _ w (Below.refl _ _) hb0 Dw.step (hcd _ (by unfold Dq.cnt; rw [hr, if_pos rfl]))
  | false =>
    simp only [Bool.false_eq_true, if_false]
    cases hl : lk D.fs s with
    | none => exact Cut_miss D.d s c _ _ w (Below.refl _ _) hb0 Dw.step (hcd _ (by unfold Dq.cnt; rw [hr, if_neg (by decide), hl]))
    | some f =>
      have hm := (lk_mem hl).1
      have hc1 := hcd (.tuple #[PT f.g 0, .int .i64 0]) (by unfold Dq.cnt; rw [hr, if_neg (by decide), hl])
      have hsz : ∀ u, Dw w D D.tick u → Calls Try.prog 68 #[PT f.g 0] u fun e u' => e = .returned (.int .i64 ((f.N : Nat) : Int)) ∧ Below u.heap.size u u' := fun u hu => size_f f u (hu.1.fl f hm)
      by_cases h0 : c < 0
      · show Calls _ _ _ _ fun e w' => if 0 ≤ c ∧ c ≤ f.N then _ else _
        simp only [if_neg (show ¬(0 ≤ c ∧ c ≤ (f.N : Int)) by omega)]
        exact Cut_low D.d f.g s c h0 _ _ w (Below.refl _ _) hb0 Dw.step hc1
      · obtain ⟨n, rfl⟩ : ∃ n : Nat, c = n := ⟨c.toNat, by omega⟩
        show Calls _ _ _ _ fun e w' => if 0 ≤ (n : Int) ∧ (n : Int) ≤ f.N then _ else _
        by_cases h2 : n ≤ f.N
        · simp only [if_pos (show 0 ≤ (n : Int) ∧ (n : Int) ≤ (f.N : Int) by omega)]
          refine Cut_ok D.d f.g f.N s n h2 _ _ (fun u => ∃ v, Dw w D (D.tick.swap f (f.more v (cuto n))) u) w (Below.refl _ _) hb0 Dw.step (fun u u' hu hb => by obtain ⟨v, hv⟩ := hu; exact ⟨v, Dw.step _ _ hv hb⟩) hc1 hsz (fun u hu => ?_)
          refine (begin_f f (cuto n) u (hu.1.fl f hm) (hops f hm) (cuto_ok n u) (fun x hx => absurd hx (cuto_b n x)) h2 (by have := (hu.1.fl f hm).N1; show n + 0 ≤ _; omega) (.inr rfl)).mono fun e u' hh => ?_
          obtain ⟨e1, v, e2, e3, e4⟩ := hh
          suffices hbx : ∀ x ∈ (f.more v (cuto n)).bl, x ∈ f.bl ∨ u.heap.size ≤ x from ⟨e1, v, hu.1.swap hm rfl rfl e2 e3 hbx, hu.2.1.trans e3 (fun x hx => .inl (Dq.fbl hm x hx)), fun x hx => (Dq.swap_bl hx).elim .inl (fun e => (hbx x e).elim (fun e => .inl (Dq.fbl hm x e)) (fun e => .inr (Nat.le_trans hu.2.1.size e)))⟩
          intro x hx
          unfold Fq.bl Fq.more fbl at hx
          simp only [List.mem_cons, List.mem_append, List.mem_flatMap] at hx
          rcases hx with hx | hx | hx | ⟨o, ho, hx⟩
          · exact .inl (by rw [hx]; exact List.mem_cons_self ..)
          · exact .inl (by unfold Fq.bl fbl; simp [hx])
          · exact e4 x hx
          · rcases ho with ho | ho
            · exact .inl (by unfold Fq.bl fbl; simp only [List.mem_cons, List.mem_append, List.mem_flatMap]; exact .inr (.inr (.inr ⟨o, ho, hx⟩)))
            · rcases ho with ho | ho
              · subst ho
                exact absurd hx (cuto_b n x)
              · cases ho
        · simp only [if_neg (show ¬(0 ≤ (n : Int) ∧ (n : Int) ≤ (f.N : Int)) by omega)]
          exact Cut_high D.d f.g f.N s n (by omega) _ _ w (Below.refl _ _) hb0 Dw.step hc1 hsz
end Wi
end Rg
end Go.Proofs.Ytidicdlfjdlpnaa
end
section
/-
  DERIVED: THE SHELF's CONTRACTS AT THIS DUMP, IN PLAIN WORDS (tools/lay-plain.mjs out of 'YtidicdlfjdlpnaaShelf.lean', which tools/lay-shelf.mjs wrote): THE SAME DECLARATIONS UNDER THE SAME NAMES: 'import', 'namespace', 'open', 'def', 'theorem' AND NOTHING ELSE: no command of the shelf's: FOR A HAND-IN. Each laying: the table of numbers ('.._ren') and one theorem, a field a fact of the dump's own or the kernel's comparison; each contract: ONE APPLICATION.
-/
namespace Go.Proofs
open Go.Shelf
def Try.laysM316_ren : Go.Shelf.Ren := ⟨fun | 316 => 116 | n => n, fun | 9 => 9 | 3 => 3 | 4 => 4 | 37 => 34 | 0 => 0 | 127 => 167 | 5 => 5 | n => n, fun | n => n⟩
theorem Try.laysM316 : Go.Proofs.LaysM.n316 Try.prog Try.laysM316_ren := {
  mixed := by kernel_rfl
  f316 := Try.func116.trans (congrArg some (by kernel_rfl))
  t0 := Try.underlying0
  a0 := Try.isAgg0
  z0 := Try.sizeOf0
  v0 := Try.zeroValue0
  t3 := Try.underlying3
  a3 := Try.isAgg3
  z3 := Try.sizeOf3
  v3 := Try.zeroValue3
  t4 := Try.underlying4
  a4 := Try.isAgg4
  z4 := Try.sizeOf4
  v4 := Try.zeroValue4
  t9 := Try.underlying9
  a9 := Try.isAgg9
  z9 := Try.sizeOf9
  v9 := Try.zeroValue9
  t37 := Try.underlying34
  a37 := Try.isAgg34
  z37 := Try.sizeOf34
  v37 := Try.zeroValue34
  t127 := Try.underlying167
  a127 := Try.isAgg167
  z127 := Try.sizeOf167
  v127 := Try.zeroValue167
  t5 := Try.underlying5
  a5 := Try.isAgg5
  z5 := Try.sizeOf5
  v5 := Try.zeroValue5
  i0 := by kernel_rfl
  i3 := by kernel_rfl
  i4 := by kernel_rfl
  i5 := by kernel_rfl
  i9 := by kernel_rfl
  i37 := by kernel_rfl
  i127 := by kernel_rfl }
end Go.Proofs
end
section
namespace Go.Proofs.Ytidicdlfjdlpnaa
open Go.RowKit
namespace Rg
namespace Wi
theorem call92 : ∀ args w, (callFunc 92 args).run Try.prog w = .ok (.enter 92 args) w := by intro args w; go_simp
theorem call116 : ∀ args w, (callFunc 116 args).run Try.prog w = .ok (.enter 116 args) w := by intro args w; go_simp
set_option maxRecDepth 100000
theorem lite_any (s : ByteArray) (hs : s.size ≤ 281474976710656) (w : World) : Calls Try.prog 116 #[.string s] w fun e w' => e = .returned (.string s) ∧ Below w.heap.size w w' := Any.stringslite_Clone Try.laysM316 s w hs
set_option maxHeartbeats 2000000 in
set_option maxRecDepth 100000 in
theorem sclone_any (s : ByteArray) (hs : s.size ≤ 281474976710656) (w : World) :
    Calls Try.prog 92 #[.string s] w fun e w' => e = .returned (.string s) ∧ Below w.heap.size w w' := by
  have H0 : Hid (_ ∧ _) := ⟨Mm.nil w, Below.refl w.heap.size w⟩
  go_enter Try.func92, Try.ntmps92
  refine wp_seq ?_
  refine sq_startW (l := [0]) rfl (fun u0 hu0 => ?_)
  have H1 : Hid (Mm u0 [] ∧ Below w.heap.size w u0) := by rw [hu0]; exact H0
  clear hu0 H0
  refine rest_set (d := 2) (v := .string ⟨#[]⟩) (w' := u0) rfl rfl rfl (rfl) ?_
  simp only [Act.put, sa, sz, ss]
  refine rest_nil (then_normal (wp_seq ?_))
  refine sq_start (l := [0, 1, 2]) rfl ?_
  refine rest_set (d := 3) (v := .string s) (w' := u0) rfl rfl rfl (rfl) ?_
  simp only [Act.put, sa, sz, ss]
  refine rest_enter (d := 4) (R := fun vv w' => vv = .string s ∧ Below u0.heap.size u0 w') rfl rfl rfl (exec_call (args := #[.string s]) rfl call116 rfl (mpn rfl)) (Calls.mono (lite_any s hs u0) (fun e w2 hh => ⟨_, hh.1, rfl, hh.2⟩)) ?_
  rintro _ w2 ⟨rfl, hb⟩
  have H2 : Hid (Mm w2 [] ∧ Below w.heap.size w w2) := ⟨H1.out.1.below hb, H1.out.2.trans (hb.mono H1.out.2.size)⟩
  clear hb
  clear H1
  simp only [Act.put, sa, sz, ss]
  refine rest_set (d := 2) (v := .string s) (w' := w2) rfl rfl rfl (rfl) ?_
  simp only [Act.put, sa, sz, ss]
  refine rest_nil (then_normal (wp_ret ?_))
  repeat (first | refine then_ret ?_ | refine block_ret ?_)
  refine bodyPost_ret (v := .string s) (by simp [results, Try.results92, go_sem, *]) rfl ?_
  exact ⟨rfl, H2.out.2⟩
theorem ex_mup {ρ : Operand → Value} {o : Oper} {x y z : Operand} {t : TypeId} {a k v : Value} {w w2 : World} (hr : (Instr.mapUpdate t a k v).run Try.prog w = .ok () w2) (ho : o.op = .mapUpdate t x y z) (hx : ρ x = a) (hy : ρ y = k) (hz : ρ z = v) : (execOp ρ o).run Try.prog w = .ok .skip w2 := by
  simp only [execOp, ho, hx, hy, hz, Sem.run_bind, hr, Result.andThen_ok, Sem.run_pure]
set_option maxHeartbeats 2000000 in
set_option maxRecDepth 100000 in
theorem put_any (d mb rb g : Nat) (k : Int) (s : ByteArray) (hs : s.size ≤ 281474976710656) (I1 : World → Prop) (w : World) (hm : Mm w [(d, [Value.map (some mb), Value.map (some rb), Value.int .i64 k])]) (s1z : ∀ u u', I1 u → Below u.heap.size u u' → I1 u') (hupz : ∀ u, Below w.heap.size w u → ∃ u', (Instr.mapUpdate 39 (.map (some mb)) (.string s) (PT g 0)).run Try.prog u = .ok () u' ∧ I1 u') :
    Calls Try.prog 71 #[PT d 0, .string s, PT g 0] w fun e w' => e = .returned (.tuple #[]) ∧ I1 w' := by
  have H0 : Hid (_ ∧ _) := ⟨hm, Below.refl w.heap.size w⟩
  clear hm
  have s1 : Hid _ := s1z
  have hup : Hid _ := hupz
  clear s1z hupz
  go_enter Try.func71, Try.ntmps71
  refine walk_anyB 7 [.quiet (PT d 0), .quiet (PT d 0), .quiet (PT d 0), .quiet (.map (some mb)), .quiet (.string s), .call (.string s), .quiet (PT g 0)] H0 ?ho1 ?he1
  case ho1 => exact ak (fun _ => ⟨rfl, fun _ _ => rfl⟩) (ak (by refine fun γ => ⟨rfl, fun w' h => ?_⟩; clear h; go_simp) (ak (by refine fun γ => ⟨rfl, fun w' h => ?_⟩; clear h; go_simp) (ak (fun γ => ⟨rfl, fun w' h => ex_loadC h 0 rfl rfl rfl Try.isAgg39 rfl⟩) (ak (fun _ => ⟨rfl, fun _ _ => rfl⟩) (ak (fun γ => ⟨rfl, fun w' h => ⟨92, #[.string s], exec_call rfl call92 rfl (mpn rfl), sclone_any s hs w'⟩⟩) (ak (fun _ => ⟨rfl, fun _ _ => rfl⟩) trivial))))))
  intro _ w1 H1
  refine rest_at (l := [7]) rfl ?_
  obtain ⟨w9, hr9, hI9⟩ := hup.out w1 H1.out.2
  refine rest_store rfl rfl rfl (ex_mup hr9 rfl rfl rfl rfl) ?_
  have H2 : Hid (Mm w9 [] ∧ I1 w9) := ⟨Mm.nil _, hI9⟩
  clear hr9 hI9 H1
  refine rest_nil ?_
  refine bodyPost_end (v := .tuple #[]) (by simp [results, Try.results71, go_sem]) rfl ?_
  exact ⟨rfl, H2.out.2⟩
end Wi
end Rg
end Go.Proofs.Ytidicdlfjdlpnaa
end
section
namespace Go.Proofs.Ytidicdlfjdlpnaa
open Go.RowKit
namespace Rg
namespace Wi
set_option maxRecDepth 100000
theorem ownMap_tight {w : World} {k : TypeId} {R : Value → Option (DataW Nat × List MemPlace)} {b n : Nat} {D : DataW Nat} (h : w.ownsMap Try.prog k R b n D) : w.ownsMap Try.prog k R b (Maps.size D) D := by
  obtain ⟨es, clock, h1, h2, h3, rfl⟩ := h
  exact ⟨es, clock, h1, h2, by simp [Maps.size, length_sorted], rfl⟩
theorem ky_inj {s t : ByteArray} (h : ky s = ky t) : s = t := by
  unfold ky at h
  injection h with h
  exact ByteArray.ext (Array.toList_inj.1 h)
theorem ky_lit (s : ByteArray) : WideAt.IsKeyLit (ky s) := by
  first | exact trivial | exact rfl | (unfold ky; simp [WideAt.IsKeyLit])
/-- The map with a name more, or one anew. -/
theorem DOk.mupd {w u : World} {D : Dq} (h : DOk w D) (s : ByteArray) (hs : s.size ≤ maxLen) (g : Nat) (hu : u.heap[D.mb]? = w.heap[D.mb]?) : ∃ u' X, (Instr.mapUpdate 39 (.map (some D.mb)) (.string s) (PT g 0)).run Try.prog u = .ok () u' ∧ u.grownBy u' (some D.mb) ∧ u'.ownsMap Try.prog 9 RF D.mb (Maps.size X) X ∧ (∀ t, X.atKey (ky t) .nil = if t = s then .held g else dv (lk D.fs t)) ∧ (∀ t, Maps.has X (ky t) = (decide (t = s) || (lk D.fs t).isSome)) ∧ Maps.size X = (if (lk D.fs s).isSome then D.fs.length else D.fs.length + 1) := by
  obtain ⟨X, x1, x2, x3, x4⟩ := h.mp
  have hn := h.n64
  have y1 := ownMap_keep x1 hu
  obtain ⟨u', hr, hm, hg⟩ := y1.update (Maps.string_keyed Try.underlying9) Try.underlying39 (by unfold maxLen; omega) (WideMaps.keyOf_string_mk Try.underlying9 hs) (show RF (PT g 0) = some (.held g, []) from rfl)
  refine ⟨u', X.put (ky s) (.held g), hr, hg, ownMap_tight hm, fun t => ?_, fun t => ?_, ?_⟩
  · by_cases e : t = s
    · subst e
      rw [if_pos rfl]
      exact Maps.atKey_put_same y1.isMap (ky_lit t) _ _
    · rw [if_neg e, Maps.atKey_put_other (fun e2 => e (ky_inj e2)), x2 t]
  · by_cases e : t = s
    · subst e
      rw [Maps.has_put_same y1.isMap (ky_lit t)]
      simp
    · rw [Maps.has_put_other (fun e2 => e (ky_inj e2)), x3 t, decide_eq_false e, Bool.false_or]
  · rw [Maps.size_put (y1.tidy (Maps.string_keyed Try.underlying9)), x3 s, x4]
end Wi
end Rg
end Go.Proofs.Ytidicdlfjdlpnaa
end
section
namespace Go.Proofs.Ytidicdlfjdlpnaa
open Go.RowKit
namespace Rg
namespace Wi
set_option maxRecDepth 100000
theorem DOk.putSame {w : World} {D : Dq} {f : Fq} {s : ByteArray} (h : DOk w D) (hs : s.size ≤ maxLen) (hl : lk D.fs s = some f) : ∃ u', (Instr.mapUpdate 39 (.map (some D.mb)) (.string s) (PT f.g 0)).run Try.prog w = .ok () u' ∧ DOk u' D ∧ Chg [D.mb] w u' := by
  obtain ⟨u', X, hr, hg, x1, x2, x3, x4⟩ := h.mupd s hs f.g rfl
  have hc : Chg [D.mb] w u' := Chg.grown hg
  obtain ⟨n, Y, y1, y2⟩ := h.rm
  rw [hl] at x4
  have x5 : Maps.size X = D.fs.length := x4
  refine ⟨u', hr, ⟨hc.mm h.cel (fun p hp hm => ?_), ⟨X, x5 ▸ x1, fun t => ?_, fun t => ?_, x5⟩, ⟨n, Y, ownMap_keep y1 (hc.block _ y1.lt (fun hm => h.h3.2.2 (List.mem_singleton.1 hm).symm)), y2⟩, fun y hy => (h.fl y hy).chg hc (fun x hx hm => ((h.hd y hy) x hx).2.1 (List.mem_singleton.1 hm)), h.ap, h.hd, h.h3, h.un, h.k1, h.n64⟩, hc⟩
  · obtain rfl := List.mem_singleton.1 hp
    exact h.h3.1 (List.mem_singleton.1 hm)
  · rw [x2 t]
    by_cases e : t = s
    · rw [if_pos e, e, hl]; rfl
    · rw [if_neg e]
  · rw [x3 t]
    by_cases e : t = s
    · rw [decide_eq_true e, Bool.true_or, e, hl]; rfl
    · rw [decide_eq_false e, Bool.false_or]
def Dq.add (D : Dq) (f : Fq) : Dq := ⟨D.d, D.mb, D.rb, D.k, D.fs ++ [f], D.rf⟩
theorem Dq.add_bl {D : Dq} {f : Fq} {x : Nat} (hx : x ∈ (D.add f).bl) : x ∈ D.bl ∨ x ∈ f.bl := by
  unfold Dq.bl Dq.add at hx
  simp only [List.mem_cons, List.mem_flatMap, List.mem_append] at hx
  rcases hx with e | e | e | ⟨y, hy | hy, e⟩
  · exact .inl (by unfold Dq.bl; simp [e])
  · exact .inl (by unfold Dq.bl; simp [e])
  · exact .inl (by unfold Dq.bl; simp [e])
  · exact .inl (Dq.fbl hy x e)
  · rcases hy with hy | hy
    · subst hy; exact .inr e
    · cases hy
theorem lk_add (fs : List Fq) (f : Fq) (t : ByteArray) : lk (fs ++ [f]) t = (lk fs t).or (if f.nm = t then some f else none) := by
  unfold lk
  rw [List.find?_append]
  congr 1
  by_cases e : f.nm = t
  · rw [if_pos e]
    simp [e]
  · rw [if_neg e]
    simp [e]
theorem lk_none {fs : List Fq} {s : ByteArray} (h : lk fs s = none) : ∀ f ∈ fs, f.nm ≠ s := fun f hf e => by
  unfold lk at h
  have := List.find?_eq_none.1 h f hf
  exact this (by rw [e]; simp)
theorem DOk.putNew {w : World} {D : Dq} {f : Fq} (h : DOk w D) (hs : f.nm.size ≤ maxLen) (hl : lk D.fs f.nm = none) (hF : FOk w f) (hlt : D.fs.length < 64) (ha : ∀ x ∈ f.bl, x ∉ D.bl) : ∃ u', (Instr.mapUpdate 39 (.map (some D.mb)) (.string f.nm) (PT f.g 0)).run Try.prog w = .ok () u' ∧ DOk u' (D.add f) ∧ Chg [D.mb] w u' := by
  obtain ⟨u', X, hr, hg, x1, x2, x3, x4⟩ := h.mupd f.nm hs f.g rfl
  have hc : Chg [D.mb] w u' := Chg.grown hg
  obtain ⟨n, Y, y1, y2⟩ := h.rm
  rw [hl] at x4
  have x5 : Maps.size X = (D.fs ++ [f]).length := by rw [List.length_append]; exact x4
  have hmb : D.mb ∈ D.bl := by unfold Dq.bl; simp
  have hab : ∀ y ∈ D.fs, ∀ x ∈ y.bl, x ∉ f.bl := fun y hy x hx hm => ha x hm (Dq.fbl hy x hx)
  have key : ∀ y ∈ D.fs ++ [f], y ∈ D.fs ∨ y = f := fun y hy => (List.mem_append.1 hy).imp_right List.mem_singleton.1
  refine ⟨u', hr, ⟨hc.mm h.cel (fun p hp hm => ?_), ⟨X, x5 ▸ x1, fun t => ?_, fun t => ?_, x5⟩, ⟨n, Y, ownMap_keep y1 (hc.block _ y1.lt (fun hm => h.h3.2.2 (List.mem_singleton.1 hm).symm)), y2⟩, fun y hy => ?_, fun y hy z hz hne x hx => ?_, fun y hy x hx => ?_, h.h3, ?_, h.k1, ?_⟩, hc⟩
  · obtain rfl := List.mem_singleton.1 hp
    exact h.h3.1 (List.mem_singleton.1 hm)
  · show X.atKey (ky t) .nil = dv (lk (D.fs ++ [f]) t)
    rw [x2 t, lk_add]
    by_cases e : t = f.nm
    · rw [if_pos e, e, hl, if_pos rfl]; rfl
    · rw [if_neg e, if_neg (fun e2 => e e2.symm), Option.or_none]
  · show Maps.has X (ky t) = (lk (D.fs ++ [f]) t).isSome
    rw [x3 t, lk_add]
    by_cases e : t = f.nm
    · rw [decide_eq_true e, Bool.true_or, e, hl, if_pos rfl]; rfl
    · rw [decide_eq_false e, Bool.false_or, if_neg (fun e2 => e e2.symm), Option.or_none]
  · rcases key y hy with e | e
    · exact (h.fl y e).chg hc (fun x hx hm => ((h.hd y e) x hx).2.1 (List.mem_singleton.1 hm))
    · subst e
      exact hF.chg hc (fun x hx hm => ha x hx (by rw [List.mem_singleton.1 hm]; exact hmb))
  · rcases key y hy with e | e <;> rcases key z hz with e2 | e2
    · exact h.ap y e z e2 hne x hx
    · subst e2; exact hab y e x hx
    · subst e; exact fun hm => hab z e2 x hm hx
    · subst e; subst e2; exact absurd rfl hne
  · rcases key y hy with e | e
    · exact (h.hd y e) x hx
    · subst e
      have := ha x hx
      unfold Dq.bl at this
      simp only [List.mem_cons, not_or] at this
      exact ⟨this.1, this.2.1, this.2.2.1⟩
  · show ((D.fs ++ [f]).map Fq.nm).Nodup
    rw [List.map_append, List.nodup_append]
    refine ⟨h.un, (by simp), fun a ha2 c hc2 e => ?_⟩
    obtain ⟨y, hy, rfl⟩ := List.mem_map.1 ha2
    have : c = f.nm := by simpa using hc2
    exact lk_none hl y hy (e.trans this)
  · show (D.fs ++ [f]).length ≤ 64
    rw [List.length_append]
    exact hlt
end Wi
end Rg
end Go.Proofs.Ytidicdlfjdlpnaa
end
section
namespace Go.Proofs.Ytidicdlfjdlpnaa
open Go.RowKit
namespace Rg
namespace Wi
theorem call67 : ∀ args w, (callFunc 67 args).run Try.prog w = .ok (.enter 67 args) w := by intro args w; go_simp
theorem call70 : ∀ args w, (callFunc 70 args).run Try.prog w = .ok (.enter 70 args) w := by intro args w; go_simp
theorem call71 : ∀ args w, (callFunc 71 args).run Try.prog w = .ok (.enter 71 args) w := by intro args w; go_simp
set_option maxRecDepth 100000
theorem ex_lnm {ρ : Operand → Value} {o : Oper} {x : Operand} {a v : Value} {w : World} (hr : ∀ ty, (Builtin.len_ #[39] ty #[a]).run Try.prog w = .ok v w) (ho : o.op = .call { callee := .builtin .len, args := #[x], argTypes := #[39] }) (hx : ρ x = a) : (execOp ρ o).run Try.prog w = .ok (.value v) w := by
  unfold execOp
  simp only [ho, resolve, invoke, builtin, Sem.run_bind, Sem.run_pure, Result.andThen_ok, List.map_toArray, List.map_cons, List.map_nil, hx, hr]
set_option maxHeartbeats 2000000 in
set_option maxRecDepth 100000 in
theorem Append_bad (d : Nat) (s : ByteArray) (q : Pt8)  (I0 : World → Prop) (I1 : World → Prop) (w : World) (h0 : I0 w) (s0z : ∀ u u', I0 u → Below u.heap.size u u' → I0 u') (s1z : ∀ u u', I1 u → Below u.heap.size u u' → I1 u') (hcoz : ∀ u, I0 u → Calls Try.prog 66 #[PT d 0] u fun e u' => e = .returned (.int .i64 0) ∧ I1 u') (hnmz : ∀ u, I1 u → Calls Try.prog 67 #[.string s] u fun e u' => e = .returned (.bool false) ∧ Below u.heap.size u u') :
    Calls Try.prog 19 #[PT d 0, .string s, .slice q.p q.n q.cp] w fun e w' => e = .returned (.int .i64 2) ∧ I1 w' := by
  have H0 : Hid (_ ∧ _) := ⟨Mm.nil w, h0⟩
  have s0 : Hid _ := s0z
  have s1 : Hid _ := s1z
  have hco : Hid _ := hcoz
  have hnm : Hid _ := hnmz
  clear h0 s0z s1z hcoz hnmz
  go_enter Try.func19, Try.ntmps19
  refine wp_seq ?_
  refine sq_startW (l := [0]) rfl (fun u0 hu0 => ?_)
  have H1 : Hid (Mm u0 [] ∧ I0 u0) := by rw [hu0]; exact H0
  clear hu0 H0
  refine rest_set (d := 6) (v := .int .i64 0) (w' := u0) rfl rfl rfl (rfl) ?_
  simp only [Act.put, sa, sz, ss]
  refine rest_nil (then_normal ?_)
  refine wp_seq (wp_seq ?_)
  refine sq_start (l := [0, 1, 2]) rfl ?_
  refine rest_set (d := 9) (v := PT d 0) (w' := u0) rfl rfl rfl (rfl) ?_
  simp only [Act.put, sa, sz, ss]
  refine rest_enter (d := 10) (R := fun vv w' => vv = .int .i64 0 ∧ I1 w') rfl rfl rfl (exec_call (args := #[PT d 0]) rfl call66 rfl (mpn rfl)) (Calls.mono (hco.out u0 H1.out.2) (fun e w2 hh => ⟨_, hh.1, rfl, hh.2⟩)) ?_
  rintro _ w2 ⟨rfl, hI⟩
  have H2 : Hid (Mm w2 [] ∧ I1 w2) := ⟨Mm.nil _, hI⟩
  clear hI H1
  simp only [Act.put, sa, sz, ss]
  refine rest_set (d := 7) (v := .int .i64 0) (w' := w2) rfl rfl rfl (rfl) ?_
  simp only [Act.put, sa, sz, ss]
  refine rest_nil (then_normal (wp_seq ?_))
  refine sq_start (l := [0, 1]) rfl ?_
  refine rest_set (d := 11) (v := .int .i64 0) (w' := w2) rfl rfl rfl (rfl) ?_
  simp only [Act.put, sa, sz, ss]
  refine rest_set (d := 12) (v := .bool false) (w' := w2) rfl rfl rfl (by kernel_rfl) ?_
  simp only [Act.put, sa, sz, ss]
  refine rest_nil (then_normal ?_)
  refine wp_cond_false rfl (wp_skip ?_)
  refine then_normal (wp_seq (wp_seq ?_))
  refine sq_start (l := [0, 1, 2]) rfl ?_
  refine rest_set (d := 14) (v := .string s) (w' := w2) rfl rfl rfl (rfl) ?_
  simp only [Act.put, sa, sz, ss]
  refine rest_enter (d := 15) (R := fun vv w' => vv = .bool false ∧ Below w2.heap.size w2 w') rfl rfl rfl (exec_call (args := #[.string s]) rfl call67 rfl (mpn rfl)) (Calls.mono (hnm.out w2 H2.out.2) (fun e w2 hh => ⟨_, hh.1, rfl, hh.2⟩)) ?_
  rintro _ w3 ⟨rfl, hb⟩
  have H3 : Hid (Mm w3 [] ∧ I1 w3) := ⟨H2.out.1.below hb, s1.out _ _ H2.out.2 (hb)⟩
  clear hb
  clear H2
  simp only [Act.put, sa, sz, ss]
  refine rest_set (d := 16) (v := .bool true) (w' := w3) rfl rfl rfl (by go_simp) ?_
  simp only [Act.put, sa, sz, ss]
  refine rest_nil (then_normal ?_)
  refine wp_cond_true rfl (wp_seq ?_)
  refine sq_start (l := [0]) rfl ?_
  refine rest_set (d := 6) (v := .int .i64 2) (w' := w3) rfl rfl rfl (rfl) ?_
  simp only [Act.put, sa, sz, ss]
  refine rest_nil (then_normal (wp_ret ?_))
  repeat (first | refine then_ret ?_ | refine block_ret ?_)
  refine bodyPost_ret (v := .int .i64 2) (by simp [results, Try.results19, go_sem, *]) rfl ?_
  exact ⟨rfl, H3.out.2⟩
set_option maxHeartbeats 2000000 in
set_option maxRecDepth 100000 in
theorem Append_hit (d : Nat) (s : ByteArray) (q : Pt8) (mb rb g N : Nat) (kk : Int) (hN : N ≤ 1048576) (hq : q.n ≤ 281474976710656) (hL : N + q.n ≤ 1048576) (I0 : World → Prop) (I1 : World → Prop) (I2 : Pt8 → World → Prop) (I3 : World → Prop) (I4 : World → Prop) (w : World) (h0 : I0 w) (s0z : ∀ u u', I0 u → Below u.heap.size u u' → I0 u') (s1z : ∀ u u', I1 u → Below u.heap.size u u' → I1 u') (s2z : ∀ q2 u u', I2 q2 u → Below u.heap.size u u' → I2 q2 u') (s3z : ∀ u u', I3 u → Below u.heap.size u u' → I3 u') (s4z : ∀ u u', I4 u → Below u.heap.size u u' → I4 u') (hcoz : ∀ u, I0 u → Calls Try.prog 66 #[PT d 0] u fun e u' => e = .returned (.int .i64 0) ∧ I1 u') (hnmz : ∀ u, I1 u → Calls Try.prog 67 #[.string s] u fun e u' => e = .returned (.bool true) ∧ Below u.heap.size u u') (hmdz : ∀ u, I1 u → Mm u [(d, [Value.map (some mb), Value.map (some rb), Value.int .i64 kk])]) (hlkz : ∀ u, I1 u → (Instr.lookup 39 (.map (some mb)) (.string s) false).run Try.prog u = .ok (PT g 0) u) (hszz : ∀ u, I1 u → Calls Try.prog 68 #[PT g 0] u fun e u' => e = .returned (.int .i64 ((N : Nat) : Int)) ∧ Below u.heap.size u u') (hclz : ∀ u, I1 u → Calls Try.prog 70 #[.slice q.p q.n q.cp] u fun e u' => ∃ q2 : Pt8, e = .returned (.slice q2.p q2.n q2.cp) ∧ I2 q2 u') (hbgz : ∀ q2 u, I2 q2 u → Calls Try.prog 69 #[PT g 0, .agg ([.int .i64 ((N : Nat) : Int), .slice q2.p q2.n q2.cp] : List Value).toArray] u fun e u' => e = .returned (.tuple #[]) ∧ I3 u') (hptz : ∀ u, I3 u → Calls Try.prog 71 #[PT d 0, .string s, PT g 0] u fun e u' => e = .returned (.tuple #[]) ∧ I4 u') :
    Calls Try.prog 19 #[PT d 0, .string s, .slice q.p q.n q.cp] w fun e w' => e = .returned (.int .i64 0) ∧ I4 w' := by
  have H0 : Hid (_ ∧ _) := ⟨Mm.nil w, h0⟩
  have s0 : Hid _ := s0z
  have s1 : Hid _ := s1z
  have s2 : Hid _ := s2z
  have s3 : Hid _ := s3z
  have s4 : Hid _ := s4z
  have hco : Hid _ := hcoz
  have hnm : Hid _ := hnmz
  have hmd : Hid _ := hmdz
  have hlk : Hid _ := hlkz
  have hsz : Hid _ := hszz
  have hcl : Hid _ := hclz
  have hbg : Hid _ := hbgz
  have hpt : Hid _ := hptz
  clear h0 s0z s1z s2z s3z s4z hcoz hnmz hmdz hlkz hszz hclz hbgz hptz
  go_enter Try.func19, Try.ntmps19
  refine wp_seq ?_
  refine sq_startW (l := [0]) rfl (fun u0 hu0 => ?_)
  have H1 : Hid (Mm u0 [] ∧ I0 u0) := by rw [hu0]; exact H0
  clear hu0 H0
  refine rest_set (d := 6) (v := .int .i64 0) (w' := u0) rfl rfl rfl (rfl) ?_
  simp only [Act.put, sa, sz, ss]
  refine rest_nil (then_normal ?_)
  refine wp_seq (wp_seq ?_)
  refine sq_start (l := [0, 1, 2]) rfl ?_
  refine rest_set (d := 9) (v := PT d 0) (w' := u0) rfl rfl rfl (rfl) ?_
  simp only [Act.put, sa, sz, ss]
  refine rest_enter (d := 10) (R := fun vv w' => vv = .int .i64 0 ∧ I1 w') rfl rfl rfl (exec_call (args := #[PT d 0]) rfl call66 rfl (mpn rfl)) (Calls.mono (hco.out u0 H1.out.2) (fun e w2 hh => ⟨_, hh.1, rfl, hh.2⟩)) ?_
  rintro _ w2 ⟨rfl, hI⟩
  have H2 : Hid (Mm w2 [] ∧ I1 w2) := ⟨Mm.nil _, hI⟩
  clear hI H1
  simp only [Act.put, sa, sz, ss]
  refine rest_set (d := 7) (v := .int .i64 0) (w' := w2) rfl rfl rfl (rfl) ?_
  simp only [Act.put, sa, sz, ss]
  refine rest_nil (then_normal (wp_seq ?_))
  refine sq_start (l := [0, 1]) rfl ?_
  refine rest_set (d := 11) (v := .int .i64 0) (w' := w2) rfl rfl rfl (rfl) ?_
  simp only [Act.put, sa, sz, ss]
  refine rest_set (d := 12) (v := .bool false) (w' := w2) rfl rfl rfl (by kernel_rfl) ?_
  simp only [Act.put, sa, sz, ss]
  refine rest_nil (then_normal ?_)
  refine wp_cond_false rfl (wp_skip ?_)
  refine then_normal (wp_seq (wp_seq ?_))
  refine sq_start (l := [0, 1, 2]) rfl ?_
  refine rest_set (d := 14) (v := .string s) (w' := w2) rfl rfl rfl (rfl) ?_
  simp only [Act.put, sa, sz, ss]
  refine rest_enter (d := 15) (R := fun vv w' => vv = .bool true ∧ Below w2.heap.size w2 w') rfl rfl rfl (exec_call (args := #[.string s]) rfl call67 rfl (mpn rfl)) (Calls.mono (hnm.out w2 H2.out.2) (fun e w2 hh => ⟨_, hh.1, rfl, hh.2⟩)) ?_
  rintro _ w3 ⟨rfl, hb⟩
  have H3 : Hid (Mm w3 [] ∧ I1 w3) := ⟨H2.out.1.below hb, s1.out _ _ H2.out.2 (hb)⟩
  clear hb
  clear H2
  simp only [Act.put, sa, sz, ss]
  refine rest_set (d := 16) (v := .bool false) (w' := w3) rfl rfl rfl (by go_simp) ?_
  simp only [Act.put, sa, sz, ss]
  refine rest_nil (then_normal ?_)
  refine wp_cond_false rfl (wp_skip ?_)
  refine then_normal (wp_seq ?_)
  refine sq_start (l := [0, 1, 2, 3, 4, 5, 6]) rfl ?_
  refine rest_set (d := 17) (v := PT d 0) (w' := w3) rfl rfl rfl (rfl) ?_
  simp only [Act.put, sa, sz, ss]
  refine rest_set (d := 18) (v := PT d 0) (w' := w3) rfl rfl rfl (by go_simp) ?_
  simp only [Act.put, sa, sz, ss]
  refine rest_set (d := 19) (v := PT d 0) (w' := w3) rfl rfl rfl (by go_simp) ?_
  simp only [Act.put, sa, sz, ss]
  refine rest_set (d := 20) (v := .map (some mb)) (w' := w3) rfl rfl rfl (ex_loadC (hmd.out w3 H3.out.2) 0 rfl rfl rfl Try.isAgg39 rfl) ?_
  simp only [Act.put, sa, sz, ss]
  refine rest_set (d := 21) (v := .string s) (w' := w3) rfl rfl rfl (rfl) ?_
  simp only [Act.put, sa, sz, ss]
  refine rest_set (d := 22) (v := PT g 0) (w' := w3) rfl rfl rfl (ex_lkp (hlk.out w3 H3.out.2) rfl rfl rfl) ?_
  simp only [Act.put, sa, sz, ss]
  refine rest_set (d := 8) (v := PT g 0) (w' := w3) rfl rfl rfl (rfl) ?_
  simp only [Act.put, sa, sz, ss]
  refine rest_nil (then_normal ?_)
  refine wp_seq (wp_seq ?_)
  refine sq_start (l := [0, 1]) rfl ?_
  refine rest_set (d := 23) (v := PT g 0) (w' := w3) rfl rfl rfl (rfl) ?_
  simp only [Act.put, sa, sz, ss]
  refine rest_set (d := 24) (v := .bool false) (w' := w3) rfl rfl rfl (by go_simp) ?_
  simp only [Act.put, sa, sz, ss]
  refine rest_nil (then_normal ?_)
  refine wp_cond_false rfl (wp_skip ?_)
  refine then_normal (wp_seq (wp_seq ?_))
  refine sq_start (l := [0, 1, 2, 3, 4, 5]) rfl ?_
  refine rest_set (d := 33) (v := PT g 0) (w' := w3) rfl rfl rfl (rfl) ?_
  simp only [Act.put, sa, sz, ss]
  refine rest_enter (d := 34) (R := fun vv w' => vv = .int .i64 ((N : Nat) : Int) ∧ Below w3.heap.size w3 w') rfl rfl rfl (exec_call (args := #[PT g 0]) rfl call68 rfl (mpn rfl)) (Calls.mono (hsz.out w3 H3.out.2) (fun e w2 hh => ⟨_, hh.1, rfl, hh.2⟩)) ?_
  rintro _ w4 ⟨rfl, hb⟩
  have H4 : Hid (Mm w4 [] ∧ I1 w4) := ⟨H3.out.1.below hb, s1.out _ _ H3.out.2 (hb)⟩
  clear hb
  clear H3
  simp only [Act.put, sa, sz, ss]
  refine rest_set (d := 35) (v := .slice q.p q.n q.cp) (w' := w4) rfl rfl rfl (rfl) ?_
  simp only [Act.put, sa, sz, ss]
  refine rest_set (d := 36) (v := .int .i64 ((q.n : Nat) : Int)) (w' := w4) rfl rfl rfl (by go_simp) ?_
  simp only [Act.put, sa, sz, ss]
  refine rest_set (d := 37) (v := .int .i64 ((N + q.n : Nat) : Int)) (w' := w4) rfl rfl rfl (by go_simp; rw [IntKind.wrap_i64]; omega) ?_
  simp only [Act.put, sa, sz, ss]
  refine rest_set (d := 38) (v := .bool false) (w' := w4) rfl rfl rfl (by go_simp <;> omega) ?_
  simp only [Act.put, sa, sz, ss]
  refine rest_nil (then_normal ?_)
  refine wp_cond_false rfl (wp_skip ?_)
  refine then_normal (wp_seq ?_)
  refine sq_start (l := [0, 1, 2, 3, 4, 5, 6]) rfl ?_
  refine rest_set (d := 39) (v := PT g 0) (w' := w4) rfl rfl rfl (rfl) ?_
  simp only [Act.put, sa, sz, ss]
  refine rest_set (d := 40) (v := PT g 0) (w' := w4) rfl rfl rfl (rfl) ?_
  simp only [Act.put, sa, sz, ss]
  refine rest_enter (d := 41) (R := fun vv w' => vv = .int .i64 ((N : Nat) : Int) ∧ Below w4.heap.size w4 w') rfl rfl rfl (exec_call (args := #[PT g 0]) rfl call68 rfl (mpn rfl)) (Calls.mono (hsz.out w4 H4.out.2) (fun e w2 hh => ⟨_, hh.1, rfl, hh.2⟩)) ?_
  rintro _ w5 ⟨rfl, hb⟩
  have H5 : Hid (Mm w5 [] ∧ I1 w5) := ⟨H4.out.1.below hb, s1.out _ _ H4.out.2 (hb)⟩
  clear hb
  clear H4
  simp only [Act.put, sa, sz, ss]
  refine rest_set (d := 42) (v := .slice q.p q.n q.cp) (w' := w5) rfl rfl rfl (rfl) ?_
  simp only [Act.put, sa, sz, ss]
  refine rest_enter (d := 43) (R := fun vv w' => ∃ q2 : Pt8, vv = .slice q2.p q2.n q2.cp ∧ I2 q2 w') rfl rfl rfl (exec_call (args := #[.slice q.p q.n q.cp]) rfl call70 rfl (mpn rfl)) (Calls.mono (hcl.out w5 H5.out.2) (fun e w2 hh => by obtain ⟨q2, he, hI⟩ := hh; exact ⟨_, he, q2, rfl, hI⟩)) ?_
  rintro _ w6 ⟨q2, rfl, hI⟩
  have H6 : Hid (Mm w6 [] ∧ I2 q2 w6) := ⟨Mm.nil _, hI⟩
  clear hI H5
  simp only [Act.put, sa, sz, ss]
  refine rest_set (d := 44) (v := .agg ([Value.int .i64 ((N : Nat) : Int), Value.slice q2.p q2.n q2.cp]).toArray) (w' := w6) rfl rfl rfl (by kernel_rfl) ?_
  simp only [Act.put, sa, sz, ss]
  refine rest_enter (d := 45) (R := fun vv w' => vv = .tuple #[] ∧ I3 w') rfl rfl rfl (exec_call (args := #[PT g 0, .agg ([Value.int .i64 ((N : Nat) : Int), Value.slice q2.p q2.n q2.cp]).toArray]) rfl call69 rfl (mpn rfl)) (Calls.mono (hbg.out q2 w6 H6.out.2) (fun e w2 hh => ⟨_, hh.1, rfl, hh.2⟩)) ?_
  rintro _ w7 ⟨rfl, hI⟩
  have H7 : Hid (Mm w7 [] ∧ I3 w7) := ⟨Mm.nil _, hI⟩
  clear hI H6
  simp only [Act.put, sa, sz, ss]
  refine rest_nil (then_normal (wp_seq ?_))
  refine sq_start (l := [0, 1, 2, 3]) rfl ?_
  refine rest_set (d := 46) (v := PT d 0) (w' := w7) rfl rfl rfl (rfl) ?_
  simp only [Act.put, sa, sz, ss]
  refine rest_set (d := 47) (v := .string s) (w' := w7) rfl rfl rfl (rfl) ?_
  simp only [Act.put, sa, sz, ss]
  refine rest_set (d := 48) (v := PT g 0) (w' := w7) rfl rfl rfl (rfl) ?_
  simp only [Act.put, sa, sz, ss]
  refine rest_enter (d := 49) (R := fun vv w' => vv = .tuple #[] ∧ I4 w') rfl rfl rfl (exec_call (args := #[PT d 0, .string s, PT g 0]) rfl call71 rfl (mpn rfl)) (Calls.mono (hpt.out w7 H7.out.2) (fun e w2 hh => ⟨_, hh.1, rfl, hh.2⟩)) ?_
  rintro _ w8 ⟨rfl, hI⟩
  have H8 : Hid (Mm w8 [] ∧ I4 w8) := ⟨Mm.nil _, hI⟩
  clear hI H7
  simp only [Act.put, sa, sz, ss]
  refine rest_nil (then_normal (wp_seq ?_))
  refine sq_start (l := [0]) rfl ?_
  refine rest_set (d := 6) (v := .int .i64 0) (w' := w8) rfl rfl rfl (rfl) ?_
  simp only [Act.put, sa, sz, ss]
  refine rest_nil (then_normal (wp_ret ?_))
  repeat (first | refine then_ret ?_ | refine block_ret ?_)
  refine bodyPost_ret (v := .int .i64 0) (by simp [results, Try.results19, go_sem, *]) rfl ?_
  exact ⟨rfl, H8.out.2⟩
end Wi
end Rg
end Go.Proofs.Ytidicdlfjdlpnaa
end
section
namespace Go.Proofs.Ytidicdlfjdlpnaa
open Go.RowKit
namespace Rg
namespace Wi
set_option maxRecDepth 100000
set_option maxHeartbeats 2000000 in
set_option maxRecDepth 100000 in
theorem Append_new (d mb rb L N : Nat) (s : ByteArray) (q : Pt8) (kk : Int) (hL64 : L < 64) (hN : N ≤ 1048576) (hq : q.n ≤ 281474976710656) (hL : N + q.n ≤ 1048576) (I0 I1 : World → Prop) (I5 : Nat → World → Prop) (I2 : Nat → Pt8 → World → Prop) (I3 : Nat → World → Prop) (I4 : World → Prop) (w : World) (h0 : I0 w) (s0z : ∀ u u', I0 u → Below u.heap.size u u' → I0 u') (s1z : ∀ u u', I1 u → Below u.heap.size u u' → I1 u') (s5z : ∀ g u u', I5 g u → Below u.heap.size u u' → I5 g u') (hcoz : ∀ u, I0 u → Calls Try.prog 66 #[PT d 0] u fun e u' => e = .returned (.int .i64 0) ∧ I1 u') (hnmz : ∀ u, I1 u → Calls Try.prog 67 #[.string s] u fun e u' => e = .returned (.bool true) ∧ Below u.heap.size u u') (hmdz : ∀ u, I1 u → Mm u [(d, [Value.map (some mb), Value.map (some rb), Value.int .i64 kk])]) (hlkz : ∀ u, I1 u → (Instr.lookup 39 (.map (some mb)) (.string s) false).run Try.prog u = .ok (.pointer none) u) (hlnz : ∀ u, I1 u → ∀ ty, (Builtin.len_ #[39] ty #[.map (some mb)]).run Try.prog u = .ok (.int .i64 ((L : Nat) : Int)) u) (hbxz : ∀ u, I1 u → I5 u.heap.size (u.alloc (.cells ([Value.slice none 0 0, Value.slice none 0 0, Value.bool true] : List Value).toArray 117))) (hszz : ∀ g u, I5 g u → Calls Try.prog 68 #[PT g 0] u fun e u' => e = .returned (.int .i64 ((N : Nat) : Int)) ∧ Below u.heap.size u u') (s2z : ∀ g q2 u u', I2 g q2 u → Below u.heap.size u u' → I2 g q2 u') (s3z : ∀ g u u', I3 g u → Below u.heap.size u u' → I3 g u') (s4z : ∀ u u', I4 u → Below u.heap.size u u' → I4 u') (hclz : ∀ g u, I5 g u → Calls Try.prog 70 #[.slice q.p q.n q.cp] u fun e u' => ∃ q2 : Pt8, e = .returned (.slice q2.p q2.n q2.cp) ∧ I2 g q2 u') (hbgz : ∀ g q2 u, I2 g q2 u → Calls Try.prog 69 #[PT g 0, .agg ([.int .i64 ((N : Nat) : Int), .slice q2.p q2.n q2.cp] : List Value).toArray] u fun e u' => e = .returned (.tuple #[]) ∧ I3 g u') (hptz : ∀ g u, I3 g u → Calls Try.prog 71 #[PT d 0, .string s, PT g 0] u fun e u' => e = .returned (.tuple #[]) ∧ I4 u') :
    Calls Try.prog 19 #[PT d 0, .string s, .slice q.p q.n q.cp] w fun e w' => e = .returned (.int .i64 0) ∧ I4 w' := by
  have H0 : Hid (_ ∧ _) := ⟨Mm.nil w, h0⟩
  have s0 : Hid _ := s0z
  have s1 : Hid _ := s1z
  have s5 : Hid _ := s5z
  have hco : Hid _ := hcoz
  have hnm : Hid _ := hnmz
  have hmd : Hid _ := hmdz
  have hlk : Hid _ := hlkz
  have hln : Hid _ := hlnz
  have hbx : Hid _ := hbxz
  have hsz : Hid _ := hszz
  have s2 : Hid _ := s2z
  have s3 : Hid _ := s3z
  have s4 : Hid _ := s4z
  have hcl : Hid _ := hclz
  have hbg : Hid _ := hbgz
  have hpt : Hid _ := hptz
  clear h0 s0z s1z s5z hcoz hnmz hmdz hlkz hlnz hbxz hszz s2z s3z s4z hclz hbgz hptz
  go_enter Try.func19, Try.ntmps19
  refine wp_seq ?_
  refine sq_startW (l := [0]) rfl (fun u0 hu0 => ?_)
  have H1 : Hid (Mm u0 [] ∧ I0 u0) := by rw [hu0]; exact H0
  clear hu0 H0
  refine rest_set (d := 6) (v := .int .i64 0) (w' := u0) rfl rfl rfl (rfl) ?_
  simp only [Act.put, sa, sz, ss]
  refine rest_nil (then_normal ?_)
  refine wp_seq (wp_seq ?_)
  refine sq_start (l := [0, 1, 2]) rfl ?_
  refine rest_set (d := 9) (v := PT d 0) (w' := u0) rfl rfl rfl (rfl) ?_
  simp only [Act.put, sa, sz, ss]
  refine rest_enter (d := 10) (R := fun vv w' => vv = .int .i64 0 ∧ I1 w') rfl rfl rfl (exec_call (args := #[PT d 0]) rfl call66 rfl (mpn rfl)) (Calls.mono (hco.out u0 H1.out.2) (fun e w2 hh => ⟨_, hh.1, rfl, hh.2⟩)) ?_
  rintro _ w2 ⟨rfl, hI⟩
  have H2 : Hid (Mm w2 [] ∧ I1 w2) := ⟨Mm.nil _, hI⟩
  clear hI H1
  simp only [Act.put, sa, sz, ss]
  refine rest_set (d := 7) (v := .int .i64 0) (w' := w2) rfl rfl rfl (rfl) ?_
  simp only [Act.put, sa, sz, ss]
  refine rest_nil (then_normal (wp_seq ?_))
  refine sq_start (l := [0, 1]) rfl ?_
  refine rest_set (d := 11) (v := .int .i64 0) (w' := w2) rfl rfl rfl (rfl) ?_
  simp only [Act.put, sa, sz, ss]
  refine rest_set (d := 12) (v := .bool false) (w' := w2) rfl rfl rfl (by kernel_rfl) ?_
  simp only [Act.put, sa, sz, ss]
  refine rest_nil (then_normal ?_)
  refine wp_cond_false rfl (wp_skip ?_)
  refine then_normal (wp_seq (wp_seq ?_))
  refine sq_start (l := [0, 1, 2]) rfl ?_
  refine rest_set (d := 14) (v := .string s) (w' := w2) rfl rfl rfl (rfl) ?_
  simp only [Act.put, sa, sz, ss]
  refine rest_enter (d := 15) (R := fun vv w' => vv = .bool true ∧ Below w2.heap.size w2 w') rfl rfl rfl (exec_call (args := #[.string s]) rfl call67 rfl (mpn rfl)) (Calls.mono (hnm.out w2 H2.out.2) (fun e w2 hh => ⟨_, hh.1, rfl, hh.2⟩)) ?_
  rintro _ w3 ⟨rfl, hb⟩
  have H3 : Hid (Mm w3 [] ∧ I1 w3) := ⟨H2.out.1.below hb, s1.out _ _ H2.out.2 (hb)⟩
  clear hb
  clear H2
  simp only [Act.put, sa, sz, ss]
  refine rest_set (d := 16) (v := .bool false) (w' := w3) rfl rfl rfl (by go_simp) ?_
  simp only [Act.put, sa, sz, ss]
  refine rest_nil (then_normal ?_)
  refine wp_cond_false rfl (wp_skip ?_)
  refine then_normal (wp_seq ?_)
  refine sq_start (l := [0, 1, 2, 3, 4, 5, 6]) rfl ?_
  refine rest_set (d := 17) (v := PT d 0) (w' := w3) rfl rfl rfl (rfl) ?_
  simp only [Act.put, sa, sz, ss]
  refine rest_set (d := 18) (v := PT d 0) (w' := w3) rfl rfl rfl (by go_simp) ?_
  simp only [Act.put, sa, sz, ss]
  refine rest_set (d := 19) (v := PT d 0) (w' := w3) rfl rfl rfl (by go_simp) ?_
  simp only [Act.put, sa, sz, ss]
  refine rest_set (d := 20) (v := .map (some mb)) (w' := w3) rfl rfl rfl (ex_loadC (hmd.out w3 H3.out.2) 0 rfl rfl rfl Try.isAgg39 rfl) ?_
  simp only [Act.put, sa, sz, ss]
  refine rest_set (d := 21) (v := .string s) (w' := w3) rfl rfl rfl (rfl) ?_
  simp only [Act.put, sa, sz, ss]
  refine rest_set (d := 22) (v := .pointer none) (w' := w3) rfl rfl rfl (ex_lkp (hlk.out w3 H3.out.2) rfl rfl rfl) ?_
  simp only [Act.put, sa, sz, ss]
  refine rest_set (d := 8) (v := .pointer none) (w' := w3) rfl rfl rfl (rfl) ?_
  simp only [Act.put, sa, sz, ss]
  refine rest_nil (then_normal ?_)
  refine wp_seq (wp_seq ?_)
  refine sq_start (l := [0, 1]) rfl ?_
  refine rest_set (d := 23) (v := .pointer none) (w' := w3) rfl rfl rfl (rfl) ?_
  simp only [Act.put, sa, sz, ss]
  refine rest_set (d := 24) (v := .bool true) (w' := w3) rfl rfl rfl (by kernel_rfl) ?_
  simp only [Act.put, sa, sz, ss]
  refine rest_nil (then_normal ?_)
  refine wp_cond_true rfl (wp_seq (wp_seq ?_))
  refine sq_start (l := [0, 1, 2, 3, 4, 5]) rfl ?_
  refine rest_set (d := 25) (v := PT d 0) (w' := w3) rfl rfl rfl (rfl) ?_
  simp only [Act.put, sa, sz, ss]
  refine rest_set (d := 26) (v := PT d 0) (w' := w3) rfl rfl rfl (by go_simp) ?_
  simp only [Act.put, sa, sz, ss]
  refine rest_set (d := 27) (v := PT d 0) (w' := w3) rfl rfl rfl (by go_simp) ?_
  simp only [Act.put, sa, sz, ss]
  refine rest_set (d := 28) (v := .map (some mb)) (w' := w3) rfl rfl rfl (ex_loadC (hmd.out w3 H3.out.2) 0 rfl rfl rfl Try.isAgg39 rfl) ?_
  simp only [Act.put, sa, sz, ss]
  refine rest_set (d := 29) (v := .int .i64 ((L : Nat) : Int)) (w' := w3) rfl rfl rfl (ex_lnm (hln.out w3 H3.out.2) rfl rfl) ?_
  simp only [Act.put, sa, sz, ss]
  refine rest_set (d := 30) (v := .bool false) (w' := w3) rfl rfl rfl (by go_simp <;> omega) ?_
  simp only [Act.put, sa, sz, ss]
  refine rest_nil (then_normal ?_)
  refine wp_cond_false rfl (wp_skip (then_normal ?_))
  refine sq_start (l := [0, 1, 2]) rfl ?_
  refine rest_set (d := 31) (v := .agg ([Value.slice none 0 0, Value.slice none 0 0, Value.bool true]).toArray) (w' := w3) rfl rfl rfl (by kernel_rfl) ?_
  simp only [Act.put, sa, sz, ss]
  refine rest_set (d := 32) (v := PT w3.heap.size 0) (w' := (w3.alloc (.cells ([Value.slice none 0 0, Value.slice none 0 0, Value.bool true] : List Value).toArray 117))) rfl rfl rfl (ex_boxT rfl rfl) ?_
  simp only [Act.put, sa, sz, ss]
  have H4 : Hid (Mm (w3.alloc (.cells ([Value.slice none 0 0, Value.slice none 0 0, Value.bool true] : List Value).toArray 117)) [] ∧ I5 w3.heap.size (w3.alloc (.cells ([Value.slice none 0 0, Value.slice none 0 0, Value.bool true] : List Value).toArray 117))) := ⟨Mm.nil _, hbx.out w3 H3.out.2⟩
  clear H3
  generalize hgw : w3.alloc (.cells ([Value.slice none 0 0, Value.slice none 0 0, Value.bool true] : List Value).toArray 117) = w4 at H4 ⊢
  clear hgw
  generalize w3.heap.size = g at H4 ⊢
  refine rest_set (d := 8) (v := PT g 0) (w' := w4) rfl rfl rfl (rfl) ?_
  simp only [Act.put, sa, sz, ss]
  refine rest_nil (then_normal ?_)
  refine wp_seq (wp_seq ?_)
  refine sq_start (l := [0, 1, 2, 3, 4, 5]) rfl ?_
  refine rest_set (d := 33) (v := PT g 0) (w' := w4) rfl rfl rfl (rfl) ?_
  simp only [Act.put, sa, sz, ss]
  refine rest_enter (d := 34) (R := fun vv w' => vv = .int .i64 ((N : Nat) : Int) ∧ Below w4.heap.size w4 w') rfl rfl rfl (exec_call (args := #[PT g 0]) rfl call68 rfl (mpn rfl)) (Calls.mono (hsz.out g w4 H4.out.2) (fun e w2 hh => ⟨_, hh.1, rfl, hh.2⟩)) ?_
  rintro _ w5 ⟨rfl, hb⟩
  have H5 : Hid (Mm w5 [] ∧ I5 g w5) := ⟨H4.out.1.below hb, s5.out g _ _ H4.out.2 (hb)⟩
  clear hb
  clear H4
  simp only [Act.put, sa, sz, ss]
  refine rest_set (d := 35) (v := .slice q.p q.n q.cp) (w' := w5) rfl rfl rfl (rfl) ?_
  simp only [Act.put, sa, sz, ss]
  refine rest_set (d := 36) (v := .int .i64 ((q.n : Nat) : Int)) (w' := w5) rfl rfl rfl (by go_simp) ?_
  simp only [Act.put, sa, sz, ss]
  refine rest_set (d := 37) (v := .int .i64 ((N + q.n : Nat) : Int)) (w' := w5) rfl rfl rfl (by go_simp; rw [IntKind.wrap_i64]; omega) ?_
  simp only [Act.put, sa, sz, ss]
  refine rest_set (d := 38) (v := .bool false) (w' := w5) rfl rfl rfl (by go_simp <;> omega) ?_
  simp only [Act.put, sa, sz, ss]
  refine rest_nil (then_normal ?_)
  refine wp_cond_false rfl (wp_skip ?_)
  refine then_normal (wp_seq ?_)
  refine sq_start (l := [0, 1, 2, 3, 4, 5, 6]) rfl ?_
  refine rest_set (d := 39) (v := PT g 0) (w' := w5) rfl rfl rfl (rfl) ?_
  simp only [Act.put, sa, sz, ss]
  refine rest_set (d := 40) (v := PT g 0) (w' := w5) rfl rfl rfl (rfl) ?_
  simp only [Act.put, sa, sz, ss]
  refine rest_enter (d := 41) (R := fun vv w' => vv = .int .i64 ((N : Nat) : Int) ∧ Below w5.heap.size w5 w') rfl rfl rfl (exec_call (args := #[PT g 0]) rfl call68 rfl (mpn rfl)) (Calls.mono (hsz.out g w5 H5.out.2) (fun e w2 hh => ⟨_, hh.1, rfl, hh.2⟩)) ?_
  rintro _ w6 ⟨rfl, hb⟩
  have H6 : Hid (Mm w6 [] ∧ I5 g w6) := ⟨H5.out.1.below hb, s5.out g _ _ H5.out.2 (hb)⟩
  clear hb
  clear H5
  simp only [Act.put, sa, sz, ss]
  refine rest_set (d := 42) (v := .slice q.p q.n q.cp) (w' := w6) rfl rfl rfl (rfl) ?_
  simp only [Act.put, sa, sz, ss]
  refine rest_enter (d := 43) (R := fun vv w' => ∃ q2 : Pt8, vv = .slice q2.p q2.n q2.cp ∧ I2 g q2 w') rfl rfl rfl (exec_call (args := #[.slice q.p q.n q.cp]) rfl call70 rfl (mpn rfl)) (Calls.mono (hcl.out g w6 H6.out.2) (fun e w2 hh => by obtain ⟨q2, he, hI⟩ := hh; exact ⟨_, he, q2, rfl, hI⟩)) ?_
  rintro _ w7 ⟨q2, rfl, hI⟩
  have H7 : Hid (Mm w7 [] ∧ I2 g q2 w7) := ⟨Mm.nil _, hI⟩
  clear hI H6
  simp only [Act.put, sa, sz, ss]
  refine rest_set (d := 44) (v := .agg ([Value.int .i64 ((N : Nat) : Int), Value.slice q2.p q2.n q2.cp]).toArray) (w' := w7) rfl rfl rfl (by kernel_rfl) ?_
  simp only [Act.put, sa, sz, ss]
  refine rest_enter (d := 45) (R := fun vv w' => vv = .tuple #[] ∧ I3 g w') rfl rfl rfl (exec_call (args := #[PT g 0, .agg ([Value.int .i64 ((N : Nat) : Int), Value.slice q2.p q2.n q2.cp]).toArray]) rfl call69 rfl (mpn rfl)) (Calls.mono (hbg.out g q2 w7 H7.out.2) (fun e w2 hh => ⟨_, hh.1, rfl, hh.2⟩)) ?_
  rintro _ w8 ⟨rfl, hI⟩
  have H8 : Hid (Mm w8 [] ∧ I3 g w8) := ⟨Mm.nil _, hI⟩
  clear hI H7
  simp only [Act.put, sa, sz, ss]
  refine rest_nil (then_normal (wp_seq ?_))
  refine sq_start (l := [0, 1, 2, 3]) rfl ?_
  refine rest_set (d := 46) (v := PT d 0) (w' := w8) rfl rfl rfl (rfl) ?_
  simp only [Act.put, sa, sz, ss]
  refine rest_set (d := 47) (v := .string s) (w' := w8) rfl rfl rfl (rfl) ?_
  simp only [Act.put, sa, sz, ss]
  refine rest_set (d := 48) (v := PT g 0) (w' := w8) rfl rfl rfl (rfl) ?_
  simp only [Act.put, sa, sz, ss]
  refine rest_enter (d := 49) (R := fun vv w' => vv = .tuple #[] ∧ I4 w') rfl rfl rfl (exec_call (args := #[PT d 0, .string s, PT g 0]) rfl call71 rfl (mpn rfl)) (Calls.mono (hpt.out g w8 H8.out.2) (fun e w2 hh => ⟨_, hh.1, rfl, hh.2⟩)) ?_
  rintro _ w9 ⟨rfl, hI⟩
  have H9 : Hid (Mm w9 [] ∧ I4 w9) := ⟨Mm.nil _, hI⟩
  clear hI H8
  simp only [Act.put, sa, sz, ss]
  refine rest_nil (then_normal (wp_seq ?_))
  refine sq_start (l := [0]) rfl ?_
  refine rest_set (d := 6) (v := .int .i64 0) (w' := w9) rfl rfl rfl (rfl) ?_
  simp only [Act.put, sa, sz, ss]
  refine rest_nil (then_normal (wp_ret ?_))
  repeat (first | refine then_ret ?_ | refine block_ret ?_)
  refine bodyPost_ret (v := .int .i64 0) (by simp [results, Try.results19, go_sem, *]) rfl ?_
  exact ⟨rfl, H9.out.2⟩
end Wi
end Rg
end Go.Proofs.Ytidicdlfjdlpnaa
end
section
namespace Go.Proofs.Ytidicdlfjdlpnaa
open Go.RowKit
namespace Rg
namespace Wi
set_option maxRecDepth 100000
/-- Bytes that may be read, of memory that is not the disk's. -/
def Rq (q : Pt8) (D : Dq) (w : World) : Prop := Pok q ∧ (q.p = none → q.cp = 0) ∧ q.rs w ∧ (0 < q.n → q.gb ∉ D.bl)
theorem Rq.chg {q : Pt8} {D : Dq} {w u : World} (h : Rq q D w) (hc : Chg D.bl w u) : Pok q ∧ (q.p = none → q.cp = 0) ∧ q.rs u := by
  obtain ⟨h1, h2, h3, h4⟩ := h
  refine ⟨h1, h2, fun hn => Nat.lt_of_lt_of_le (h3.lt hn) hc.size, fun i hi => ?_⟩
  rw [hc.cell (p := ⟨q.gb, q.o + i, none⟩) (h3.lt (by omega)) (h4 (by omega))]
  exact h3.at_ i hi
theorem Cw.part {w u : World} {v : Value} {n : Nat} {P : Nat → Nat} (h : Cw w v n P u) : ∃ q : Pt8, v = .slice q.p q.n q.cp ∧ Pok q ∧ (q.p = none → q.cp = 0) ∧ q.n = n ∧ q.f = P ∧ q.rs u ∧ (0 < q.n → w.heap.size ≤ q.gb) := by
  obtain ⟨q, e1, e2, e3, e4, e5, e6, e7⟩ := own_part h.own
  exact ⟨q, e1, e2, e3, e4, e5, e6, fun hn => (World.ownsRow.lt h.own _ (e7 hn)).1⟩
theorem uob_at {o : Uop} {x : Nat} (h : x ∈ uob o) : 0 < o.q.n ∧ x = o.q.gb := by
  unfold uob at h
  split at h
  · simp at h
  · simp at h
    exact ⟨by omega, h⟩
theorem more_bl {f : Fq} {v : Value} {o : Uop} {B : Nat → Prop} (h1 : ∀ x ∈ vbl v, x ∈ f.bl ∨ B x) (h2 : ∀ x ∈ uob o, x ∈ f.bl ∨ B x) : ∀ x ∈ (f.more v o).bl, x ∈ f.bl ∨ B x := fun x hx => by
  unfold Fq.bl Fq.more fbl at hx
  simp only [List.mem_cons, List.mem_append, List.mem_flatMap] at hx
  rcases hx with hx | hx | hx | ⟨p, hp, hx⟩
  · exact .inl (by rw [hx]; exact List.mem_cons_self ..)
  · exact .inl (by unfold Fq.bl fbl; simp [hx])
  · exact h1 x hx
  · rcases hp with hp | hp | hp
    · exact .inl (by unfold Fq.bl fbl; simp only [List.mem_cons, List.mem_append, List.mem_flatMap]; exact .inr (.inr (.inr ⟨p, hp, hx⟩)))
    · subst hp
      exact h2 x hx
    · cases hp
theorem DOk.swapB {w w' : World} {D : Dq} {f f' : Fq} (h : DOk w D) (hf : f ∈ D.fs) (hn : f'.nm = f.nm) (hg : f'.g = f.g) (hF : FOk w' f') (hc : Chg f.bl w w') (hb : ∀ x ∈ f'.bl, x ∈ f.bl ∨ x ∉ D.bl) : DOk w' (D.swap f f') := by
  obtain ⟨X, x1, x2, x3, x4⟩ := h.mp
  obtain ⟨n, Y, y1, y2⟩ := h.rm
  have hsg : ∀ x ∈ D.fs, (swp f f' x).g = x.g := fun x hx => by
    unfold swp
    split
    · rename_i e; rw [hg, nm_inj h.un hx hf e]
    · rfl
  have key : ∀ x ∈ D.fs, (x = f ∧ swp f f' x = f') ∨ (x.nm ≠ f.nm ∧ swp f f' x = x) := fun x hx => by
    by_cases e : x.nm = f.nm
    · exact .inl ⟨nm_inj h.un hx hf e, by unfold swp; rw [if_pos e]⟩
    · exact .inr ⟨e, by unfold swp; rw [if_neg e]⟩
  refine ⟨hc.mm h.cel (fun p hp hm => ?_), ⟨X, (show (D.swap f f').fs.length = D.fs.length from List.length_map ..) ▸ ownMap_keep x1 (hc.block _ x1.lt (fun hm => ((h.hd f hf) _ hm).2.1 rfl)), fun s => ?_, fun s => ?_, ?_⟩, ⟨n, Y, ownMap_keep y1 (hc.block _ y1.lt (fun hm => ((h.hd f hf) _ hm).2.2 rfl)), y2⟩, fun y hy => ?_, fun y hy z hz hne x hx => ?_, fun y hy x hx => ?_, h.h3, ?_, h.k1, by show (D.fs.map (swp f f')).length ≤ 64; rw [List.length_map]; exact h.n64⟩
  · obtain rfl := List.mem_singleton.1 hp
    exact ((h.hd f hf) _ hm).1 rfl
  · rw [x2 s]
    show dv (lk D.fs s) = dv (lk (D.fs.map (swp f f')) s)
    rw [lk_swap hn]
    cases hl : lk D.fs s with
    | none => rfl
    | some x => exact congrArg DataW.held (hsg x (lk_mem hl).1).symm
  · rw [x3 s]
    show (lk D.fs s).isSome = (lk (D.fs.map (swp f f')) s).isSome
    rw [lk_swap hn, Option.isSome_map]
  · rw [x4]
    exact (List.length_map ..).symm
  · obtain ⟨x, hx, rfl⟩ := List.mem_map.1 hy
    rcases key x hx with ⟨_, e⟩ | ⟨e1, e⟩
    · rw [e]; exact hF
    · rw [e]; exact (h.fl x hx).chg hc (h.ap x hx f hf e1)
  · obtain ⟨y0, hy0, rfl⟩ := List.mem_map.1 hy
    obtain ⟨z0, hz0, rfl⟩ := List.mem_map.1 hz
    rw [swp_nm hn, swp_nm hn] at hne
    rcases key y0 hy0 with ⟨a1, a2⟩ | ⟨a1, a2⟩ <;> rcases key z0 hz0 with ⟨b1, b2⟩ | ⟨b1, b2⟩
    · exact absurd (by rw [a1, b1]) hne
    · rw [a2] at hx
      rw [b2]
      rcases hb x hx with e | e
      · exact h.ap f hf z0 hz0 (fun e => b1 e.symm) x e
      · exact fun hm => e (Dq.fbl hz0 x hm)
    · rw [a2] at hx
      rw [b2]
      intro hm
      rcases hb x hm with e | e
      · exact h.ap y0 hy0 f hf a1 x hx e
      · exact e (Dq.fbl hy0 x hx)
    · rw [a2] at hx
      rw [b2]
      exact h.ap y0 hy0 z0 hz0 hne x hx
  · obtain ⟨y0, hy0, rfl⟩ := List.mem_map.1 hy
    rcases key y0 hy0 with ⟨_, a2⟩ | ⟨_, a2⟩
    · rw [a2] at hx
      rcases hb x hx with e | e
      · exact (h.hd f hf) x e
      · unfold Dq.bl at e
        simp only [List.mem_cons, not_or] at e
        exact ⟨e.1, e.2.1, e.2.2.1⟩
    · rw [a2] at hx
      exact (h.hd y0 hy0) x hx
  · show ((D.fs.map (swp f f')).map Fq.nm).Nodup
    rw [List.map_map, show Fq.nm ∘ swp f f' = Fq.nm from funext (swp_nm hn)]
    exact h.un
theorem DOk.blt {w : World} {D : Dq} (h : DOk w D) : ∀ x ∈ D.bl, x < w.heap.size := fun x hx => by
  unfold Dq.bl at hx
  simp only [List.mem_cons, List.mem_flatMap] at hx
  obtain ⟨X, x1, _⟩ := h.mp
  obtain ⟨n, Y, y1, _⟩ := h.rm
  rcases hx with e | e | e | ⟨f, hf, e⟩
  · rw [e]; exact (h.cel.blk _ (List.mem_cons_self ..)).1
  · rw [e]; exact x1.lt
  · rw [e]; exact y1.lt
  · exact (h.fl f hf).lt x e
/-- An append under way. -/
def appo (N : Nat) (q : Pt8) : Uop := ⟨N, q⟩
theorem Append_hit_f (D : Dq) (s : ByteArray) (hs : s.size ≤ 281474976710656) (q : Pt8) (f : Fq) (w : World) (h : DOk w D) (hk : D.k + 1 < 4611686018427387904) (hq : Rq q D w) (hno : D.no = false) (hnm : nmd s = true) (hl : lk D.fs s = some f) (hops : f.ops.length < 1000000) (hL : f.N + q.n ≤ 1048576) :
    Calls Try.prog 19 #[PT D.d 0, .string s, .slice q.p q.n q.cp] w fun e w' => e = .returned (.int .i64 0) ∧ ∃ (q2 : Pt8) (v : Value), q2.n = q.n ∧ q2.f = q.f ∧ Dw w D (D.tick.swap f (f.more v (appo f.N q2))) w' := by
  have hm := (lk_mem hl).1
  have hsz : s.size ≤ maxLen := by unfold maxLen; omega
  have hN : f.N ≤ 1048576 := (h.fl f hm).N1
  have hb0 : ∀ u u', Below w.heap.size w u → Below u.heap.size u u' → Below w.heap.size w u' := fun u u' h1 h2 => h1.trans (h2.mono h1.size)
  let I2 : Pt8 → World → Prop := fun q2 u => Dw w D D.tick u ∧ (appo f.N q2).ok u ∧ q2.n = q.n ∧ q2.f = q.f ∧ ∃ u0, DOk u0 D.tick ∧ (0 < q2.n → u0.heap.size ≤ q2.gb) ∧ w.heap.size ≤ u0.heap.size
  let I4 : World → Prop := fun u => ∃ (q2 : Pt8) (v : Value), q2.n = q.n ∧ q2.f = q.f ∧ Dw w D (D.tick.swap f (f.more v (appo f.N q2))) u
  have s4 : ∀ u u', I4 u → Below u.heap.size u u' → I4 u' := fun u u' ⟨q2, v, e1, e2, e3⟩ hb => ⟨q2, v, e1, e2, Dw.step _ _ e3 hb⟩
  refine Append_hit D.d s q D.mb D.rb f.g f.N ((D.k + 1 : Nat) : Int) hN (by omega) hL (fun u => Below w.heap.size w u) (Dw w D D.tick) I2 I4 I4 w (Below.refl _ _) hb0 Dw.step
    (fun q2 u u' ⟨e1, e2, e3, e4, u0, e5, e6⟩ hb => ⟨Dw.step _ _ e1 hb, e2.below hb, e3, e4, u0, e5, e6⟩) s4 s4 ?_ ?_ (fun u hu => hu.1.cel) ?_ (fun u hu => size_f f u (hu.1.fl f hm)) ?_ ?_ ?_
  · intro u hu
    refine (count_f D u (h.below hu) hk).mono fun e u' hh => ⟨by rw [hh.1, hno]; rfl, hh.2.1, (Chg.of hu).trans hh.2.2 (fun x hx => .inl hx), fun x hx => .inl hx⟩
  · intro u _
    exact (named_any s u).mono fun e u' hh => ⟨by rw [hh.1, hnm], hh.2⟩
  · intro u hu
    have e := hu.1.look (u := u) s hsz rfl
    rw [show lk D.tick.fs s = some f from hl] at e
    exact e
  · intro u hu
    obtain ⟨r1, r2, r3⟩ := hq.chg hu.2.1
    refine (clone_any q (by omega) u r1 r2 r3).mono fun e u' hh => ?_
    obtain ⟨v, e1, e2⟩ := hh
    obtain ⟨q2, t1, t2, t3, t4, t5, t6, t7⟩ := e2.part
    exact ⟨q2, by rw [e1, t1], ⟨Dw.step _ _ hu e2.b, ⟨t2, t3, t6⟩, t4, t5, u, hu.1, t7, hu.2.1.size⟩⟩
  · intro q2 u hu
    obtain ⟨e1, e2, e3, e4, u0, e5, e6, e7⟩ := hu
    have hap : ∀ x ∈ uob (appo f.N q2), x ∉ f.bl := fun x hx hx2 => by
      obtain ⟨k1, k2⟩ := uob_at hx
      have k3 := e6 k1
      have k4 := (e5.fl f hm).lt x hx2
      rw [k2] at k4
      exact absurd k4 (Nat.not_lt.2 k3)
    refine (begin_f f (appo f.N q2) u (e1.1.fl f hm) hops e2 hap (Nat.le_refl _) (by show f.N + q2.n ≤ _; rw [e3]; exact hL) (.inl rfl)).mono fun e u' hh => ?_
    obtain ⟨k1, v, k2, k3, k4⟩ := hh
    have hB : ∀ x, u.heap.size ≤ x → x ∉ D.tick.bl := fun x hx hm2 => absurd (e1.1.blt x hm2) (Nat.not_lt.2 hx)
    have hbl := more_bl (f := f) (v := v) (o := appo f.N q2) (B := fun x => x ∉ D.tick.bl) (fun x hx => (k4 x hx).imp_right (hB x)) (fun x hx => .inr (fun hm2 => by
      obtain ⟨t1, t2⟩ := uob_at hx
      have t3 := e5.blt x hm2
      rw [t2] at t3
      exact absurd t3 (Nat.not_lt.2 (e6 t1))))
    exact ⟨k1, q2, v, e3, e4, e1.1.swapB (f' := f.more v (appo f.N q2)) hm rfl rfl k2 k3 hbl, e1.2.1.trans k3 (fun x hx => .inl (Dq.fbl hm x hx)), fun x hx => (Dq.swap_bl hx).elim .inl (fun e => (more_bl (f := f) (v := v) (o := appo f.N q2) (B := fun x => w.heap.size ≤ x) (fun x hx => (k4 x hx).imp_right (Nat.le_trans e1.2.1.size)) (fun x hx => .inr (by obtain ⟨t1, t2⟩ := uob_at hx; rw [t2]; exact Nat.le_trans e7 (e6 t1))) x e).elim (fun e => .inl (Dq.fbl hm x e)) .inr)⟩
  · intro u hu
    obtain ⟨q2, v, e1, e2, e3⟩ := hu
    have hl2 : lk (D.tick.swap f (f.more v (appo f.N q2))).fs s = some (f.more v (appo f.N q2)) := by
      show lk (D.fs.map (swp f (f.more v (appo f.N q2)))) s = _
      rw [lk_swap (f := f) (f' := f.more v (appo f.N q2)) rfl, hl]
      show some (swp f _ f) = _
      unfold swp
      rw [if_pos rfl]
    refine put_any D.d D.mb D.rb f.g ((D.k + 1 : Nat) : Int) s hs I4 u e3.1.cel s4 (fun u1 hu1 => ?_)
    obtain ⟨u', r1, r2, r3⟩ := (e3.1.below hu1).putSame hsz hl2
    exact ⟨u', r1, q2, v, e1, e2, r2, (e3.2.1.below hu1).trans r3 (fun x hx => .inl (by rw [List.mem_singleton.1 hx]; show D.mb ∈ D.bl; unfold Dq.bl; simp)), e3.2.2⟩
end Wi
end Rg
end Go.Proofs.Ytidicdlfjdlpnaa
end
