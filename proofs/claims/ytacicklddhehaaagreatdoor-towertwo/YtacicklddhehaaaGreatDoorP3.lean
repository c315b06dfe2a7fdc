/- Texts of the proof, joined. -/
import Derived.Test.YtacicklddhehaaaGreatDoorP2
set_option maxRecDepth 100000
section
namespace Go.Proofs.YtacicklddhehaaaGreatDoor
open Go.RowKit
namespace Rg
section
variable {P : Program} {ops : Array Oper} {ks : List Kind} {a₀ : Act} {w₀ : World} {Q : Exit → Act → World → Prop}
theorem fill_off (J : Nat → Nat) (d : Nat) : ∀ (os : List Oper) (ks : List Kind) (a : Act) (i : Nat), (∀ (j : Nat) (o : Oper), os[j]? = some o → o.dst ≠ some d) → (yB J i os ks a).tmps[d]? = a.tmps[d]?
  | [], _, _, _, _ => rfl
  | _ :: _, [], _, _, _ => rfl
  | o :: os, k :: ks, a, i, h => by
    show (yB J (i + 1) os ks (a.put o.dst (k.val J i))).tmps[d]? = _
    rw [fill_off J d os ks _ (i + 1) (fun j o' hj => h (j + 1) o' (by simpa using hj))]
    have h0 := h 0 o rfl
    cases hd : o.dst with
    | none => rfl
    | some t =>
      rw [hd] at h0
      simp only [Act.put, Array.getElem?_setIfInBounds]
      rw [if_neg (fun e => h0 (by rw [e]))]
theorem put_comm (a : Act) (d t : Nat) (v u : Value) (h : t ≠ d) : (a.put (some d) v).put (some t) u = (a.put (some t) u).put (some d) v := by
  simp only [Act.put, Act.mk.injEq, and_true]
  exact Array.setIfInBounds_comm _ _ (Ne.symm h)
theorem fill_put (J : Nat → Nat) (d : Nat) (v : Value) : ∀ (os : List Oper) (ks : List Kind) (a : Act) (i : Nat), (∀ (j : Nat) (o : Oper), os[j]? = some o → o.dst ≠ some d) → yB J i os ks (a.put (some d) v) = (yB J i os ks a).put (some d) v
  | [], _, _, _, _ => rfl
  | _ :: _, [], _, _, _ => rfl
  | o :: os, k :: ks, a, i, h => by
    show yB J (i + 1) os ks ((a.put (some d) v).put o.dst (k.val J i)) = (yB J (i + 1) os ks (a.put o.dst (k.val J i))).put (some d) v
    have h0 := h 0 o rfl
    rw [← fill_put J d v os ks _ (i + 1) (fun j o' hj => h (j + 1) o' (by simpa using hj))]
    cases hd : o.dst with
    | none => rfl
    | some t => rw [put_comm a d t v _ (fun e => by rw [hd, e] at h0; exact h0 rfl)]
theorem rest_anyU {full : Array Oper} (p : Nat) (hup : ∀ {i : Nat} {o : Oper}, full[i]? = some o → ∀ e ∈ o.after, Region.binds .any e = true → e.on < i)
    (hwt : ∀ {i : Nat} {o : Oper}, full[i]? = some o → p ≤ i → ∀ j, j < i → waitsT full 12 o j = true) : ∀ (m fuel q : Nat) (l : Array Bool) (a : Act) (w : World), q + m = full.size → p ≤ q → l.size = full.size → m ≤ fuel → Closed full l →
      (∀ i, i < q → l.getD i false = true) → (∀ i, q ≤ i → i < full.size → l.getD i true = false) → wpOps P full Q (List.range' q m) a w → wpAny P .any full Q fuel l a w := by
  intro m
  induction m with
  | zero =>
    intro fuel q l a w hq hpq hsz hfu hcl hl hu h
    have hr : Region.ready .any full l = [] := by
      refine List.eq_nil_iff_forall_not_mem.2 fun i hi => ?_
      obtain ⟨h1, o, ho, _⟩ := mem_ready.1 hi
      have h2 := hl i (by have := (Array.getElem?_eq_some_iff.1 ho).1; omega)
      rw [(getD_same h1).1] at h2
      cases h2
    have hQ : Q .normal a w := h
    cases fuel with
    | zero => exact ⟨hr, hQ⟩
    | succ f => exact ⟨fun _ => hQ, by rw [hr]; simp⟩
  | succ m ih =>
    intro fuel q l a w hq hpq hsz hfu hcl hl hu h
    cases fuel with
    | zero => omega
    | succ f =>
      have hqs : q < full.size := by omega
      have hqr : q ∈ Region.ready .any full l := mem_ready.2 ⟨hu q (Nat.le_refl _) hqs, full[q], Array.getElem?_eq_getElem hqs, fun e he hb => hl _ (hup (Array.getElem?_eq_getElem hqs) e he hb)⟩
      refine ⟨fun hr => absurd hqr (by rw [hr]; simp), fun i hi => ?_⟩
      obtain ⟨hun, o, ho, hedge⟩ := mem_ready.1 hi
      have hilt : i < full.size := (Array.getElem?_eq_some_iff.1 ho).1
      have hiq : i = q := by
        rcases Nat.lt_trichotomy i q with h' | h' | h'
        · have h2 := hl i h'
          rw [(getD_same hun).1] at h2
          cases h2
        · exact h'
        · have h2 := waitsT_spec hcl 12 o (hwt ho (by omega) q h') hedge
          rw [(getD_same (hu q (Nat.le_refl _) hqs)).1] at h2
          cases h2
      subst hiq
      rw [List.range'_succ, wpOps_cons] at h
      refine wpOp_mono (fun a' w' h' => ?_) h
      refine ih f (i + 1) _ a' w' (by omega) (by omega) (by simp [hsz]) (by omega) (hcl.step ho hedge) (fun j hj => ?_) (fun j hj hj2 => ?_) h'
      · rcases Nat.lt_or_ge j i with h2 | h2
        · exact getD_true (hl j h2)
        · have : j = i := by omega
          subst this
          exact (getD_same hun).2
      · rw [getD_set_ne true (by omega)]
        exact hu j (by omega) hj2
theorem after_putU {full : Array Oper} {n p : Nat} (hO : Orderly ops ks n) (hn : n = a₀.tmps.size) (hp : ops.size = p) (hpf : p + 1 ≤ full.size) (hfull : ∀ i, i < p → full[i]? = ops[i]?) (hgd : ∀ {i : Nat} {o : Oper} {g : Nat} {b : Bool}, ops[i]? = some o → o.guard = some (g, b) → g < p)
    (hup : ∀ {i : Nat} {o : Oper}, full[i]? = some o → ∀ e ∈ o.after, Region.binds .any e = true → e.on < i)
    (hwt : ∀ {i : Nat} {o : Oper}, full[i]? = some o → p + 1 ≤ i → ∀ j, j < i → waitsT full 12 o j = true)
    {late : List Nat} (hlate : LateOk P ops ks (fun J => yB J 0 ops.toList ks a₀) late) {J : Nat → Nat} {w : World} (hQ : wpOps P full Q (List.range' (p + 1) (full.size - (p + 1))) (yB J 0 ops.toList ks a₀) w) :
    ∀ (fuel : Nat) (l : Array Bool) (a : Act), l.size = full.size → l.toList.count false ≤ fuel → Closed full l → (∀ i, i ≤ p → l.getD i true = false → i ∈ late) → (∀ i, p + 1 ≤ i → i < full.size → l.getD i true = false) → Agree ops ks a₀ l J a → wpAny P .any full Q fuel l a w := by
  intro fuel
  induction fuel with
  | zero =>
    intro l a hsz hc hcl hu ht hA
    have hall : ∀ i, i < full.size → l.getD i false = true := fun i hi => by
      cases hb : l.getD i true with
      | false => have := count_set hb; omega
      | true =>
        have hi' : i < l.size := by omega
        simpa [hi'] using hb
    rw [hA.whole (fun i hi => hall i (by omega))]
    have h0 := tail_count full.size (full.size - (p + 1)) l hsz (by omega) (fun i hi1 hi2 => ht i (by omega) hi2)
    exact rest_anyU (p + 1) hup hwt (full.size - (p + 1)) 0 (p + 1) l _ w (by omega) (Nat.le_refl _) hsz (by omega) hcl (fun i hi => hall i (by omega)) ht hQ
  | succ fuel ih =>
    intro l a hsz hc hcl hu ht hA
    by_cases hall : ∀ i, i < p + 1 → l.getD i false = true
    · rw [hA.whole (fun i hi => hall i (by omega))]
      have h0 := tail_count full.size (full.size - (p + 1)) l hsz (by omega) (fun i hi1 hi2 => ht i (by omega) hi2)
      exact rest_anyU (p + 1) hup hwt (full.size - (p + 1)) (fuel + 1) (p + 1) l _ w (by omega) (Nat.le_refl _) hsz (by omega) hcl hall ht hQ
    · have hex : ∃ x, x < p + 1 ∧ l.getD x false = false := by
        apply Classical.byContradiction
        intro hno
        apply hall
        intro i hi
        cases hb : l.getD i false with
        | true => rfl
        | false => exact absurd ⟨i, hi, hb⟩ hno
      obtain ⟨x, hx, hxf⟩ := hex
      refine ⟨fun hr => ?_, fun i hi => ?_⟩
      · have := ready_all hup hsz hr x (by omega)
        rw [hxf] at this
        cases this
      · obtain ⟨hun, o, ho, hedge⟩ := mem_ready.1 hi
        have hilt : i < full.size := (Array.getElem?_eq_some_iff.1 ho).1
        have hip1 : i < p + 1 := by
          rcases Nat.lt_or_ge i (p + 1) with h' | h'
          · exact h'
          · have := waitsT_spec hcl 12 o (hwt ho h' x (by omega)) hedge
            rw [hxf] at this
            cases this
        obtain ⟨o', v, ho', hk, hxq⟩ := hlate.at (hu i (by omega) hun)
        have hip : i < p := by rw [← hp]; exact (Array.getElem?_eq_some_iff.1 ho').1
        have hof := ho
        rw [hfull i hip, ho'] at ho
        injection ho with ho
        subst ho
        obtain ⟨he, hw0⟩ := hA.sees hO ho' hedge
        have hy : ∀ ts, Region.wanted o' (yielded full ts) = Region.wanted o' (yielded ops ts) := fun ts => by
          unfold Region.wanted
          cases hg : o'.guard with
          | none => rfl
          | some gw =>
            obtain ⟨g, want⟩ := gw
            have : yielded full ts g = yielded ops ts g := by unfold yielded; rw [hfull g (hgd ho' hg)]
            simp only [this]
        have hc' := count_set hun
        refine wpOp_step hof (fun K' hK => ?_)
        rw [hy, hw0, if_pos (hxq J).1]
        unfold Oper.wp
        rw [he, (hxq J).2 w]
        refine hK _ _ (ih _ _ (by simp [hsz]) (by omega) (hcl.step hof hedge) (fun j hj hj2 => ?_) (fun j hj hj2 => ?_) (hA.step hO hn ho' hk (fun _ _ _ _ => rfl)))
        · by_cases e : i = j
          · subst e
            have hi' : i < l.size := by omega
            simp [hi'] at hj2
          · rw [getD_set_ne true e] at hj2
            exact hu j hj hj2
        · rw [getD_set_ne true (by omega)]
          exact ht j hj hj2
theorem first_enter {full : Array Oper} {n p : Nat} {op : Oper} {d : Nat} {v : Value} (hO : Orderly ops ks n) (hn : n = a₀.tmps.size) (hL : LaidOk ks ks) {S : World → Prop} (hS : ∀ w, Below w₀.heap.size w₀ w → S w)
    (hp : ops.size = p) (hpf : p + 1 ≤ full.size) (hfull : ∀ i, i < p → full[i]? = ops[i]?) (hgd : ∀ {i : Nat} {o : Oper} {g : Nat} {b : Bool}, ops[i]? = some o → o.guard = some (g, b) → g < p)
    (hup : ∀ {i : Nat} {o : Oper}, full[i]? = some o → ∀ e ∈ o.after, Region.binds .any e = true → e.on < i)
    (hop : full[p]? = some op) (hdst : op.dst = some d) (hdn : d < n) (hdo : ∀ (j : Nat) (oj : Oper), ops[j]? = some oj → oj.dst ≠ some d) (hgu : op.guard = none) (hsel : ∀ cs b, op.op ≠ .select cs b)
    {late : List Nat} (hwp : ∀ j, j < p → waitsT full 12 op j = true ∨ j ∈ late) (hlook : ∀ d ∈ op.looksAt full, ∀ j oj, ops[j]? = some oj → oj.dst = some d → waitsT full 12 op j = true)
    (hwt : ∀ {i : Nat} {o : Oper}, full[i]? = some o → p + 1 ≤ i → ∀ j, j < i → waitsT full 12 o j = true)
    (hlate : LateOk P ops ks (fun J => yB J 0 ops.toList ks (a₀.put (some d) v)) late)
    (hops : yD P ops S (fun J => yB J 0 ops.toList ks a₀) ops.toList ks)
    (hend : ∀ J w l, Mem ks w₀ l J w → (∀ i, i < p → l.getD i false = true) → ∃ (f : FuncId) (args : Array Value) (R : World → Prop), (execOp (yB J 0 ops.toList ks a₀).eval op).run P w = .ok (.enter f args) w ∧ Calls P f args w (fun e w' => e = .returned v ∧ R w') ∧ ∀ w', R w' → wpOps P full Q (List.range' (p + 1) (full.size - (p + 1))) (yB J 0 ops.toList ks (a₀.put (some d) v)) w') :
    ∀ (fuel : Nat) (l : Array Bool) (J : Nat → Nat) (a : Act) (w : World), l.size = full.size → l.toList.count false ≤ fuel → Closed full l → (∀ i, p ≤ i → i < full.size → l.getD i true = false) → Agree ops ks a₀ l J a → Mem ks w₀ l J w → wpAny P .any full Q fuel l a w := by
  intro fuel
  induction fuel with
  | zero =>
    intro l J a w hsz hc hcl ht hA hM
    have := count_set (ht p (Nat.le_refl _) (by omega))
    omega
  | succ fuel ih =>
    intro l J a w hsz hc hcl ht hA hM
    have hpu := ht p (Nat.le_refl _) (by omega)
    refine ⟨fun hr => ?_, fun i hi => ?_⟩
    · have := ready_all hup hsz hr p (by omega)
      rw [(getD_same hpu).1] at this
      cases this
    · obtain ⟨hun, o, ho, hedge⟩ := mem_ready.1 hi
      have hilt : i < full.size := (Array.getElem?_eq_some_iff.1 ho).1
      have hc' := count_set hun
      have hip1 : i < p + 1 := by
        rcases Nat.lt_or_ge i (p + 1) with h' | h'
        · exact h'
        · have := waitsT_spec hcl 12 o (hwt ho h' p (by omega)) hedge
          rw [(getD_same hpu).1] at this
          cases this
      by_cases hip : i = p
      · subst hip
        have ho2 := ho
        rw [hop] at ho
        injection ho with ho
        subst ho
        have hbefore : ∀ j, j < i → j ∉ late → l.getD j false = true := fun j hj hnl => by
          rcases hwp j hj with h | h
          · exact waitsT_spec hcl 12 _ h hedge
          · exact absurd h hnl
        obtain ⟨l', hM', hs', hl1, hl2⟩ := mem_late hlate hM
        have hfin : ∀ j, j < i → l'.getD j false = true := fun j hj => by
          by_cases h : j ∈ late
          · exact hl2 j h (by omega)
          · exact hl1 j (hbefore j hj h)
        obtain ⟨f, args, R, hx, hcall, hQ⟩ := hend J w l' hM' hfin
        have he := see_all (full := full) hA hsel (fun d hd j oj hj hdj => waitsT_spec hcl 12 _ (hlook d hd j oj hj hdj) hedge)
        refine wpOp_step hop (fun K' hK => ?_)
        have hwn : Region.wanted op (yielded full a.tmps) = true := by unfold Region.wanted; rw [hgu]
        rw [if_pos hwn]
        unfold Oper.wp
        rw [he, hx]
        have hA' : Agree ops ks (a₀.put (some d) v) (l.setIfInBounds i true) J (a.put op.dst v) := by
          rw [hdst]
          refine ⟨by rw [put_defers', put_defers']; exact hA.defers, by rw [put_size, put_size]; exact hA.size, fun t ht => ?_⟩
          by_cases e : t = d
          · subst e
            rw [fill_off J t ops.toList ks _ 0 (fun j' oj hj => hdo j' oj (by simpa using hj))]
            simp only [Act.put, Array.getElem?_setIfInBounds]
            rw [if_pos trivial, if_pos trivial, hA.size]
          · have h0 := hA.slots t (fun j oj hj hdj => by
              have h1 := ht j oj hj hdj
              have hj' : j < i := by rw [← hp]; exact (Array.getElem?_eq_some_iff.1 hj).1
              rwa [getD_set_ne false (by omega)] at h1)
            rw [fill_put J d v ops.toList ks a₀ 0 (fun j' oj hj => hdo j' oj (by simpa using hj))]
            simp only [Act.put, Array.getElem?_setIfInBounds]
            rw [if_neg (fun h => e h.symm), if_neg (fun h => e h.symm)]
            exact h0
        refine Calls.mono hcall ?_
        rintro _ w1 ⟨rfl, hR⟩
        refine hK _ _ (after_putU (a₀ := a₀.put (some d) v) hO (by rw [put_size]; exact hn) hp hpf hfull hgd hup hwt hlate (hQ w1 hR) fuel _ _ (by simp [hsz]) (by omega) (hcl.step ho2 hedge) (fun j hj hj2 => ?_) (fun j hj hj2 => ?_) hA')
        · by_cases e : i = j
          · subst e
            have hi' : i < l.size := by omega
            simp [hi'] at hj2
          · rw [getD_set_ne true e] at hj2
            apply Classical.byContradiction
            intro hnl
            have := hbefore j (by omega) hnl
            rw [(getD_same hj2).1] at this
            cases this
        · rw [getD_set_ne true (by omega)]
          exact ht j (by omega) hj2
      · have hlt : i < p := by omega
        have ho' : ops[i]? = some o := by rw [← hfull i hlt]; exact ho
        refine kind_step hO hn hL hS hfull hgd hops hA hM hlt ho' hun hedge (fun J' a' w' hA' hM' => ?_)
        exact ih _ J' a' w' (by simp [hsz]) (by omega) (hcl.step ho hedge) (fun j hj hj2 => by rw [getD_set_ne true (by omega)]; exact ht j hj hj2) hA' hM'
/-- What is to be looked up of the whole region. -/
def enterly (full : Array Oper) (p d n : Nat) (late : List Nat) : Bool :=
  eachOp full (fun i o => o.after.all fun e => !Region.binds .any e || decide (e.on < i)) && decide (p + 1 ≤ full.size) && Region.noSelect full &&
  (match full[p]? with
   | none => false
   | some op => op.dst == some d && op.guard.isNone && ((List.range p).all fun j => waitsT full 12 op j || late.contains j) && (op.looksAt full).all fun d => eachOp full fun j oj => oj.dst != some d || waitsT full 12 op j || decide (p ≤ j)) &&
  eachOp full (fun i o => decide (i < p + 1) || (List.range i).all fun j => waitsT full 12 o j) && decide (d < n) && eachOp full (fun j oj => decide (p ≤ j) || oj.dst != some d)
/-- **The law of such a region.** -/
theorem walk_enter {full : Array Oper} {a : Act} {w : World} {id : Nat} (hm : P.follows .mixedOrders = true) (p : Nat) (late : List Nat) (ks : List Kind) (S : World → Prop) (pre : List Oper) (F F' : (Nat → Nat) → Act) (op : Oper) (d : Nat) (v : Value) (hpre : full.toList.take p = pre)
    (hF : ∀ J, yB J 0 pre ks a = F J) (hF' : ∀ J, yB J 0 pre ks (a.put (some d) v) = F' J) (hor : (orderly pre.toArray ks a.tmps.size && guarded pre.toArray p && enterly full p d a.tmps.size late) = true) (hop : full[p]? = some op) (hL : LaidOk ks ks) (hS : ∀ w', Below w.heap.size w w' → S w')
    (hops : yD P pre.toArray S F pre ks) (hlate : LateOk P pre.toArray ks F' late)
    (hend : ∀ J w' l, Mem ks w l J w' → (∀ i, i < p → l.getD i false = true) → ∃ (f : FuncId) (args : Array Value) (R : World → Prop), (execOp (F J).eval op).run P w' = .ok (.enter f args) w' ∧ Calls P f args w' (fun e w'' => e = .returned v ∧ R w'') ∧ ∀ w'', R w'' → wpOps P full Q (List.range' (p + 1) (full.size - (p + 1))) (F' J) w'') :
    (Code.region id full true).wp P Q a w := by
  subst hpre
  obtain rfl : (fun J => yB J 0 (full.toList.take p) ks a) = F := funext hF
  obtain rfl : (fun J => yB J 0 (full.toList.take p) ks (a.put (some d) v)) = F' := funext hF'
  simp only [Bool.and_eq_true] at hor
  obtain ⟨⟨h1, h2⟩, h3⟩ := hor
  unfold enterly at h3
  rw [hop] at h3
  simp only [Bool.and_eq_true, decide_eq_true_eq, Option.isNone_iff_eq_none, beq_iff_eq] at h3
  obtain ⟨⟨⟨⟨⟨⟨h5, h6⟩, h7⟩, ⟨⟨h8, h9⟩, h10⟩, h11⟩, h12⟩, h13⟩, h14⟩ := h3
  have hsz : (full.toList.take p).toArray.size = p := by simp; omega
  have hfu : ∀ i, i < p → full[i]? = (full.toList.take p).toArray[i]? := fun i hi => by rw [← take_arr]; exact first_full hi
  refine wp_region_any hm (first_enter (ops := (full.toList.take p).toArray) (Orderly.of h1) rfl hL hS hsz h6 hfu (fun ho hg => guarded_spec h2 ho hg) (fun ho e he hb => ?_) hop h8 h13 (fun j oj hj => ?_) h9 (fun cs b => Region.noSelect_spec h7 p op cs b hop) (late := late) (fun j hj => ?_) (fun d hd j oj hj hdj => ?_) (fun ho hi j hj => ?_) hlate hops hend full.size _ (fun _ => 0) a w.drew (by simp) (by simp) (Closed.none _ _) (fun i _ hi => none_listed' hi) (start_agree _ _) (start_mem _ _ (Below.refl _ _).drew))
  · have := Array.all_eq_true_iff_forall_mem.1 (zW h5 ho) e he
    simpa [hb] using this
  · have hj' : j < p := by rw [← hsz]; exact (Array.getElem?_eq_some_iff.1 hj).1
    have := zW h14 (by rw [hfu j hj']; exact hj)
    simp only [Bool.or_eq_true, decide_eq_true_eq, bne_iff_ne, ne_eq] at this
    rcases this with h | h
    · omega
    · exact h
  · have := List.all_eq_true.1 h10 j (List.mem_range.2 hj)
    simpa using this
  · have hj' : j < p := by rw [← hsz]; exact (Array.getElem?_eq_some_iff.1 hj).1
    have := zW (List.all_eq_true.1 h11 d hd) (by rw [hfu j hj']; exact hj)
    simp only [hdj, bne_self_eq_false, Bool.false_or, Bool.or_eq_true, decide_eq_true_eq] at this
    rcases this with h | h
    · exact h
    · omega
  · have := zW h12 ho
    simp only [Bool.or_eq_true, decide_eq_true_eq] at this
    rcases this with h | h
    · omega
    · exact List.all_eq_true.1 h j (List.mem_range.2 hj)
end
end Rg
end Go.Proofs.YtacicklddhehaaaGreatDoor
end
section
namespace Go.Proofs.YtacicklddhehaaaGreatDoor
open Go.RowKit
namespace Rg
theorem ex_shl {ρ : Operand → Value} {o : Oper} {x y : Operand} {a : Int} {k : Nat} {w : World} (ho : o.op = .binOp .shl 22 x y 3) (hx : ρ x = .int .u64 a) (hy : ρ y = .int .i64 ((k : Nat) : Int)) (hk : k ≤ 64) :
  (execOp ρ o).run Tryz.prog w = .ok (.value (.int .u64 (IntKind.u64.wrap (a * 2 ^ k)))) w := by
 simp only [execOp, ho, hx, hy]
 clear ho hx hy
 go_simp
theorem ex_shr {ρ : Operand → Value} {o : Oper} {x y : Operand} {a : Int} {k : Nat} {w : World} (ho : o.op = .binOp .shr 22 x y 3) (hx : ρ x = .int .u64 a) (hy : ρ y = .int .i64 ((k : Nat) : Int)) (hk : k ≤ 64) :
  (execOp ρ o).run Tryz.prog w = .ok (.value (.int .u64 (a / 2 ^ k))) w := by
 simp only [execOp, ho, hx, hy]
 clear ho hx hy
 go_simp
theorem ex_or {ρ : Operand → Value} {o : Oper} {x y : Operand} {a b : Int} {w : World} (ho : o.op = .binOp .or 22 x y 22) (hx : ρ x = .int .u64 a) (hy : ρ y = .int .u64 b) :
  (execOp ρ o).run Tryz.prog w = .ok (.value (.int .u64 (bits .or .u64 a b))) w := by
 simp only [execOp, ho, hx, hy]
 clear ho hx hy
 go_simp
set_option maxHeartbeats 400000 in
theorem guessM_any (h l t : Nat) (hl : l < 18446744073709551616) (ht : t < 18446744073709551616) (w : World) :
  Calls Tryz.prog 105 #[.int .u64 h, .int .u64 l, .int .u64 t] w (Rt w (.int .u64 ((gs h l t : Nat) : Int))) := by
 unfold gs
 by_cases c : t ≤ h
 ·rw [if_pos c]
  clear hl ht
  go_enter Tryz.func105, Tryz.ntmps105
  go_wp2
  go_ret
  exact ⟨rfl, Below.refl _ _⟩
 ·rw [if_neg c]
  have hc := fun w => div64_any h l t (by omega) ht hl w
  generalize (h * 18446744073709551616 + l) / t = q at hc ⊢
  have HC : Hid _ := hc
  clear hc hl ht
  go_enter Tryz.func105, Tryz.ntmps105
  go_wp2_with (go_at_call 106; refine (HC.out _).mono ?_; rintro e w' ⟨rr, rfl, hb⟩)
  go_ret
  obtain ⟨k, rfl⟩ := hb
  exact ⟨rfl, below_drewN (Below.refl _ _) k⟩
/-- A divisor and what is left, in memory. -/
abbrev lec (b : Nat) (f : Nat → Int) : List Value := [.int .u64 (wd b 0), .int .u64 (wd b 1), .int .u64 (wd b 2), .int .u64 (wd b 3), .int .u64 (wd b 4), .int .u64 (wd b 5), .int .u64 (f 0), .int .u64 (f 1), .int .u64 (f 2), .int .u64 (f 3), .int .u64 (f 4), .int .u64 (f 5)]
theorem lec_hi {b : Nat} {f : Nat → Int} {j : Nat} (hj : j < 6) : (lec b f)[6 + j]? = some (.int .u64 (f j)) := by
 match j, hj with
 | 0, _ => rfl
 | 1, _ => rfl
 | 2, _ => rfl
 | 3, _ => rfl
 | 4, _ => rfl
 | 5, _ => rfl
theorem lec_lo {b : Nat} {f : Nat → Int} {j : Nat} (hj : j < 6) : (lec b f)[0 + j]? = some (.int .u64 (wd b j)) := by
 match j, hj with
 | 0, _ => rfl
 | 1, _ => rfl
 | 2, _ => rfl
 | 3, _ => rfl
 | 4, _ => rfl
 | 5, _ => rfl
theorem lec_put {b : Nat} {f : Nat → Int} {j : Nat} {v : Int} (hj : j < 6) : patch (lec b f) (6 + j) [.int .u64 v] = lec b (upd f j v) := by
 match j, hj with
 | 0, _ => rfl
 | 1, _ => rfl
 | 2, _ => rfl
 | 3, _ => rfl
 | 4, _ => rfl
 | 5, _ => rfl
theorem lec_bd {b : Nat} {f : Nat → Int} {j : Nat} (hj : j < 6) : 6 + j < (lec b f).length := by
 show 6 + j < 12
 omega
theorem lec_congr {b : Nat} {f g : Nat → Int} (h : ∀ j, j < 6 → f j = g j) : lec b f = lec b g := by
 unfold lec
 rw [h 0 (by decide), h 1 (by decide), h 2 (by decide), h 3 (by decide), h 4 (by decide), h 5 (by decide)]
/-! Words of a number that is shifted by at most a word. -/
theorem sh_bits (a n k : Nat) (hn : n ≤ 64) : ((a >>> (64 * (k + 1)) % 2 ^ 64) <<< n) % 2 ^ 64 ||| (a >>> (64 * k) % 2 ^ 64) >>> (64 - n) = (a <<< n) >>> (64 * (k + 1)) % 2 ^ 64 := by
 apply Nat.eq_of_testBit_eq
 intro i
 simp only [Nat.testBit_or, Nat.testBit_mod_two_pow, Nat.testBit_shiftLeft, Nat.testBit_shiftRight]
 by_cases hi : i < 64
 ·have e1 : n ≤ 64 * (k + 1) + i := by omega
  by_cases ht : n ≤ i
  ·have e2 : 64 * (k + 1) + (i - n) = 64 * (k + 1) + i - n := by omega
   have e3 : i - n < 64 := by omega
   have e4 : ¬ 64 - n + i < 64 := by omega
   simp [hi, ht, e1, e2, e3, e4]
  ·have e4 : 64 - n + i < 64 := by omega
   have e5 : 64 * k + (64 - n + i) = 64 * (k + 1) + i - n := by omega
   simp [hi, ht, e1, e4, e5]
 ·have e4 : ¬ 64 - n + i < 64 := by omega
  simp [hi, e4]
theorem sh_word (a n k : Nat) (hn : n ≤ 64) : bits .or .u64 (IntKind.u64.wrap (wd a (k + 1) * 2 ^ n)) (wd a k / 2 ^ (64 - n)) = wd (a * 2 ^ n) (k + 1) := by
 rw [wd_shr, wrap_shl, wd_shr, div_shr, wd_shr, ← Nat.shiftLeft_eq, ← sh_bits a n k hn]
 refine bits_or_u64_nat _ _ (Nat.mod_lt _ (by decide)) ?_
 rw [Nat.shiftRight_eq_div_pow]
 exact Nat.lt_of_le_of_lt (Nat.div_le_self _ _) (Nat.mod_lt _ (by decide))
theorem sh_low (a n : Nat) : IntKind.u64.wrap (wd a 0 * 2 ^ n) = wd (a * 2 ^ n) 0 := by
 rw [wd_shr, wrap_shl, wd_shr, Nat.mul_zero, Nat.shiftRight_zero, Nat.shiftRight_zero, Nat.shiftLeft_eq, Nat.mod_mul_mod]
theorem wd_last (a j : Nat) (h : a < 2 ^ (64 * (j + 1))) : wd a j = ((a / 2 ^ (64 * j) : Nat) : Int) := by
 unfold wd
 rw [Nat.mod_eq_of_lt]
 rw [Nat.div_lt_iff_lt_mul (pow_pos' j), Nat.mul_comm, ← pow_step]
 exact h
theorem sh_topj (a n j : Nat) (ha : a < 2 ^ (64 * (j + 1))) (hn : n ≤ 64) : wd a j / 2 ^ (64 - n) = ((a * 2 ^ n / 2 ^ (64 * (j + 1)) : Nat) : Int) := by
 rw [wd_last a j ha, div_shr, Nat.shiftRight_eq_div_pow, Nat.div_div_eq_div_mul]
 congr 1
 have hW : 18446744073709551616 = 2 ^ (64 - n) * 2 ^ n := by
  rw [← Nat.pow_add, Nat.sub_add_cancel hn]
 rw [pow_step j, hW, ← Nat.mul_assoc, Nat.mul_div_mul_right _ _ (Nat.two_pow_pos n)]
theorem big_j (j : Nat) (hj : j = 5) : big = 2 ^ (64 * (j + 1)) := by
 obtain ⟨m, hm, e⟩ := big_pow
 rw [e, show m = j + 1 by omega]
theorem sh_top (a n : Nat) (ha : a < big) (hn : n ≤ 64) : wd a 5 / 2 ^ (64 - n) = ((a * 2 ^ n / big : Nat) : Int) := by
 obtain ⟨j, hj⟩ : ∃ j, j = 5 := ⟨5, rfl⟩
 rw [big_j j hj] at ha ⊢
 rw [← hj]
 exact sh_topj a n j ha hn
/-- What is left, words above the k-th from above shifted. -/
def shf (a n k m : Nat) : Int := if 5 - k < m then wd (a * 2 ^ n) m else wd a m
theorem shf_at {a n k m b : Nat} (hm : m ≤ 5 - k) (h6 : m < 6) : (lec b (shf a n k))[6 + m]? = some (.int .u64 (wd a m)) := by
 rw [lec_hi h6]
 unfold shf
 rw [if_neg (by omega)]
theorem shf_step {a n k b : Nat} {v : Int} (hk : k < 5) (h : v = wd (a * 2 ^ n) (5 - k)) : lec b (upd (shf a n k) (5 - k) v) = lec b (shf a n (k + 1)) := lec_congr fun j _ => by
 unfold upd shf
 by_cases h1 : j = 5 - k
 ·subst h1; rw [if_pos rfl, if_pos (by omega), h]
 ·rw [if_neg h1]
  by_cases h2 : 5 - k < j
  ·rw [if_pos h2, if_pos (by omega)]
  ·rw [if_neg h2, if_neg (by omega)]
theorem shf_start (a n b : Nat) : lec b (wd a) = lec b (shf a n 0) := lec_congr fun j hj => by
 unfold shf
 rw [if_neg (by omega)]
theorem lec_put0 {b : Nat} {f : Nat → Int} {v : Int} : patch (lec b f) 6 [.int .u64 v] = lec b (upd f 0 v) := rfl
theorem shf_end (a n b : Nat) : lec b (upd (shf a n 5) 0 (IntKind.u64.wrap (wd a 0 * 2 ^ n))) = lec b (wd (a * 2 ^ n % big)) := lec_congr fun j hj => by
 rw [wd_mod _ _ hj]
 unfold upd shf
 by_cases h1 : j = 0
 ·subst h1; rw [if_pos rfl, sh_low]
 ·rw [if_neg h1, if_pos (by omega)]
set_option maxHeartbeats 1000000 in
theorem shift_gen (g b L i : Nat) (hi : i ≤ 64) (w : World) (hm : Mm w [(g, lec b (wd L))]) :
  Calls Tryz.prog 103 #[PT g 0, .int .i64 ((i : Nat) : Int)] w fun e w' => e = .returned (.int .u64 (wd L 5 / 2 ^ (64 - i))) ∧ Mm w' [(g, lec b (wd (L * 2 ^ i % big)))] ∧ Kp g w w' := by
 have H0 : Hid (_ ∧ _) := ⟨hm, Kp.refl g w⟩
 clear hm
 go_enter Tryz.func103, Tryz.ntmps103
 refine wp_seq ?_
 refine zD 1 [.q (.int .u64 0)] (sB H0) ?ho1 ?he1
 case ho1 => exact ar trivial
 intro J w1 l hM hl
 have H1 := keepK H0 hM.below
 clear hM hl l J
 refine rN (wp_seq ?_)
 refine zD 1 [.q (.int .i64 5)] (sB H1) ?ho2 ?he2
 case ho2 => exact ar trivial
 intro J w2 l hM hl
 have H2 := keepK H1 hM.below
 clear hM hl l H1 J
 refine rN (wp_seq ?_)
 refine zD 10 [.q (PT g 0), .q (.int .i64 5), .q (PT g 0), .q (PT g 6), .q (PT g 11), .q (.int .u64 (wd L 5)), .q (.int .i64 ((i : Nat) : Int)), .q (.int .i64 ((64 - i : Nat) : Int)), .q (.int .u64 ((wd L 5) / 2 ^ (64 - i))), .q (.int .u64 ((wd L 5) / 2 ^ (64 - i)))] (sB H2) ?ho3 ?he3
 case ho3 => exact ar (ar (ag (ag (ag (aq (fun w' h => ex_load1 h 0 rfl rfl rfl rfl) (ar (ak (by refine fun J => ⟨rfl, fun w' h => ?_⟩; clear h; go_simp; rw [IntKind.wrap_i64]; omega) (ak (fun J => ⟨rfl, fun w' _ => ex_shr rfl rfl rfl (Nat.sub_le 64 i)⟩) (ar trivial)))))))))
 intro J w3 l hM hl
 have H3 := keepK H2 hM.below
 clear hM hl l H2 J
 refine rN (wp_seq (wp_seq ?_))
 refine zD 2 [.q (.int .i64 5), .q (.int .i64 5)] (sB H3) ?ho4 ?he4
 case ho4 => exact ar (ar trivial)
 intro J w4 l hM hl
 have H4 := keepK H3 hM.below
 clear hM hl l H3 J
 refine rN (wp_block ?_)
 refine loop_ghost (α := Nat) (fun k a' w' => ∃ s0 : Nat → Value, a' = ⟨#[PT g 0, .int .i64 ((i : Nat) : Int), ud, ud, .int .u64 0, .int .i64 5, .int .u64 ((wd L 5) / 2 ^ (64 - i)), .int .i64 ((5 - k : Nat) : Int), PT g 0, .int .i64 5, PT g 0, PT g 6, PT g 11, .int .u64 (wd L 5), .int .i64 ((i : Nat) : Int), .int .i64 ((64 - i : Nat) : Int), .int .u64 ((wd L 5) / 2 ^ (64 - i)), .int .i64 5, s0 18, s0 19, s0 20, s0 21, s0 22, s0 23, s0 24, s0 25, s0 26, s0 27, s0 28, s0 29, s0 30, s0 31, s0 32, s0 33, s0 34, s0 35, s0 36, s0 37, s0 38, s0 39, s0 40, s0 41, s0 42, s0 43, s0 44, s0 45, ud, ud, ud, ud, ud, ud, ud, ud, ud, ud, ud], []⟩ ∧ (Mm w' [(g, lec b (shf L i k))] ∧ Kp g w w') ∧ k ≤ 5) (fun k => 5 - k) 0 ?st0 ?rd0
 case st0 => exact ⟨(yA [ud, ud, ud, ud, ud, ud, ud, ud, ud, ud, ud, ud, ud, ud, ud, ud, ud, ud, ud, ud, ud, ud, ud, ud, ud, ud, ud, ud, ud, ud, ud, ud, ud, ud, ud, ud, ud, ud, ud, ud, ud, ud, ud, ud, ud, ud]), rfl, ⟨H4.out.1.at0 (shf_start L i b), H4.out.2⟩, by omega⟩
 intro k a' w5 hI
 obtain ⟨s0, rfl, hMB, hk0⟩ := hI
 have H5 : Hid (_ ∧ _) := hMB
 clear hMB H4
 by_cases hlt : k < 5
 ·have hrd : True := trivial
  clear hrd
  obtain ⟨m, hm⟩ : ∃ m, 5 - k = m + 1 := ⟨4 - k, by omega⟩
  have hm6 : m + 1 < 6 := by omega
  have hm5 : m < 6 := by omega
  have hk1 : m + 1 ≤ 5 - k := by omega
  have hk2 : m ≤ 5 - k := by omega
  refine wp_seq (wp_seq ?_)
  refine zD 2 [.q (.int .i64 ((5 - k : Nat) : Int)), .q (.bool true)] (sB H5) ?ho5 ?he5
  case ho5 => exact ar (ak (by refine fun J => ⟨rfl, fun w' h => ?_⟩; clear h; go_simp <;> omega) trivial)
  intro J w6 l hM hl
  have H6 := keepK H5 hM.below
  clear hM hl l H5 J
  refine rN (wp_cond_true rfl ?_)
  refine wp_skip (zA ?_)
  refine wp_seq (wp_block ?_)
  refine walk_put (by kernel_rfl) 24 [] [.q (PT g 0), .q (.int .i64 ((5 - k : Nat) : Int)), .q (PT g 0), .q (.int .i64 ((5 - k : Nat) : Int)), .q (PT g 0), .q (PT g 6), .q (PT g (6 + (5 - k))), .q (.int .u64 (wd L (5 - k))), .q (.int .i64 ((i : Nat) : Int)), .q (.int .u64 (IntKind.u64.wrap ((wd L (5 - k)) * 2 ^ i))), .q (PT g 0), .q (.int .i64 ((5 - k : Nat) : Int)), .q (.int .i64 ((m : Nat) : Int)), .q (PT g 0), .q (PT g 6), .q (PT g (6 + m)), .q (.int .u64 (wd L m)), .q (.int .i64 ((i : Nat) : Int)), .q (.int .i64 ((64 - i : Nat) : Int)), .q (.int .u64 ((wd L m) / 2 ^ (64 - i))), .q (.int .u64 (bits .or .u64 (IntKind.u64.wrap ((wd L (5 - k)) * 2 ^ i)) ((wd L m) / 2 ^ (64 - i)))), .q (PT g 0), .q (PT g 6), .q (PT g (6 + (5 - k)))] _ ?pre6 ?F6 _ ?hpre6 (fun J => ?hF6) (by kernel_rfl) rfl ?hL6 (sB H6) ?ho6 ?hla6 ?he6
  case hpre6 => simp only [tk, tz]; rfl
  case hF6 => simp only [yB, Kind.val, Act.put, sa, sz, ss]; rfl
  case hL6 => exact trivial
  case ho6 =>
   refine ar ?_
   refine ar ?_
   refine ar ?_
   refine ar ?_
   refine ag ?_
   refine ag ?_
   refine ak (fun J => ⟨rfl, fun w' _ => zX rfl rfl rfl (Nat.lt_of_le_of_lt (Nat.sub_le 5 k) (by decide))⟩) ?_
   refine aq (fun w' h => ex_load1 h 0 rfl rfl rfl (shf_at (Nat.le_refl _) (Nat.lt_of_le_of_lt (Nat.sub_le 5 k) (by decide)))) ?_
   refine ar ?_
   refine ak (fun J => ⟨rfl, fun w' _ => ex_shl rfl rfl rfl hi⟩) ?_
   refine ar ?_
   refine ar ?_
   refine ak (by refine fun J => ⟨rfl, fun w' h => ?_⟩; clear h; go_simp; rw [IntKind.wrap_i64]; omega) ?_
   refine ag ?_
   refine ag ?_
   refine ak (fun J => ⟨rfl, fun w' _ => zX rfl rfl rfl hm5⟩) ?_
   refine aq (fun w' h => ex_load1 h 0 rfl rfl rfl (shf_at hk2 hm5)) ?_
   refine ar ?_
   refine ak (by refine fun J => ⟨rfl, fun w' h => ?_⟩; clear h; go_simp; rw [IntKind.wrap_i64]; omega) ?_
   refine ak (fun J => ⟨rfl, fun w' _ => ex_shr rfl rfl rfl (Nat.sub_le 64 i)⟩) ?_
   refine ak (fun J => ⟨rfl, fun w' _ => ex_or rfl rfl rfl⟩) ?_
   refine ag ?_
   refine ag ?_
   refine ak (fun J => ⟨rfl, fun w' _ => zX rfl rfl rfl (Nat.lt_of_le_of_lt (Nat.sub_le 5 k) (by decide))⟩) ?_
   exact trivial
  case hla6 => exact trivial
  intro J w7 l hM hl
  have H7 := keepK H6 hM.below
  clear hM hl l H6 J
  refine ⟨_, ex_storeI H7.out.1 0 rfl rfl As22 rfl rfl (lec_bd (Nat.lt_of_le_of_lt (Nat.sub_le 5 k) (by decide))), ?_⟩
  have H8 : Hid (Mm (w7.setCells g (6 + (5 - k)) [.int .u64 (bits .or .u64 (IntKind.u64.wrap ((wd L (5 - k)) * 2 ^ i)) ((wd L m) / 2 ^ (64 - i)))]) [(g, lec b (shf L i (k + 1)))] ∧ Kp g w (w7.setCells g (6 + (5 - k)) [.int .u64 (bits .or .u64 (IntKind.u64.wrap ((wd L (5 - k)) * 2 ^ i)) ((wd L m) / 2 ^ (64 - i)))])) := ⟨by
   have h := H7.out.1.put 0 (off := (6 + (5 - k))) (vs := [.int .u64 (bits .or .u64 (IntKind.u64.wrap ((wd L (5 - k)) * 2 ^ i)) ((wd L m) / 2 ^ (64 - i)))]) rfl (lec_bd (Nat.lt_of_le_of_lt (Nat.sub_le 5 k) (by decide)))
   rw [lec_put (Nat.lt_of_le_of_lt (Nat.sub_le 5 k) (by decide)), shf_step hlt (by rw [hm]; exact sh_word L i m hi)] at h
   exact h, H7.out.2.put (Or.inl rfl)⟩
  clear H7
  generalize hgw : World.setCells _ _ _ _ = w8 at H8 ⊢
  clear hgw
  refine rest0 rfl ?_
  refine zT (zA ?_)
  refine zD 2 [.q (.int .i64 ((5 - k : Nat) : Int)), .q (.int .i64 ((5 - (k + 1) : Nat) : Int))] (sB H8) ?ho7 ?he7
  case ho7 => exact ar (ak (by refine fun J => ⟨rfl, fun w' h => ?_⟩; clear h; go_simp; rw [IntKind.wrap_i64]; omega) trivial)
  intro J w9 l hM hl
  have H9 := keepK H8 hM.below
  clear hM hl l H8 J
  refine zG (l := [2]) rfl ?_
  refine zN (d := 7) rfl rfl rfl rfl ?_
  simp only [Act.put, sa, sz, ss]
  refine zE (zA ?_)
  exact ⟨k + 1, ⟨(yA [ud, ud, ud, ud, ud, ud, ud, ud, ud, ud, ud, ud, ud, ud, ud, ud, ud, ud, .int .i64 ((5 - k : Nat) : Int), .bool true, .int .i64 ((5 - k : Nat) : Int), .int .i64 ((5 - (k + 1) : Nat) : Int), PT g 0, .int .i64 ((5 - k : Nat) : Int), PT g 0, .int .i64 ((5 - k : Nat) : Int), PT g 0, PT g 6, PT g (6 + (5 - k)), .int .u64 (wd L (5 - k)), .int .i64 ((i : Nat) : Int), .int .u64 (IntKind.u64.wrap ((wd L (5 - k)) * 2 ^ i)), PT g 0, .int .i64 ((5 - k : Nat) : Int), .int .i64 ((m : Nat) : Int), PT g 0, PT g 6, PT g (6 + m), .int .u64 (wd L m), .int .i64 ((i : Nat) : Int), .int .i64 ((64 - i : Nat) : Int), .int .u64 ((wd L m) / 2 ^ (64 - i)), .int .u64 (bits .or .u64 (IntKind.u64.wrap ((wd L (5 - k)) * 2 ^ i)) ((wd L m) / 2 ^ (64 - i))), PT g 0, PT g 6, PT g (6 + (5 - k))]), rfl, ⟨H9.out.1, H9.out.2⟩, by omega⟩, by omega⟩
 have hk5 : k = 5 := by omega
 subst hk5
 refine wp_seq (wp_seq ?_)
 refine zD 2 [.q (.int .i64 ((5 - 5 : Nat) : Int)), .q (.bool false)] (sB H5) ?ho8 ?he8
 case ho8 => exact ar (ak (by refine fun J => ⟨rfl, fun w' h => ?_⟩; clear h; go_simp <;> omega) trivial)
 intro J w10 l hM hl
 have H10 := keepK H5 hM.below
 clear hM hl l H5 J
 refine rN (wp_cond_false rfl ?_)
 refine wp_exit ?_
 repeat refine then_exit ?_
 refine block_exit ?_
 refine zA (wp_seq ?_)
 refine walk_put (by kernel_rfl) 10 [] [.q (PT g 0), .q (PT g 0), .q (PT g 6), .q (PT g 6), .q (.int .u64 (wd L 0)), .q (.int .i64 ((i : Nat) : Int)), .q (.int .u64 (IntKind.u64.wrap ((wd L 0) * 2 ^ i))), .q (PT g 0), .q (PT g 6), .q (PT g 6)] _ ?pre9 ?F9 _ ?hpre9 (fun J => ?hF9) (by kernel_rfl) rfl trivial (sB H10) ?ho9 ?hla9 ?he9
 case hpre9 => simp only [tk, tz]; rfl
 case hF9 => simp only [yB, Kind.val, Act.put, sa, sz, ss]; rfl
 case ho9 =>
  refine ar ?_
  refine ag ?_
  refine ag ?_
  refine ag ?_
  refine aq (fun w' h => ex_load1 h 0 rfl rfl rfl rfl) ?_
  refine ar ?_
  refine ak (fun J => ⟨rfl, fun w' _ => ex_shl rfl rfl rfl hi⟩) ?_
  refine ag ?_
  refine ag ?_
  refine ag ?_
  exact trivial
 case hla9 => exact trivial
 intro J w11 l hM hl
 have H11 := keepK H10 hM.below
 clear hM hl l H10 J
 refine ⟨_, ex_storeI H11.out.1 0 rfl rfl As22 rfl rfl (Nat.le_of_ble_eq_true rfl), ?_⟩
 have H12 : Hid (Mm (w11.setCells g 6 [.int .u64 (IntKind.u64.wrap ((wd L 0) * 2 ^ i))]) [(g, lec b (wd (L * 2 ^ i % big)))] ∧ Kp g w (w11.setCells g 6 [.int .u64 (IntKind.u64.wrap ((wd L 0) * 2 ^ i))])) := ⟨by
  have h := H11.out.1.put 0 (off := 6) (vs := [.int .u64 (IntKind.u64.wrap ((wd L 0) * 2 ^ i))]) rfl (Nat.le_of_ble_eq_true rfl)
  rw [lec_put0, shf_end] at h
  exact h, H11.out.2.put (Or.inl rfl)⟩
 clear H11
 generalize hgw : World.setCells _ _ _ _ = w12 at H12 ⊢
 clear hgw
 refine rN (wp_seq ?_)
 refine zD 2 [.q (.int .u64 ((wd L 5) / 2 ^ (64 - i))), .q (.int .u64 ((wd L 5) / 2 ^ (64 - i)))] (sB H12) ?ho10 ?he10
 case ho10 => exact ar (ar trivial)
 intro J w13 l hM hl
 have H13 := keepK H12 hM.below
 clear hM hl l H12 J
 refine rN (wp_ret ?_)
 repeat (first | refine zK ?_ | refine zI ?_)
 refine bodyPost_ret (v := .int .u64 ((wd L 5) / 2 ^ (64 - i))) (by simp [results, Tryz.results103, go_sem, *]) rfl ?_
 exact ⟨rfl, H13.out.1.one 0 rfl, H13.out.2⟩
theorem shiftL_any (g b L i : Nat) (hi : i ≤ 64) (hL : L < big) (w : World) (hm : Mm w [(g, lec b (wd L))]) :
  Calls Tryz.prog 103 #[PT g 0, .int .i64 ((i : Nat) : Int)] w fun e w' => e = .returned (.int .u64 ((L * 2 ^ i / big : Nat) : Int)) ∧ Mm w' [(g, lec b (wd (L * 2 ^ i % big)))] ∧ Kp g w w' := by
 have h := shift_gen g b L i hi w hm
 rw [sh_top L i hL hi] at h
 exact h
theorem call65 : CO 65 := by intro args w; go_simp
theorem call80 : CO 80 := by intro args w; go_simp
theorem call46 : CO 46 := by intro args w; go_simp
theorem okLt {n : Nat} (ok : Ok n) (x : Nat) : x % n < big := Nat.lt_trans (Nat.mod_lt _ ok.pos) ok.big
theorem pow_is (k : Nat) (h : k = 64 * 6) : 2 ^ k = big := by subst h; exact big_eq.symm
theorem call74 : CO 74 := by intro args w; go_simp
theorem call102 : CO 102 := by intro args w; go_simp
theorem call93 : CO 93 := by intro args w; go_simp
theorem call59 : CO 59 := by intro args w; go_simp
theorem call73 : CO 73 := by intro args w; go_simp
theorem n_gen (g n o s  : Nat)
  (c0 : ∀ w, Mm w [(g, zR n o s)] → Calls Tryz.prog 73 #[PT g 0] w (Rt w (.bool true))) (w : World) (hm : Mm w [(g, zR n o s)]) :
  Calls Tryz.prog 83 #[PT g 0] w (Rt w (N n)) := by
 have H0 : Hid (_ ∧ _) := ⟨hm, Below.refl w.heap.size w⟩
 clear hm
 have C0 : Hid _ := c0
 clear c0
 go_enter Tryz.func83, Tryz.ntmps83
 refine wp_seq ?_
 refine zD 1 [.made zero6 24] (sB H0) ?ho1 ?he1
 case ho1 => exact am (zF rfl) trivial
 intro J w1 l hM hl
 have M1 : Mm w1 [(J 0, zero6), (g, zR n o s)] := H0.out.1.grow hM (Nat.le_refl _) hl [0] rfl (by decide)
 have B1 : Below w.heap.size w w1 := H0.out.2.trans ((hM.below).mono H0.out.2.size)
 have o1_0 : Hid (w.heap.size ≤ J 0) := Nat.le_trans H0.out.2.size (hM.fin (Nat.le_refl _) hl (i := 0) rfl).2.1
 clear hM hl l
 generalize J 0 = J1_0 at M1 o1_0 ⊢
 clear J
 have H1 : Hid (_ ∧ _) := ⟨M1, B1⟩
 clear M1 B1
 refine rN (wp_seq (wp_seq ?_))
 refine zD 3 [.q (PT g 0), .call (.bool true), .q (.bool false)] (sB H1) ?ho2 ?he2
 case ho2 => exact ar (ac (fun w' h => eC call73 (C0.out w' (h.one 1 rfl))) (ag trivial))
 intro J w2 l hM hl
 have M2 : Mm w2 [(J1_0, zero6), (g, zR n o s)] := H1.out.1.grow hM (Nat.le_refl _) hl [] rfl (by decide)
 have B2 : Below w.heap.size w w2 := H1.out.2.trans ((hM.below).mono H1.out.2.size)
 clear hM hl l H1
 clear J
 have H2 : Hid (_ ∧ _) := ⟨M2, B2⟩
 clear M2 B2
 refine rN (wp_cond_false rfl ?_)
 refine wp_skip (zA (wp_seq ?_))
 refine zD 4 [.q (PT g 0), .q (PT g 0), .q (PT g 0), .q (N n)] (sB H2) ?ho3 ?he3
 case ho3 => exact ar (ag (ag (bN 1 trivial)))
 intro J w3 l hM hl
 have M3 : Mm w3 [(J1_0, zero6), (g, zR n o s)] := H2.out.1.grow hM (Nat.le_refl _) hl [] rfl (by decide)
 have B3 : Below w.heap.size w w3 := H2.out.2.trans ((hM.below).mono H2.out.2.size)
 clear hM hl l H2
 clear J
 have H3 : Hid (_ ∧ _) := ⟨M3, B3⟩
 clear M3 B3
 refine zG (l := [4]) rfl ?_
 refine sG rfl (fun h => zM h 0 rfl rfl rfl rfl (Nat.le_of_ble_eq_true rfl)) 0 [(_, zB n), _] H3 o1_0 fun w4 H4 => ?_
 clear H3
 refine zE (zA (wp_ret ?_))
 repeat (first | refine zK ?_ | refine zI ?_)
 have c0 := H4.out.1.get 0 rfl 0 rfl
 have c1 := H4.out.1.get 0 rfl 1 rfl
 have c2 := H4.out.1.get 0 rfl 2 rfl
 have c3 := H4.out.1.get 0 rfl 3 rfl
 have c4 := H4.out.1.get 0 rfl 4 rfl
 have c5 := H4.out.1.get 0 rfl 5 rfl
 refine bodyPost_ret (v := N n) (by simp [results, Tryz.results83, go_sem, *]) rfl ?_
 exact ⟨rfl, H4.out.2⟩
theorem reduce_1 (g n o s a : Nat)
  (c0 : ∀ w, Mm w [(g, zR n o s)] → Calls Tryz.prog 73 #[PT g 0] w (Rt w (.bool true)))
  (c1 : ∀ w, Calls Tryz.prog 59 #[N a, N n] w (Rt w (.int .i64 (-1)))) (w : World) (hm : Mm w [(g, zR n o s)]) :
  Calls Tryz.prog 74 #[PT g 0, N a] w (Rt w (N a)) := by
 have H0 : Hid (_ ∧ _) := ⟨hm, Below.refl w.heap.size w⟩
 clear hm
 have C0 : Hid _ := c0
 have C1 : Hid _ := c1
 clear c0 c1
 go_enter Tryz.func74, Tryz.ntmps74
 refine wp_seq ?_
 refine zD 2 [.made (zB a) 24, .made zero6 24] (sB H0) ?ho1 ?he1
 case ho1 => exact am (zU rfl rfl) (am (zF rfl) trivial)
 intro J w1 l hM hl
 have M1 : Mm w1 [(J 0, zB a), (J 1, zero6), (g, zR n o s)] := H0.out.1.grow hM (Nat.le_refl _) hl [0, 1] rfl (by decide)
 have B1 : Below w.heap.size w w1 := H0.out.2.trans ((hM.below).mono H0.out.2.size)
 have o1_0 : Hid (w.heap.size ≤ J 0) := Nat.le_trans H0.out.2.size (hM.fin (Nat.le_refl _) hl (i := 0) rfl).2.1
 have o1_1 : Hid (w.heap.size ≤ J 1) := Nat.le_trans H0.out.2.size (hM.fin (Nat.le_refl _) hl (i := 1) rfl).2.1
 clear hM hl l
 generalize J 0 = J1_0 at M1 o1_0 ⊢
 generalize J 1 = J1_1 at M1 o1_1 ⊢
 clear J
 have H1 : Hid (_ ∧ _) := ⟨M1, B1⟩
 clear M1 B1
 refine rN (wp_seq (wp_seq ?_))
 refine zD 3 [.q (PT g 0), .call (.bool true), .q (.bool false)] (sB H1) ?ho2 ?he2
 case ho2 => exact ar (ac (fun w' h => eC call73 (C0.out w' (h.one 2 rfl))) (ag trivial))
 intro J w2 l hM hl
 have M2 : Mm w2 [(J1_0, zB a), (J1_1, zero6), (g, zR n o s)] := H1.out.1.grow hM (Nat.le_refl _) hl [] rfl (by decide)
 have B2 : Below w.heap.size w w2 := H1.out.2.trans ((hM.below).mono H1.out.2.size)
 clear hM hl l H1
 clear J
 have H2 : Hid (_ ∧ _) := ⟨M2, B2⟩
 clear M2 B2
 refine rN (wp_cond_false rfl ?_)
 refine wp_skip (zA ?_)
 refine wp_seq (wp_seq ?_)
 refine zQ 7 [.q (N a), .q (PT g 0), .q (PT g 0), .q (PT g 0), .q (N n), .call (.int .i64 (-1)), .q (.bool true)] (sB H2) ?ho3 ?he3
 case ho3 => exact bN 0 (ar (ag (ag (bN 2 (ac (fun w' h => eC call59 (C1.out w')) (ag trivial))))))
 intro J w3 l hM hl
 have M3 : Mm w3 [(J1_0, zB a), (J1_1, zero6), (g, zR n o s)] := H2.out.1.grow hM (Nat.le_refl _) hl [] rfl (by decide)
 have B3 : Below w.heap.size w w3 := H2.out.2.trans ((hM.below).mono H2.out.2.size)
 clear hM hl l H2
 clear J
 have H3 : Hid (_ ∧ _) := ⟨M3, B3⟩
 clear M3 B3
 refine rN (wp_cond_true rfl (wp_seq ?_))
 refine zD 1 [.q (N a)] (sB H3) ?ho4 ?he4
 case ho4 => exact bN 0 trivial
 intro J w4 l hM hl
 have M4 : Mm w4 [(J1_0, zB a), (J1_1, zero6), (g, zR n o s)] := H3.out.1.grow hM (Nat.le_refl _) hl [] rfl (by decide)
 have B4 : Below w.heap.size w w4 := H3.out.2.trans ((hM.below).mono H3.out.2.size)
 clear hM hl l H3
 clear J
 have H4 : Hid (_ ∧ _) := ⟨M4, B4⟩
 clear M4 B4
 refine zG (l := [1]) rfl ?_
 refine sG rfl (fun h => zM h 1 rfl rfl rfl rfl (Nat.le_of_ble_eq_true rfl)) 1 [_, (_, zB a), _] H4 o1_1 fun w5 H5 => ?_
 clear H4
 refine zE (zA (wp_ret ?_))
 repeat (first | refine zK ?_ | refine zI ?_)
 have c0 := H5.out.1.get 1 rfl 0 rfl
 have c1 := H5.out.1.get 1 rfl 1 rfl
 have c2 := H5.out.1.get 1 rfl 2 rfl
 have c3 := H5.out.1.get 1 rfl 3 rfl
 have c4 := H5.out.1.get 1 rfl 4 rfl
 have c5 := H5.out.1.get 1 rfl 5 rfl
 refine bodyPost_ret (v := N a) (by simp [results, Tryz.results74, go_sem, *]) rfl ?_
 exact ⟨rfl, H5.out.2⟩
theorem reduce_2 (g n o s a r : Nat) (c : Int) (hc : ¬ c < 0)
  (c0 : ∀ w, Mm w [(g, zR n o s)] → Calls Tryz.prog 73 #[PT g 0] w (Rt w (.bool true)))
  (c1 : ∀ w, Calls Tryz.prog 59 #[N a, N n] w (Rt w (.int .i64 c)))
  (c2 : ∀ w, Calls Tryz.prog 45 #[N a, N n] w (Rt w (.tuple #[N r, .bool false])))
  (c3 : ∀ w, Calls Tryz.prog 59 #[N r, N n] w (Rt w (.int .i64 (-1)))) (w : World) (hm : Mm w [(g, zR n o s)]) :
  Calls Tryz.prog 74 #[PT g 0, N a] w (Rt w (N r)) := by
 have H0 : Hid (_ ∧ _) := ⟨hm, Below.refl w.heap.size w⟩
 clear hm
 have C0 : Hid _ := c0
 have C1 : Hid _ := c1
 have C2 : Hid _ := c2
 have C3 : Hid _ := c3
 clear c0 c1 c2 c3
 go_enter Tryz.func74, Tryz.ntmps74
 refine wp_seq ?_
 refine zD 2 [.made (zB a) 24, .made zero6 24] (sB H0) ?ho1 ?he1
 case ho1 => exact am (zU rfl rfl) (am (zF rfl) trivial)
 intro J w1 l hM hl
 have M1 : Mm w1 [(J 0, zB a), (J 1, zero6), (g, zR n o s)] := H0.out.1.grow hM (Nat.le_refl _) hl [0, 1] rfl (by decide)
 have B1 : Below w.heap.size w w1 := H0.out.2.trans ((hM.below).mono H0.out.2.size)
 have o1_0 : Hid (w.heap.size ≤ J 0) := Nat.le_trans H0.out.2.size (hM.fin (Nat.le_refl _) hl (i := 0) rfl).2.1
 have o1_1 : Hid (w.heap.size ≤ J 1) := Nat.le_trans H0.out.2.size (hM.fin (Nat.le_refl _) hl (i := 1) rfl).2.1
 clear hM hl l
 generalize J 0 = J1_0 at M1 o1_0 ⊢
 generalize J 1 = J1_1 at M1 o1_1 ⊢
 clear J
 have H1 : Hid (_ ∧ _) := ⟨M1, B1⟩
 clear M1 B1
 refine rN (wp_seq (wp_seq ?_))
 refine zD 3 [.q (PT g 0), .call (.bool true), .q (.bool false)] (sB H1) ?ho2 ?he2
 case ho2 => exact ar (ac (fun w' h => eC call73 (C0.out w' (h.one 2 rfl))) (ag trivial))
 intro J w2 l hM hl
 have M2 : Mm w2 [(J1_0, zB a), (J1_1, zero6), (g, zR n o s)] := H1.out.1.grow hM (Nat.le_refl _) hl [] rfl (by decide)
 have B2 : Below w.heap.size w w2 := H1.out.2.trans ((hM.below).mono H1.out.2.size)
 clear hM hl l H1
 clear J
 have H2 : Hid (_ ∧ _) := ⟨M2, B2⟩
 clear M2 B2
 refine rN (wp_cond_false rfl ?_)
 refine wp_skip (zA ?_)
 refine wp_seq (wp_seq ?_)
 refine zQ 7 [.q (N a), .q (PT g 0), .q (PT g 0), .q (PT g 0), .q (N n), .call (.int .i64 c), .q (.bool false)] (sB H2) ?ho3 ?he3
 case ho3 => exact bN 0 (ar (ag (ag (bN 2 (ac (fun w' h => eC call59 (C1.out w')) (ag trivial))))))
 intro J w3 l hM hl
 have M3 : Mm w3 [(J1_0, zB a), (J1_1, zero6), (g, zR n o s)] := H2.out.1.grow hM (Nat.le_refl _) hl [] rfl (by decide)
 have B3 : Below w.heap.size w w3 := H2.out.2.trans ((hM.below).mono H2.out.2.size)
 clear hM hl l H2
 clear J
 have H3 : Hid (_ ∧ _) := ⟨M3, B3⟩
 clear M3 B3
 refine rN (wp_cond_false rfl ?_)
 refine wp_skip (zA (wp_seq ?_))
 refine zQ 12 [.q (N a), .q (PT g 0), .q (PT g 0), .q (PT g 0), .q (N n), .call (.tuple #[N r, .bool false]), .q (.tuple #[N r, .bool false]), .q (N r), .q (.bool false), .made zero6 24, .laid 9 zero6 (zB r), .q (.bool false)] (sB H3) ?ho4 ?he4 (hL := ?hL4)
 case hL4 => exact ⟨⟨_, rfl⟩, trivial⟩
 case ho4 => exact bN 0 (ar (ag (ag (bN 2 (ac (fun w' h => eC call45 (C2.out w')) (ar (ag (ag (am (zF rfl) (ak (fun J => ⟨rfl, rfl, rfl, fun w' h => zJ h rfl rfl rfl⟩) (ar trivial)))))))))))
 intro J w4 l hM hl
 have M4 : Mm w4 [(J 9, zB r), (J1_0, zB a), (J1_1, zero6), (g, zR n o s)] := H3.out.1.grow hM (Nat.le_refl _) hl [9] rfl (by decide)
 have B4 : Below w.heap.size w w4 := H3.out.2.trans ((hM.below).mono H3.out.2.size)
 have o4_9 : Hid (w.heap.size ≤ J 9) := Nat.le_trans H3.out.2.size (hM.fin (Nat.le_refl _) hl (i := 9) rfl).2.1
 clear hM hl l H3
 generalize J 9 = J4_9 at M4 o4_9 ⊢
 clear J
 have H4 : Hid (_ ∧ _) := ⟨M4, B4⟩
 clear M4 B4
 refine rN (wp_seq (wp_seq ?_))
 refine zQ 7 [.q (N r), .q (PT g 0), .q (PT g 0), .q (PT g 0), .q (N n), .call (.int .i64 (-1)), .q (.bool true)] (sB H4) ?ho5 ?he5
 case ho5 => exact bN 0 (ar (ag (ag (bN 3 (ac (fun w' h => eC call59 (C3.out w')) (ag trivial))))))
 intro J w5 l hM hl
 have M5 : Mm w5 [(J4_9, zB r), (J1_0, zB a), (J1_1, zero6), (g, zR n o s)] := H4.out.1.grow hM (Nat.le_refl _) hl [] rfl (by decide)
 have B5 : Below w.heap.size w w5 := H4.out.2.trans ((hM.below).mono H4.out.2.size)
 clear hM hl l H4
 clear J
 have H5 : Hid (_ ∧ _) := ⟨M5, B5⟩
 clear M5 B5
 refine rN (wp_cond_true rfl (wp_seq ?_))
 refine zD 1 [.q (N r)] (sB H5) ?ho6 ?he6
 case ho6 => exact bN 0 trivial
 intro J w6 l hM hl
 have M6 : Mm w6 [(J4_9, zB r), (J1_0, zB a), (J1_1, zero6), (g, zR n o s)] := H5.out.1.grow hM (Nat.le_refl _) hl [] rfl (by decide)
 have B6 : Below w.heap.size w w6 := H5.out.2.trans ((hM.below).mono H5.out.2.size)
 clear hM hl l H5
 clear J
 have H6 : Hid (_ ∧ _) := ⟨M6, B6⟩
 clear M6 B6
 refine zG (l := [1]) rfl ?_
 refine sG rfl (fun h => zM h 2 rfl rfl rfl rfl (Nat.le_of_ble_eq_true rfl)) 2 [_, _, (_, zB r), _] H6 o1_1 fun w7 H7 => ?_
 clear H6
 refine zE (zA (wp_ret ?_))
 repeat (first | refine zK ?_ | refine zI ?_)
 have c0 := H7.out.1.get 2 rfl 0 rfl
 have c1 := H7.out.1.get 2 rfl 1 rfl
 have c2 := H7.out.1.get 2 rfl 2 rfl
 have c3 := H7.out.1.get 2 rfl 3 rfl
 have c4 := H7.out.1.get 2 rfl 4 rfl
 have c5 := H7.out.1.get 2 rfl 5 rfl
 refine bodyPost_ret (v := N r) (by simp [results, Tryz.results74, go_sem, *]) rfl ?_
 exact ⟨rfl, H7.out.2⟩
theorem reduce_3 (g n o s a r x : Nat) (c d : Int) (hc : ¬ c < 0) (hd : ¬ d < 0)
  (c0 : ∀ w, Mm w [(g, zR n o s)] → Calls Tryz.prog 73 #[PT g 0] w (Rt w (.bool true)))
  (c1 : ∀ w, Calls Tryz.prog 59 #[N a, N n] w (Rt w (.int .i64 c)))
  (c2 : ∀ w, Calls Tryz.prog 45 #[N a, N n] w (Rt w (.tuple #[N r, .bool false])))
  (c3 : ∀ w, Calls Tryz.prog 59 #[N r, N n] w (Rt w (.int .i64 d)))
  (c4 : ∀ w, Mm w [(g, zR n o s)] → Calls Tryz.prog 80 #[PT g 0, N r, N o] w (Rt w (N x))) (w : World) (hm : Mm w [(g, zR n o s)]) :
  Calls Tryz.prog 74 #[PT g 0, N a] w (Rt w (N x)) := by
 have H0 : Hid (_ ∧ _) := ⟨hm, Below.refl w.heap.size w⟩
 clear hm
 have C0 : Hid _ := c0
 have C1 : Hid _ := c1
 have C2 : Hid _ := c2
 have C3 : Hid _ := c3
 have C4 : Hid _ := c4
 clear c0 c1 c2 c3 c4
 go_enter Tryz.func74, Tryz.ntmps74
 refine wp_seq ?_
 refine zD 2 [.made (zB a) 24, .made zero6 24] (sB H0) ?ho1 ?he1
 case ho1 => exact am (zU rfl rfl) (am (zF rfl) trivial)
 intro J w1 l hM hl
 have M1 : Mm w1 [(J 0, zB a), (J 1, zero6), (g, zR n o s)] := H0.out.1.grow hM (Nat.le_refl _) hl [0, 1] rfl (by decide)
 have B1 : Below w.heap.size w w1 := H0.out.2.trans ((hM.below).mono H0.out.2.size)
 have o1_0 : Hid (w.heap.size ≤ J 0) := Nat.le_trans H0.out.2.size (hM.fin (Nat.le_refl _) hl (i := 0) rfl).2.1
 have o1_1 : Hid (w.heap.size ≤ J 1) := Nat.le_trans H0.out.2.size (hM.fin (Nat.le_refl _) hl (i := 1) rfl).2.1
 clear hM hl l
 generalize J 0 = J1_0 at M1 o1_0 ⊢
 generalize J 1 = J1_1 at M1 o1_1 ⊢
 clear J
 have H1 : Hid (_ ∧ _) := ⟨M1, B1⟩
 clear M1 B1
 refine rN (wp_seq (wp_seq ?_))
 refine zD 3 [.q (PT g 0), .call (.bool true), .q (.bool false)] (sB H1) ?ho2 ?he2
 case ho2 => exact ar (ac (fun w' h => eC call73 (C0.out w' (h.one 2 rfl))) (ag trivial))
 intro J w2 l hM hl
 have M2 : Mm w2 [(J1_0, zB a), (J1_1, zero6), (g, zR n o s)] := H1.out.1.grow hM (Nat.le_refl _) hl [] rfl (by decide)
 have B2 : Below w.heap.size w w2 := H1.out.2.trans ((hM.below).mono H1.out.2.size)
 clear hM hl l H1
 clear J
 have H2 : Hid (_ ∧ _) := ⟨M2, B2⟩
 clear M2 B2
 refine rN (wp_cond_false rfl ?_)
 refine wp_skip (zA ?_)
 refine wp_seq (wp_seq ?_)
 refine zQ 7 [.q (N a), .q (PT g 0), .q (PT g 0), .q (PT g 0), .q (N n), .call (.int .i64 c), .q (.bool false)] (sB H2) ?ho3 ?he3
 case ho3 => exact bN 0 (ar (ag (ag (bN 2 (ac (fun w' h => eC call59 (C1.out w')) (ag trivial))))))
 intro J w3 l hM hl
 have M3 : Mm w3 [(J1_0, zB a), (J1_1, zero6), (g, zR n o s)] := H2.out.1.grow hM (Nat.le_refl _) hl [] rfl (by decide)
 have B3 : Below w.heap.size w w3 := H2.out.2.trans ((hM.below).mono H2.out.2.size)
 clear hM hl l H2
 clear J
 have H3 : Hid (_ ∧ _) := ⟨M3, B3⟩
 clear M3 B3
 refine rN (wp_cond_false rfl ?_)
 refine wp_skip (zA (wp_seq ?_))
 refine zQ 12 [.q (N a), .q (PT g 0), .q (PT g 0), .q (PT g 0), .q (N n), .call (.tuple #[N r, .bool false]), .q (.tuple #[N r, .bool false]), .q (N r), .q (.bool false), .made zero6 24, .laid 9 zero6 (zB r), .q (.bool false)] (sB H3) ?ho4 ?he4 (hL := ?hL4)
 case hL4 => exact ⟨⟨_, rfl⟩, trivial⟩
 case ho4 => exact bN 0 (ar (ag (ag (bN 2 (ac (fun w' h => eC call45 (C2.out w')) (ar (ag (ag (am (zF rfl) (ak (fun J => ⟨rfl, rfl, rfl, fun w' h => zJ h rfl rfl rfl⟩) (ar trivial)))))))))))
 intro J w4 l hM hl
 have M4 : Mm w4 [(J 9, zB r), (J1_0, zB a), (J1_1, zero6), (g, zR n o s)] := H3.out.1.grow hM (Nat.le_refl _) hl [9] rfl (by decide)
 have B4 : Below w.heap.size w w4 := H3.out.2.trans ((hM.below).mono H3.out.2.size)
 have o4_9 : Hid (w.heap.size ≤ J 9) := Nat.le_trans H3.out.2.size (hM.fin (Nat.le_refl _) hl (i := 9) rfl).2.1
 clear hM hl l H3
 generalize J 9 = J4_9 at M4 o4_9 ⊢
 clear J
 have H4 : Hid (_ ∧ _) := ⟨M4, B4⟩
 clear M4 B4
 refine rN (wp_seq (wp_seq ?_))
 refine zQ 7 [.q (N r), .q (PT g 0), .q (PT g 0), .q (PT g 0), .q (N n), .call (.int .i64 d), .q (.bool false)] (sB H4) ?ho5 ?he5
 case ho5 => exact bN 0 (ar (ag (ag (bN 3 (ac (fun w' h => eC call59 (C3.out w')) (ag trivial))))))
 intro J w5 l hM hl
 have M5 : Mm w5 [(J4_9, zB r), (J1_0, zB a), (J1_1, zero6), (g, zR n o s)] := H4.out.1.grow hM (Nat.le_refl _) hl [] rfl (by decide)
 have B5 : Below w.heap.size w w5 := H4.out.2.trans ((hM.below).mono H4.out.2.size)
 clear hM hl l H4
 clear J
 have H5 : Hid (_ ∧ _) := ⟨M5, B5⟩
 clear M5 B5
 refine rN (wp_cond_false rfl ?_)
 refine wp_skip (zA (wp_seq ?_))
 refine zQ 7 [.q (PT g 0), .q (N r), .q (PT g 0), .q (PT g 0), .q (PT g 7), .q (N o), .call (N x)] (sB H5) ?ho6 ?he6
 case ho6 => exact ar (bN 0 (ar (ag (ag (bN 3 (ac (fun w' h => eC call80 (C4.out w' (h.one 3 rfl))) trivial))))))
 intro J w6 l hM hl
 have M6 : Mm w6 [(J4_9, zB r), (J1_0, zB a), (J1_1, zero6), (g, zR n o s)] := H5.out.1.grow hM (Nat.le_refl _) hl [] rfl (by decide)
 have B6 : Below w.heap.size w w6 := H5.out.2.trans ((hM.below).mono H5.out.2.size)
 clear hM hl l H5
 clear J
 have H6 : Hid (_ ∧ _) := ⟨M6, B6⟩
 clear M6 B6
 refine zG (l := [7]) rfl ?_
 refine sG rfl (fun h => zM h 2 rfl rfl rfl rfl (Nat.le_of_ble_eq_true rfl)) 2 [_, _, (_, zB x), _] H6 o1_1 fun w7 H7 => ?_
 clear H6
 refine zE (zA (wp_ret ?_))
 repeat (first | refine zK ?_ | refine zI ?_)
 have c0 := H7.out.1.get 2 rfl 0 rfl
 have c1 := H7.out.1.get 2 rfl 1 rfl
 have c2 := H7.out.1.get 2 rfl 2 rfl
 have c3 := H7.out.1.get 2 rfl 3 rfl
 have c4 := H7.out.1.get 2 rfl 4 rfl
 have c5 := H7.out.1.get 2 rfl 5 rfl
 refine bodyPost_ret (v := N x) (by simp [results, Tryz.results74, go_sem, *]) rfl ?_
 exact ⟨rfl, H7.out.2⟩
theorem add_1 (g n o s a b u r : Nat)
  (c0 : ∀ w, Mm w [(g, zR n o s)] → Calls Tryz.prog 73 #[PT g 0] w (Rt w (.bool true)))
  (c1 : ∀ w, Calls Tryz.prog 46 #[N a, N b] w (Rt w (.tuple #[N u, .bool false])))
  (c2 : ∀ w, Mm w [(g, zR n o s)] → Calls Tryz.prog 74 #[PT g 0, N u] w (Rt w (N r))) (w : World) (hm : Mm w [(g, zR n o s)]) :
  Calls Tryz.prog 102 #[PT g 0, N a, N b] w (Rt w (N r)) := by
 have H0 : Hid (_ ∧ _) := ⟨hm, Below.refl w.heap.size w⟩
 clear hm
 have C0 : Hid _ := c0
 have C1 : Hid _ := c1
 have C2 : Hid _ := c2
 clear c0 c1 c2
 go_enter Tryz.func102, Tryz.ntmps102
 refine wp_seq ?_
 refine zD 3 [.made (zB a) 24, .made (zB b) 24, .made zero6 24] (sB H0) ?ho1 ?he1
 case ho1 => exact am (zU rfl rfl) (am (zU rfl rfl) (am (zF rfl) trivial))
 intro J w1 l hM hl
 have M1 : Mm w1 [(J 0, zB a), (J 1, zB b), (J 2, zero6), (g, zR n o s)] := H0.out.1.grow hM (Nat.le_refl _) hl [0, 1, 2] rfl (by decide)
 have B1 : Below w.heap.size w w1 := H0.out.2.trans ((hM.below).mono H0.out.2.size)
 have o1_0 : Hid (w.heap.size ≤ J 0) := Nat.le_trans H0.out.2.size (hM.fin (Nat.le_refl _) hl (i := 0) rfl).2.1
 have o1_1 : Hid (w.heap.size ≤ J 1) := Nat.le_trans H0.out.2.size (hM.fin (Nat.le_refl _) hl (i := 1) rfl).2.1
 have o1_2 : Hid (w.heap.size ≤ J 2) := Nat.le_trans H0.out.2.size (hM.fin (Nat.le_refl _) hl (i := 2) rfl).2.1
 clear hM hl l
 generalize J 0 = J1_0 at M1 o1_0 ⊢
 generalize J 1 = J1_1 at M1 o1_1 ⊢
 generalize J 2 = J1_2 at M1 o1_2 ⊢
 clear J
 have H1 : Hid (_ ∧ _) := ⟨M1, B1⟩
 clear M1 B1
 refine rN (wp_seq (wp_seq ?_))
 refine zD 3 [.q (PT g 0), .call (.bool true), .q (.bool false)] (sB H1) ?ho2 ?he2
 case ho2 => exact ar (ac (fun w' h => eC call73 (C0.out w' (h.one 3 rfl))) (ag trivial))
 intro J w2 l hM hl
 have M2 : Mm w2 [(J1_0, zB a), (J1_1, zB b), (J1_2, zero6), (g, zR n o s)] := H1.out.1.grow hM (Nat.le_refl _) hl [] rfl (by decide)
 have B2 : Below w.heap.size w w2 := H1.out.2.trans ((hM.below).mono H1.out.2.size)
 clear hM hl l H1
 clear J
 have H2 : Hid (_ ∧ _) := ⟨M2, B2⟩
 clear M2 B2
 refine rN (wp_cond_false rfl ?_)
 refine wp_skip (zA (wp_seq ?_))
 refine zD 9 [.q (N a), .q (N b), .call (.tuple #[N u, .bool false]), .q (.tuple #[N u, .bool false]), .q (N u), .q (.bool false), .made zero6 24, .laid 6 zero6 (zB u), .q (.bool false)] (sB H2) ?ho3 ?he3 (hL := ?hL3)
 case hL3 => exact ⟨⟨_, rfl⟩, trivial⟩
 case ho3 => exact bN 0 (bN 1 (ac (fun w' h => eC call46 (C1.out w')) (ar (ag (ag (am (zF rfl) (ak (fun J => ⟨rfl, rfl, rfl, fun w' h => zJ h rfl rfl rfl⟩) (ar trivial))))))))
 intro J w3 l hM hl
 have M3 : Mm w3 [(J 6, zB u), (J1_0, zB a), (J1_1, zB b), (J1_2, zero6), (g, zR n o s)] := H2.out.1.grow hM (Nat.le_refl _) hl [6] rfl (by decide)
 have B3 : Below w.heap.size w w3 := H2.out.2.trans ((hM.below).mono H2.out.2.size)
 have o3_6 : Hid (w.heap.size ≤ J 6) := Nat.le_trans H2.out.2.size (hM.fin (Nat.le_refl _) hl (i := 6) rfl).2.1
 clear hM hl l H2
 generalize J 6 = J3_6 at M3 o3_6 ⊢
 clear J
 have H3 : Hid (_ ∧ _) := ⟨M3, B3⟩
 clear M3 B3
 refine rN (wp_seq (wp_seq ?_))
 refine zD 1 [.q (.bool false)] (sB H3) ?ho4 ?he4
 case ho4 => exact ar trivial
 intro J w4 l hM hl
 have M4 : Mm w4 [(J3_6, zB u), (J1_0, zB a), (J1_1, zB b), (J1_2, zero6), (g, zR n o s)] := H3.out.1.grow hM (Nat.le_refl _) hl [] rfl (by decide)
 have B4 : Below w.heap.size w w4 := H3.out.2.trans ((hM.below).mono H3.out.2.size)
 clear hM hl l H3
 clear J
 have H4 : Hid (_ ∧ _) := ⟨M4, B4⟩
 clear M4 B4
 refine rN (wp_cond_false rfl ?_)
 refine wp_skip (zA (wp_seq ?_))
 refine zD 3 [.q (PT g 0), .q (N u), .call (N r)] (sB H4) ?ho5 ?he5
 case ho5 => exact ar (bN 0 (ac (fun w' h => eC call74 (C2.out w' (h.one 4 rfl))) trivial))
 intro J w5 l hM hl
 have M5 : Mm w5 [(J3_6, zB u), (J1_0, zB a), (J1_1, zB b), (J1_2, zero6), (g, zR n o s)] := H4.out.1.grow hM (Nat.le_refl _) hl [] rfl (by decide)
 have B5 : Below w.heap.size w w5 := H4.out.2.trans ((hM.below).mono H4.out.2.size)
 clear hM hl l H4
 clear J
 have H5 : Hid (_ ∧ _) := ⟨M5, B5⟩
 clear M5 B5
 refine zG (l := [3]) rfl ?_
 refine sG rfl (fun h => zM h 3 rfl rfl rfl rfl (Nat.le_of_ble_eq_true rfl)) 3 [_, _, _, (_, zB r), _] H5 o1_2 fun w6 H6 => ?_
 clear H5
 refine zE (zA (wp_ret ?_))
 repeat (first | refine zK ?_ | refine zI ?_)
 have c0 := H6.out.1.get 3 rfl 0 rfl
 have c1 := H6.out.1.get 3 rfl 1 rfl
 have c2 := H6.out.1.get 3 rfl 2 rfl
 have c3 := H6.out.1.get 3 rfl 3 rfl
 have c4 := H6.out.1.get 3 rfl 4 rfl
 have c5 := H6.out.1.get 3 rfl 5 rfl
 refine bodyPost_ret (v := N r) (by simp [results, Tryz.results102, go_sem, *]) rfl ?_
 exact ⟨rfl, H6.out.2⟩
theorem add_2 (g n o s a b u x y v r : Nat)
  (c0 : ∀ w, Mm w [(g, zR n o s)] → Calls Tryz.prog 73 #[PT g 0] w (Rt w (.bool true)))
  (c1 : ∀ w, Calls Tryz.prog 46 #[N a, N b] w (Rt w (.tuple #[N u, .bool true])))
  (c2 : ∀ w, Mm w [(g, zR n o s)] → Calls Tryz.prog 74 #[PT g 0, N a] w (Rt w (N x)))
  (c3 : ∀ w, Mm w [(g, zR n o s)] → Calls Tryz.prog 74 #[PT g 0, N b] w (Rt w (N y)))
  (c4 : ∀ w, Calls Tryz.prog 46 #[N x, N y] w (Rt w (.tuple #[N v, .bool false])))
  (c5 : ∀ w, Mm w [(g, zR n o s)] → Calls Tryz.prog 74 #[PT g 0, N v] w (Rt w (N r))) (w : World) (hm : Mm w [(g, zR n o s)]) :
  Calls Tryz.prog 102 #[PT g 0, N a, N b] w (Rt w (N r)) := by
 have H0 : Hid (_ ∧ _) := ⟨hm, Below.refl w.heap.size w⟩
 clear hm
 have C0 : Hid _ := c0
 have C1 : Hid _ := c1
 have C2 : Hid _ := c2
 have C3 : Hid _ := c3
 have C4 : Hid _ := c4
 have C5 : Hid _ := c5
 clear c0 c1 c2 c3 c4 c5
 go_enter Tryz.func102, Tryz.ntmps102
 refine wp_seq ?_
 refine zD 3 [.made (zB a) 24, .made (zB b) 24, .made zero6 24] (sB H0) ?ho1 ?he1
 case ho1 => exact am (zU rfl rfl) (am (zU rfl rfl) (am (zF rfl) trivial))
 intro J w1 l hM hl
 have M1 : Mm w1 [(J 0, zB a), (J 1, zB b), (J 2, zero6), (g, zR n o s)] := H0.out.1.grow hM (Nat.le_refl _) hl [0, 1, 2] rfl (by decide)
 have B1 : Below w.heap.size w w1 := H0.out.2.trans ((hM.below).mono H0.out.2.size)
 have o1_0 : Hid (w.heap.size ≤ J 0) := Nat.le_trans H0.out.2.size (hM.fin (Nat.le_refl _) hl (i := 0) rfl).2.1
 have o1_1 : Hid (w.heap.size ≤ J 1) := Nat.le_trans H0.out.2.size (hM.fin (Nat.le_refl _) hl (i := 1) rfl).2.1
 have o1_2 : Hid (w.heap.size ≤ J 2) := Nat.le_trans H0.out.2.size (hM.fin (Nat.le_refl _) hl (i := 2) rfl).2.1
 clear hM hl l
 generalize J 0 = J1_0 at M1 o1_0 ⊢
 generalize J 1 = J1_1 at M1 o1_1 ⊢
 generalize J 2 = J1_2 at M1 o1_2 ⊢
 clear J
 have H1 : Hid (_ ∧ _) := ⟨M1, B1⟩
 clear M1 B1
 refine rN (wp_seq (wp_seq ?_))
 refine zD 3 [.q (PT g 0), .call (.bool true), .q (.bool false)] (sB H1) ?ho2 ?he2
 case ho2 => exact ar (ac (fun w' h => eC call73 (C0.out w' (h.one 3 rfl))) (ag trivial))
 intro J w2 l hM hl
 have M2 : Mm w2 [(J1_0, zB a), (J1_1, zB b), (J1_2, zero6), (g, zR n o s)] := H1.out.1.grow hM (Nat.le_refl _) hl [] rfl (by decide)
 have B2 : Below w.heap.size w w2 := H1.out.2.trans ((hM.below).mono H1.out.2.size)
 clear hM hl l H1
 clear J
 have H2 : Hid (_ ∧ _) := ⟨M2, B2⟩
 clear M2 B2
 refine rN (wp_cond_false rfl ?_)
 refine wp_skip (zA (wp_seq ?_))
 refine zD 9 [.q (N a), .q (N b), .call (.tuple #[N u, .bool true]), .q (.tuple #[N u, .bool true]), .q (N u), .q (.bool true), .made zero6 24, .laid 6 zero6 (zB u), .q (.bool true)] (sB H2) ?ho3 ?he3 (hL := ?hL3)
 case hL3 => exact ⟨⟨_, rfl⟩, trivial⟩
 case ho3 => exact bN 0 (bN 1 (ac (fun w' h => eC call46 (C1.out w')) (ar (ag (ag (am (zF rfl) (ak (fun J => ⟨rfl, rfl, rfl, fun w' h => zJ h rfl rfl rfl⟩) (ar trivial))))))))
 intro J w3 l hM hl
 have M3 : Mm w3 [(J 6, zB u), (J1_0, zB a), (J1_1, zB b), (J1_2, zero6), (g, zR n o s)] := H2.out.1.grow hM (Nat.le_refl _) hl [6] rfl (by decide)
 have B3 : Below w.heap.size w w3 := H2.out.2.trans ((hM.below).mono H2.out.2.size)
 have o3_6 : Hid (w.heap.size ≤ J 6) := Nat.le_trans H2.out.2.size (hM.fin (Nat.le_refl _) hl (i := 6) rfl).2.1
 clear hM hl l H2
 generalize J 6 = J3_6 at M3 o3_6 ⊢
 clear J
 have H3 : Hid (_ ∧ _) := ⟨M3, B3⟩
 clear M3 B3
 refine rN (wp_seq (wp_seq ?_))
 refine zD 1 [.q (.bool true)] (sB H3) ?ho4 ?he4
 case ho4 => exact ar trivial
 intro J w4 l hM hl
 have M4 : Mm w4 [(J3_6, zB u), (J1_0, zB a), (J1_1, zB b), (J1_2, zero6), (g, zR n o s)] := H3.out.1.grow hM (Nat.le_refl _) hl [] rfl (by decide)
 have B4 : Below w.heap.size w w4 := H3.out.2.trans ((hM.below).mono H3.out.2.size)
 clear hM hl l H3
 clear J
 have H4 : Hid (_ ∧ _) := ⟨M4, B4⟩
 clear M4 B4
 refine rN (wp_cond_true rfl ?_)
 refine walk_put (by kernel_rfl) 10 [9] [.q (PT g 0), .q (N a), .call (N x), .q (PT g 0), .q (N b), .call (N y), .call (.tuple #[N v, .bool false]), .q (.tuple #[N v, .bool false]), .q (N v), .q (.bool false)] _ ?pre5 ?F5 _ ?hpre5 (fun J => ?hF5) (by kernel_rfl) rfl trivial (sB H4) ?ho5 ?hla5 ?he5
 case hpre5 => simp only [tk, tz]; rfl
 case hF5 => simp only [yB, Kind.val, Act.put, sa, sz, ss]; rfl
 case ho5 =>
  refine ar ?_
  refine bN 1 ?_
  refine ak (fun J => ⟨rfl, fun w' h => eC call74 (C2.out w' (h.one 4 rfl))⟩) ?_
  refine ar ?_
  refine bN 2 ?_
  refine ak (fun J => ⟨rfl, fun w' h => eC call74 (C3.out w' (h.one 4 rfl))⟩) ?_
  refine ak (fun J => ⟨rfl, fun w' h => eC call46 (C4.out w')⟩) ?_
  refine ar ?_
  refine ag ?_
  refine ag ?_
  exact trivial
 case hla5 => exact ⟨⟨_, _, rfl, rfl, fun J => ⟨rfl, fun w' => by go_simp⟩⟩, trivial⟩
 intro J w5 l hM hl
 have M5 : Mm w5 [(J3_6, zB u), (J1_0, zB a), (J1_1, zB b), (J1_2, zero6), (g, zR n o s)] := H4.out.1.grow hM (Nat.le_refl _) hl [] rfl (by decide)
 have B5 : Below w.heap.size w w5 := H4.out.2.trans ((hM.below).mono H4.out.2.size)
 clear hM hl l H4
 clear J
 have H5 : Hid (_ ∧ _) := ⟨M5, B5⟩
 clear M5 B5
 refine ⟨_, zM H5.out.1 0 rfl rfl rfl rfl (Nat.le_of_ble_eq_true rfl), ?_⟩
 have H6 : Hid (Mm (w5.setCells J3_6 0 (zB v)) [(J3_6, zB v), (J1_0, zB a), (J1_1, zB b), (J1_2, zero6), (g, zR n o s)] ∧ Below w.heap.size w (w5.setCells J3_6 0 (zB v))) := ⟨H5.out.1.put 0 (off := 0) (vs := zB v) rfl (Nat.le_of_ble_eq_true rfl), zP _ o3_6.out _ _ _ H5.out.2⟩
 clear H5
 generalize hgw : World.setCells _ _ _ _ = w6 at H6 ⊢
 clear hgw
 refine rN (wp_seq ?_)
 refine zD 3 [.q (PT g 0), .q (N v), .call (N r)] (sB H6) ?ho6 ?he6
 case ho6 => exact ar (bN 0 (ac (fun w' h => eC call74 (C5.out w' (h.one 4 rfl))) trivial))
 intro J w7 l hM hl
 have M7 : Mm w7 [(J3_6, zB v), (J1_0, zB a), (J1_1, zB b), (J1_2, zero6), (g, zR n o s)] := H6.out.1.grow hM (Nat.le_refl _) hl [] rfl (by decide)
 have B7 : Below w.heap.size w w7 := H6.out.2.trans ((hM.below).mono H6.out.2.size)
 clear hM hl l H6
 clear J
 have H7 : Hid (_ ∧ _) := ⟨M7, B7⟩
 clear M7 B7
 refine zG (l := [3]) rfl ?_
 refine sG rfl (fun h => zM h 3 rfl rfl rfl rfl (Nat.le_of_ble_eq_true rfl)) 3 [_, _, _, (_, zB r), _] H7 o1_2 fun w8 H8 => ?_
 clear H7
 refine zE (zA (wp_ret ?_))
 repeat (first | refine zK ?_ | refine zI ?_)
 have c0 := H8.out.1.get 3 rfl 0 rfl
 have c1 := H8.out.1.get 3 rfl 1 rfl
 have c2 := H8.out.1.get 3 rfl 2 rfl
 have c3 := H8.out.1.get 3 rfl 3 rfl
 have c4 := H8.out.1.get 3 rfl 4 rfl
 have c5 := H8.out.1.get 3 rfl 5 rfl
 refine bodyPost_ret (v := N r) (by simp [results, Tryz.results102, go_sem, *]) rfl ?_
 exact ⟨rfl, H8.out.2⟩
theorem sub_1 (g n o s a b u r : Nat)
  (c0 : ∀ w, Mm w [(g, zR n o s)] → Calls Tryz.prog 73 #[PT g 0] w (Rt w (.bool true)))
  (c1 : ∀ w, Calls Tryz.prog 45 #[N a, N b] w (Rt w (.tuple #[N u, .bool false])))
  (c2 : ∀ w, Mm w [(g, zR n o s)] → Calls Tryz.prog 74 #[PT g 0, N u] w (Rt w (N r))) (w : World) (hm : Mm w [(g, zR n o s)]) :
  Calls Tryz.prog 93 #[PT g 0, N a, N b] w (Rt w (N r)) := by
 have H0 : Hid (_ ∧ _) := ⟨hm, Below.refl w.heap.size w⟩
 clear hm
 have C0 : Hid _ := c0
 have C1 : Hid _ := c1
 have C2 : Hid _ := c2
 clear c0 c1 c2
 go_enter Tryz.func93, Tryz.ntmps93
 refine wp_seq ?_
 refine zD 3 [.made (zB a) 24, .made (zB b) 24, .made zero6 24] (sB H0) ?ho1 ?he1
 case ho1 => exact am (zU rfl rfl) (am (zU rfl rfl) (am (zF rfl) trivial))
 intro J w1 l hM hl
 have M1 : Mm w1 [(J 0, zB a), (J 1, zB b), (J 2, zero6), (g, zR n o s)] := H0.out.1.grow hM (Nat.le_refl _) hl [0, 1, 2] rfl (by decide)
 have B1 : Below w.heap.size w w1 := H0.out.2.trans ((hM.below).mono H0.out.2.size)
 have o1_0 : Hid (w.heap.size ≤ J 0) := Nat.le_trans H0.out.2.size (hM.fin (Nat.le_refl _) hl (i := 0) rfl).2.1
 have o1_1 : Hid (w.heap.size ≤ J 1) := Nat.le_trans H0.out.2.size (hM.fin (Nat.le_refl _) hl (i := 1) rfl).2.1
 have o1_2 : Hid (w.heap.size ≤ J 2) := Nat.le_trans H0.out.2.size (hM.fin (Nat.le_refl _) hl (i := 2) rfl).2.1
 clear hM hl l
 generalize J 0 = J1_0 at M1 o1_0 ⊢
 generalize J 1 = J1_1 at M1 o1_1 ⊢
 generalize J 2 = J1_2 at M1 o1_2 ⊢
 clear J
 have H1 : Hid (_ ∧ _) := ⟨M1, B1⟩
 clear M1 B1
 refine rN (wp_seq (wp_seq ?_))
 refine zD 3 [.q (PT g 0), .call (.bool true), .q (.bool false)] (sB H1) ?ho2 ?he2
 case ho2 => exact ar (ac (fun w' h => eC call73 (C0.out w' (h.one 3 rfl))) (ag trivial))
 intro J w2 l hM hl
 have M2 : Mm w2 [(J1_0, zB a), (J1_1, zB b), (J1_2, zero6), (g, zR n o s)] := H1.out.1.grow hM (Nat.le_refl _) hl [] rfl (by decide)
 have B2 : Below w.heap.size w w2 := H1.out.2.trans ((hM.below).mono H1.out.2.size)
 clear hM hl l H1
 clear J
 have H2 : Hid (_ ∧ _) := ⟨M2, B2⟩
 clear M2 B2
 refine rN (wp_cond_false rfl ?_)
 refine wp_skip (zA (wp_seq ?_))
 refine zD 9 [.q (N a), .q (N b), .call (.tuple #[N u, .bool false]), .q (.tuple #[N u, .bool false]), .q (N u), .q (.bool false), .made zero6 24, .laid 6 zero6 (zB u), .q (.bool false)] (sB H2) ?ho3 ?he3 (hL := ?hL3)
 case hL3 => exact ⟨⟨_, rfl⟩, trivial⟩
 case ho3 => exact bN 0 (bN 1 (ac (fun w' h => eC call45 (C1.out w')) (ar (ag (ag (am (zF rfl) (ak (fun J => ⟨rfl, rfl, rfl, fun w' h => zJ h rfl rfl rfl⟩) (ar trivial))))))))
 intro J w3 l hM hl
 have M3 : Mm w3 [(J 6, zB u), (J1_0, zB a), (J1_1, zB b), (J1_2, zero6), (g, zR n o s)] := H2.out.1.grow hM (Nat.le_refl _) hl [6] rfl (by decide)
 have B3 : Below w.heap.size w w3 := H2.out.2.trans ((hM.below).mono H2.out.2.size)
 have o3_6 : Hid (w.heap.size ≤ J 6) := Nat.le_trans H2.out.2.size (hM.fin (Nat.le_refl _) hl (i := 6) rfl).2.1
 clear hM hl l H2
 generalize J 6 = J3_6 at M3 o3_6 ⊢
 clear J
 have H3 : Hid (_ ∧ _) := ⟨M3, B3⟩
 clear M3 B3
 refine rN (wp_seq (wp_seq ?_))
 refine zD 2 [.q (.bool false), .q (.bool true)] (sB H3) ?ho4 ?he4
 case ho4 => exact ar (ag trivial)
 intro J w4 l hM hl
 have M4 : Mm w4 [(J3_6, zB u), (J1_0, zB a), (J1_1, zB b), (J1_2, zero6), (g, zR n o s)] := H3.out.1.grow hM (Nat.le_refl _) hl [] rfl (by decide)
 have B4 : Below w.heap.size w w4 := H3.out.2.trans ((hM.below).mono H3.out.2.size)
 clear hM hl l H3
 clear J
 have H4 : Hid (_ ∧ _) := ⟨M4, B4⟩
 clear M4 B4
 refine rN (wp_cond_true rfl (wp_seq ?_))
 refine zD 3 [.q (PT g 0), .q (N u), .call (N r)] (sB H4) ?ho5 ?he5
 case ho5 => exact ar (bN 0 (ac (fun w' h => eC call74 (C2.out w' (h.one 4 rfl))) trivial))
 intro J w5 l hM hl
 have M5 : Mm w5 [(J3_6, zB u), (J1_0, zB a), (J1_1, zB b), (J1_2, zero6), (g, zR n o s)] := H4.out.1.grow hM (Nat.le_refl _) hl [] rfl (by decide)
 have B5 : Below w.heap.size w w5 := H4.out.2.trans ((hM.below).mono H4.out.2.size)
 clear hM hl l H4
 clear J
 have H5 : Hid (_ ∧ _) := ⟨M5, B5⟩
 clear M5 B5
 refine zG (l := [3]) rfl ?_
 refine sG rfl (fun h => zM h 3 rfl rfl rfl rfl (Nat.le_of_ble_eq_true rfl)) 3 [_, _, _, (_, zB r), _] H5 o1_2 fun w6 H6 => ?_
 clear H5
 refine zE (zA (wp_ret ?_))
 repeat (first | refine zK ?_ | refine zI ?_)
 have c0 := H6.out.1.get 3 rfl 0 rfl
 have c1 := H6.out.1.get 3 rfl 1 rfl
 have c2 := H6.out.1.get 3 rfl 2 rfl
 have c3 := H6.out.1.get 3 rfl 3 rfl
 have c4 := H6.out.1.get 3 rfl 4 rfl
 have c5 := H6.out.1.get 3 rfl 5 rfl
 refine bodyPost_ret (v := N r) (by simp [results, Tryz.results93, go_sem, *]) rfl ?_
 exact ⟨rfl, H6.out.2⟩
theorem sub_2 (g n o s a b u r : Nat)
  (c0 : ∀ w, Mm w [(g, zR n o s)] → Calls Tryz.prog 73 #[PT g 0] w (Rt w (.bool true)))
  (c1 : ∀ w, Calls Tryz.prog 45 #[N a, N b] w (Rt w (.tuple #[N u, .bool true])))
  (c2 : ∀ w, Calls Tryz.prog 46 #[N u, N n] w (Rt w (.tuple #[N r, .bool true]))) (w : World) (hm : Mm w [(g, zR n o s)]) :
  Calls Tryz.prog 93 #[PT g 0, N a, N b] w (Rt w (N r)) := by
 have H0 : Hid (_ ∧ _) := ⟨hm, Below.refl w.heap.size w⟩
 clear hm
 have C0 : Hid _ := c0
 have C1 : Hid _ := c1
 have C2 : Hid _ := c2
 clear c0 c1 c2
 go_enter Tryz.func93, Tryz.ntmps93
 refine wp_seq ?_
 refine zD 3 [.made (zB a) 24, .made (zB b) 24, .made zero6 24] (sB H0) ?ho1 ?he1
 case ho1 => exact am (zU rfl rfl) (am (zU rfl rfl) (am (zF rfl) trivial))
 intro J w1 l hM hl
 have M1 : Mm w1 [(J 0, zB a), (J 1, zB b), (J 2, zero6), (g, zR n o s)] := H0.out.1.grow hM (Nat.le_refl _) hl [0, 1, 2] rfl (by decide)
 have B1 : Below w.heap.size w w1 := H0.out.2.trans ((hM.below).mono H0.out.2.size)
 have o1_0 : Hid (w.heap.size ≤ J 0) := Nat.le_trans H0.out.2.size (hM.fin (Nat.le_refl _) hl (i := 0) rfl).2.1
 have o1_1 : Hid (w.heap.size ≤ J 1) := Nat.le_trans H0.out.2.size (hM.fin (Nat.le_refl _) hl (i := 1) rfl).2.1
 have o1_2 : Hid (w.heap.size ≤ J 2) := Nat.le_trans H0.out.2.size (hM.fin (Nat.le_refl _) hl (i := 2) rfl).2.1
 clear hM hl l
 generalize J 0 = J1_0 at M1 o1_0 ⊢
 generalize J 1 = J1_1 at M1 o1_1 ⊢
 generalize J 2 = J1_2 at M1 o1_2 ⊢
 clear J
 have H1 : Hid (_ ∧ _) := ⟨M1, B1⟩
 clear M1 B1
 refine rN (wp_seq (wp_seq ?_))
 refine zD 3 [.q (PT g 0), .call (.bool true), .q (.bool false)] (sB H1) ?ho2 ?he2
 case ho2 => exact ar (ac (fun w' h => eC call73 (C0.out w' (h.one 3 rfl))) (ag trivial))
 intro J w2 l hM hl
 have M2 : Mm w2 [(J1_0, zB a), (J1_1, zB b), (J1_2, zero6), (g, zR n o s)] := H1.out.1.grow hM (Nat.le_refl _) hl [] rfl (by decide)
 have B2 : Below w.heap.size w w2 := H1.out.2.trans ((hM.below).mono H1.out.2.size)
 clear hM hl l H1
 clear J
 have H2 : Hid (_ ∧ _) := ⟨M2, B2⟩
 clear M2 B2
 refine rN (wp_cond_false rfl ?_)
 refine wp_skip (zA (wp_seq ?_))
 refine zD 9 [.q (N a), .q (N b), .call (.tuple #[N u, .bool true]), .q (.tuple #[N u, .bool true]), .q (N u), .q (.bool true), .made zero6 24, .laid 6 zero6 (zB u), .q (.bool true)] (sB H2) ?ho3 ?he3 (hL := ?hL3)
 case hL3 => exact ⟨⟨_, rfl⟩, trivial⟩
 case ho3 => exact bN 0 (bN 1 (ac (fun w' h => eC call45 (C1.out w')) (ar (ag (ag (am (zF rfl) (ak (fun J => ⟨rfl, rfl, rfl, fun w' h => zJ h rfl rfl rfl⟩) (ar trivial))))))))
 intro J w3 l hM hl
 have M3 : Mm w3 [(J 6, zB u), (J1_0, zB a), (J1_1, zB b), (J1_2, zero6), (g, zR n o s)] := H2.out.1.grow hM (Nat.le_refl _) hl [6] rfl (by decide)
 have B3 : Below w.heap.size w w3 := H2.out.2.trans ((hM.below).mono H2.out.2.size)
 have o3_6 : Hid (w.heap.size ≤ J 6) := Nat.le_trans H2.out.2.size (hM.fin (Nat.le_refl _) hl (i := 6) rfl).2.1
 clear hM hl l H2
 generalize J 6 = J3_6 at M3 o3_6 ⊢
 clear J
 have H3 : Hid (_ ∧ _) := ⟨M3, B3⟩
 clear M3 B3
 refine rN (wp_seq (wp_seq ?_))
 refine zD 2 [.q (.bool true), .q (.bool false)] (sB H3) ?ho4 ?he4
 case ho4 => exact ar (ag trivial)
 intro J w4 l hM hl
 have M4 : Mm w4 [(J3_6, zB u), (J1_0, zB a), (J1_1, zB b), (J1_2, zero6), (g, zR n o s)] := H3.out.1.grow hM (Nat.le_refl _) hl [] rfl (by decide)
 have B4 : Below w.heap.size w w4 := H3.out.2.trans ((hM.below).mono H3.out.2.size)
 clear hM hl l H3
 clear J
 have H4 : Hid (_ ∧ _) := ⟨M4, B4⟩
 clear M4 B4
 refine rN (wp_cond_false rfl ?_)
 refine wp_skip (zA (wp_seq ?_))
 refine zQ 12 [.q (N u), .q (PT g 0), .q (PT g 0), .q (PT g 0), .q (N n), .call (.tuple #[N r, .bool true]), .q (.tuple #[N r, .bool true]), .q (N r), .q (.bool true), .made zero6 24, .laid 9 zero6 (zB r), .q (.bool true)] (sB H4) ?ho5 ?he5 (hL := ?hL5)
 case hL5 => exact ⟨⟨_, rfl⟩, trivial⟩
 case ho5 => exact bN 0 (ar (ag (ag (bN 4 (ac (fun w' h => eC call46 (C2.out w')) (ar (ag (ag (am (zF rfl) (ak (fun J => ⟨rfl, rfl, rfl, fun w' h => zJ h rfl rfl rfl⟩) (ar trivial)))))))))))
 intro J w5 l hM hl
 have M5 : Mm w5 [(J 9, zB r), (J3_6, zB u), (J1_0, zB a), (J1_1, zB b), (J1_2, zero6), (g, zR n o s)] := H4.out.1.grow hM (Nat.le_refl _) hl [9] rfl (by decide)
 have B5 : Below w.heap.size w w5 := H4.out.2.trans ((hM.below).mono H4.out.2.size)
 have o5_9 : Hid (w.heap.size ≤ J 9) := Nat.le_trans H4.out.2.size (hM.fin (Nat.le_refl _) hl (i := 9) rfl).2.1
 clear hM hl l H4
 generalize J 9 = J5_9 at M5 o5_9 ⊢
 clear J
 have H5 : Hid (_ ∧ _) := ⟨M5, B5⟩
 clear M5 B5
 refine rN (wp_seq (wp_seq ?_))
 refine zD 1 [.q (.bool true)] (sB H5) ?ho6 ?he6
 case ho6 => exact ar trivial
 intro J w6 l hM hl
 have M6 : Mm w6 [(J5_9, zB r), (J3_6, zB u), (J1_0, zB a), (J1_1, zB b), (J1_2, zero6), (g, zR n o s)] := H5.out.1.grow hM (Nat.le_refl _) hl [] rfl (by decide)
 have B6 : Below w.heap.size w w6 := H5.out.2.trans ((hM.below).mono H5.out.2.size)
 clear hM hl l H5
 clear J
 have H6 : Hid (_ ∧ _) := ⟨M6, B6⟩
 clear M6 B6
 refine rN (wp_cond_true rfl (wp_seq ?_))
 refine zD 1 [.q (N r)] (sB H6) ?ho7 ?he7
 case ho7 => exact bN 0 trivial
 intro J w7 l hM hl
 have M7 : Mm w7 [(J5_9, zB r), (J3_6, zB u), (J1_0, zB a), (J1_1, zB b), (J1_2, zero6), (g, zR n o s)] := H6.out.1.grow hM (Nat.le_refl _) hl [] rfl (by decide)
 have B7 : Below w.heap.size w w7 := H6.out.2.trans ((hM.below).mono H6.out.2.size)
 clear hM hl l H6
 clear J
 have H7 : Hid (_ ∧ _) := ⟨M7, B7⟩
 clear M7 B7
 refine zG (l := [1]) rfl ?_
 refine sG rfl (fun h => zM h 4 rfl rfl rfl rfl (Nat.le_of_ble_eq_true rfl)) 4 [_, _, _, _, (_, zB r), _] H7 o1_2 fun w8 H8 => ?_
 clear H7
 refine zE (zA (wp_ret ?_))
 repeat (first | refine zK ?_ | refine zI ?_)
 have c0 := H8.out.1.get 4 rfl 0 rfl
 have c1 := H8.out.1.get 4 rfl 1 rfl
 have c2 := H8.out.1.get 4 rfl 2 rfl
 have c3 := H8.out.1.get 4 rfl 3 rfl
 have c4 := H8.out.1.get 4 rfl 4 rfl
 have c5 := H8.out.1.get 4 rfl 5 rfl
 refine bodyPost_ret (v := N r) (by simp [results, Tryz.results93, go_sem, *]) rfl ?_
 exact ⟨rfl, H8.out.2⟩
theorem sub_3 (g n o s a b u v x y r : Nat)
  (c0 : ∀ w, Mm w [(g, zR n o s)] → Calls Tryz.prog 73 #[PT g 0] w (Rt w (.bool true)))
  (c1 : ∀ w, Calls Tryz.prog 45 #[N a, N b] w (Rt w (.tuple #[N u, .bool true])))
  (c2 : ∀ w, Calls Tryz.prog 46 #[N u, N n] w (Rt w (.tuple #[N v, .bool false])))
  (c3 : ∀ w, Mm w [(g, zR n o s)] → Calls Tryz.prog 74 #[PT g 0, N b] w (Rt w (N x)))
  (c4 : ∀ w, Calls Tryz.prog 45 #[N n, N x] w (Rt w (.tuple #[N y, .bool false])))
  (c5 : ∀ w, Mm w [(g, zR n o s)] → Calls Tryz.prog 102 #[PT g 0, N a, N y] w (Rt w (N r))) (w : World) (hm : Mm w [(g, zR n o s)]) :
  Calls Tryz.prog 93 #[PT g 0, N a, N b] w (Rt w (N r)) := by
 have H0 : Hid (_ ∧ _) := ⟨hm, Below.refl w.heap.size w⟩
 clear hm
 have C0 : Hid _ := c0
 have C1 : Hid _ := c1
 have C2 : Hid _ := c2
 have C3 : Hid _ := c3
 have C4 : Hid _ := c4
 have C5 : Hid _ := c5
 clear c0 c1 c2 c3 c4 c5
 go_enter Tryz.func93, Tryz.ntmps93
 refine wp_seq ?_
 refine zD 3 [.made (zB a) 24, .made (zB b) 24, .made zero6 24] (sB H0) ?ho1 ?he1
 case ho1 => exact am (zU rfl rfl) (am (zU rfl rfl) (am (zF rfl) trivial))
 intro J w1 l hM hl
 have M1 : Mm w1 [(J 0, zB a), (J 1, zB b), (J 2, zero6), (g, zR n o s)] := H0.out.1.grow hM (Nat.le_refl _) hl [0, 1, 2] rfl (by decide)
 have B1 : Below w.heap.size w w1 := H0.out.2.trans ((hM.below).mono H0.out.2.size)
 have o1_0 : Hid (w.heap.size ≤ J 0) := Nat.le_trans H0.out.2.size (hM.fin (Nat.le_refl _) hl (i := 0) rfl).2.1
 have o1_1 : Hid (w.heap.size ≤ J 1) := Nat.le_trans H0.out.2.size (hM.fin (Nat.le_refl _) hl (i := 1) rfl).2.1
 have o1_2 : Hid (w.heap.size ≤ J 2) := Nat.le_trans H0.out.2.size (hM.fin (Nat.le_refl _) hl (i := 2) rfl).2.1
 clear hM hl l
 generalize J 0 = J1_0 at M1 o1_0 ⊢
 generalize J 1 = J1_1 at M1 o1_1 ⊢
 generalize J 2 = J1_2 at M1 o1_2 ⊢
 clear J
 have H1 : Hid (_ ∧ _) := ⟨M1, B1⟩
 clear M1 B1
 refine rN (wp_seq (wp_seq ?_))
 refine zD 3 [.q (PT g 0), .call (.bool true), .q (.bool false)] (sB H1) ?ho2 ?he2
 case ho2 => exact ar (ac (fun w' h => eC call73 (C0.out w' (h.one 3 rfl))) (ag trivial))
 intro J w2 l hM hl
 have M2 : Mm w2 [(J1_0, zB a), (J1_1, zB b), (J1_2, zero6), (g, zR n o s)] := H1.out.1.grow hM (Nat.le_refl _) hl [] rfl (by decide)
 have B2 : Below w.heap.size w w2 := H1.out.2.trans ((hM.below).mono H1.out.2.size)
 clear hM hl l H1
 clear J
 have H2 : Hid (_ ∧ _) := ⟨M2, B2⟩
 clear M2 B2
 refine rN (wp_cond_false rfl ?_)
 refine wp_skip (zA (wp_seq ?_))
 refine zD 9 [.q (N a), .q (N b), .call (.tuple #[N u, .bool true]), .q (.tuple #[N u, .bool true]), .q (N u), .q (.bool true), .made zero6 24, .laid 6 zero6 (zB u), .q (.bool true)] (sB H2) ?ho3 ?he3 (hL := ?hL3)
 case hL3 => exact ⟨⟨_, rfl⟩, trivial⟩
 case ho3 => exact bN 0 (bN 1 (ac (fun w' h => eC call45 (C1.out w')) (ar (ag (ag (am (zF rfl) (ak (fun J => ⟨rfl, rfl, rfl, fun w' h => zJ h rfl rfl rfl⟩) (ar trivial))))))))
 intro J w3 l hM hl
 have M3 : Mm w3 [(J 6, zB u), (J1_0, zB a), (J1_1, zB b), (J1_2, zero6), (g, zR n o s)] := H2.out.1.grow hM (Nat.le_refl _) hl [6] rfl (by decide)
 have B3 : Below w.heap.size w w3 := H2.out.2.trans ((hM.below).mono H2.out.2.size)
 have o3_6 : Hid (w.heap.size ≤ J 6) := Nat.le_trans H2.out.2.size (hM.fin (Nat.le_refl _) hl (i := 6) rfl).2.1
 clear hM hl l H2
 generalize J 6 = J3_6 at M3 o3_6 ⊢
 clear J
 have H3 : Hid (_ ∧ _) := ⟨M3, B3⟩
 clear M3 B3
 refine rN (wp_seq (wp_seq ?_))
 refine zD 2 [.q (.bool true), .q (.bool false)] (sB H3) ?ho4 ?he4
 case ho4 => exact ar (ag trivial)
 intro J w4 l hM hl
 have M4 : Mm w4 [(J3_6, zB u), (J1_0, zB a), (J1_1, zB b), (J1_2, zero6), (g, zR n o s)] := H3.out.1.grow hM (Nat.le_refl _) hl [] rfl (by decide)
 have B4 : Below w.heap.size w w4 := H3.out.2.trans ((hM.below).mono H3.out.2.size)
 clear hM hl l H3
 clear J
 have H4 : Hid (_ ∧ _) := ⟨M4, B4⟩
 clear M4 B4
 refine rN (wp_cond_false rfl ?_)
 refine wp_skip (zA (wp_seq ?_))
 refine zQ 12 [.q (N u), .q (PT g 0), .q (PT g 0), .q (PT g 0), .q (N n), .call (.tuple #[N v, .bool false]), .q (.tuple #[N v, .bool false]), .q (N v), .q (.bool false), .made zero6 24, .laid 9 zero6 (zB v), .q (.bool false)] (sB H4) ?ho5 ?he5 (hL := ?hL5)
 case hL5 => exact ⟨⟨_, rfl⟩, trivial⟩
 case ho5 => exact bN 0 (ar (ag (ag (bN 4 (ac (fun w' h => eC call46 (C2.out w')) (ar (ag (ag (am (zF rfl) (ak (fun J => ⟨rfl, rfl, rfl, fun w' h => zJ h rfl rfl rfl⟩) (ar trivial)))))))))))
 intro J w5 l hM hl
 have M5 : Mm w5 [(J 9, zB v), (J3_6, zB u), (J1_0, zB a), (J1_1, zB b), (J1_2, zero6), (g, zR n o s)] := H4.out.1.grow hM (Nat.le_refl _) hl [9] rfl (by decide)
 have B5 : Below w.heap.size w w5 := H4.out.2.trans ((hM.below).mono H4.out.2.size)
 have o5_9 : Hid (w.heap.size ≤ J 9) := Nat.le_trans H4.out.2.size (hM.fin (Nat.le_refl _) hl (i := 9) rfl).2.1
 clear hM hl l H4
 generalize J 9 = J5_9 at M5 o5_9 ⊢
 clear J
 have H5 : Hid (_ ∧ _) := ⟨M5, B5⟩
 clear M5 B5
 refine rN (wp_seq (wp_seq ?_))
 refine zD 1 [.q (.bool false)] (sB H5) ?ho6 ?he6
 case ho6 => exact ar trivial
 intro J w6 l hM hl
 have M6 : Mm w6 [(J5_9, zB v), (J3_6, zB u), (J1_0, zB a), (J1_1, zB b), (J1_2, zero6), (g, zR n o s)] := H5.out.1.grow hM (Nat.le_refl _) hl [] rfl (by decide)
 have B6 : Below w.heap.size w w6 := H5.out.2.trans ((hM.below).mono H5.out.2.size)
 clear hM hl l H5
 clear J
 have H6 : Hid (_ ∧ _) := ⟨M6, B6⟩
 clear M6 B6
 refine rN (wp_cond_false rfl ?_)
 refine wp_skip (zA (wp_seq ?_))
 refine zQ 14 [.q (PT g 0), .q (PT g 0), .q (PT g 0), .q (N n), .q (PT g 0), .q (N b), .call (N x), .call (.tuple #[N y, .bool false]), .q (.tuple #[N y, .bool false]), .q (N y), .q (.bool false), .made zero6 24, .laid 11 zero6 (zB y), .q (.bool false)] (sB H6) ?ho7 ?he7 (hL := ?hL7)
 case hL7 => exact ⟨⟨_, rfl⟩, trivial⟩
 case ho7 => exact ar (ag (ag (bN 5 (ar (bN 3 (ac (fun w' h => eC call74 (C3.out w' (h.one 5 rfl))) (ac (fun w' h => eC call45 (C4.out w')) (ar (ag (ag (am (zF rfl) (ak (fun J => ⟨rfl, rfl, rfl, fun w' h => zJ h rfl rfl rfl⟩) (ar trivial)))))))))))))
 intro J w7 l hM hl
 have M7 : Mm w7 [(J 11, zB y), (J5_9, zB v), (J3_6, zB u), (J1_0, zB a), (J1_1, zB b), (J1_2, zero6), (g, zR n o s)] := H6.out.1.grow hM (Nat.le_refl _) hl [11] rfl (by decide)
 have B7 : Below w.heap.size w w7 := H6.out.2.trans ((hM.below).mono H6.out.2.size)
 have o7_11 : Hid (w.heap.size ≤ J 11) := Nat.le_trans H6.out.2.size (hM.fin (Nat.le_refl _) hl (i := 11) rfl).2.1
 clear hM hl l H6
 generalize J 11 = J7_11 at M7 o7_11 ⊢
 clear J
 have H7 : Hid (_ ∧ _) := ⟨M7, B7⟩
 clear M7 B7
 refine rN (wp_seq ?_)
 refine zD 4 [.q (PT g 0), .q (N a), .q (N y), .call (N r)] (sB H7) ?ho8 ?he8
 case ho8 => exact ar (bN 3 (bN 0 (ac (fun w' h => eC call102 (C5.out w' (h.one 6 rfl))) trivial)))
 intro J w8 l hM hl
 have M8 : Mm w8 [(J7_11, zB y), (J5_9, zB v), (J3_6, zB u), (J1_0, zB a), (J1_1, zB b), (J1_2, zero6), (g, zR n o s)] := H7.out.1.grow hM (Nat.le_refl _) hl [] rfl (by decide)
 have B8 : Below w.heap.size w w8 := H7.out.2.trans ((hM.below).mono H7.out.2.size)
 clear hM hl l H7
 clear J
 have H8 : Hid (_ ∧ _) := ⟨M8, B8⟩
 clear M8 B8
 refine zG (l := [4]) rfl ?_
 refine sG rfl (fun h => zM h 5 rfl rfl rfl rfl (Nat.le_of_ble_eq_true rfl)) 5 [_, _, _, _, _, (_, zB r), _] H8 o1_2 fun w9 H9 => ?_
 clear H8
 refine zE (zA (wp_ret ?_))
 repeat (first | refine zK ?_ | refine zI ?_)
 have c0 := H9.out.1.get 5 rfl 0 rfl
 have c1 := H9.out.1.get 5 rfl 1 rfl
 have c2 := H9.out.1.get 5 rfl 2 rfl
 have c3 := H9.out.1.get 5 rfl 3 rfl
 have c4 := H9.out.1.get 5 rfl 4 rfl
 have c5 := H9.out.1.get 5 rfl 5 rfl
 refine bodyPost_ret (v := N r) (by simp [results, Tryz.results93, go_sem, *]) rfl ?_
 exact ⟨rfl, H9.out.2⟩
theorem neg_gen (g n o s a r : Nat)
  (c0 : ∀ w, Mm w [(g, zR n o s)] → Calls Tryz.prog 93 #[PT g 0, N 0, N a] w (Rt w (N r))) (w : World) (hm : Mm w [(g, zR n o s)]) :
  Calls Tryz.prog 77 #[PT g 0, N a] w (Rt w (N r)) := by
 have H0 : Hid (_ ∧ _) := ⟨hm, Below.refl w.heap.size w⟩
 clear hm
 have C0 : Hid _ := c0
 clear c0
 go_enter Tryz.func77, Tryz.ntmps77
 refine wp_seq ?_
 refine zD 2 [.made (zB a) 24, .made zero6 24] (sB H0) ?ho1 ?he1
 case ho1 => exact am (zU rfl rfl) (am (zF rfl) trivial)
 intro J w1 l hM hl
 have M1 : Mm w1 [(J 0, zB a), (J 1, zero6), (g, zR n o s)] := H0.out.1.grow hM (Nat.le_refl _) hl [0, 1] rfl (by decide)
 have B1 : Below w.heap.size w w1 := H0.out.2.trans ((hM.below).mono H0.out.2.size)
 have o1_0 : Hid (w.heap.size ≤ J 0) := Nat.le_trans H0.out.2.size (hM.fin (Nat.le_refl _) hl (i := 0) rfl).2.1
 have o1_1 : Hid (w.heap.size ≤ J 1) := Nat.le_trans H0.out.2.size (hM.fin (Nat.le_refl _) hl (i := 1) rfl).2.1
 clear hM hl l
 generalize J 0 = J1_0 at M1 o1_0 ⊢
 generalize J 1 = J1_1 at M1 o1_1 ⊢
 clear J
 have H1 : Hid (_ ∧ _) := ⟨M1, B1⟩
 clear M1 B1
 refine rN (wp_seq ?_)
 refine zD 4 [.q (PT g 0), .q (N 0), .q (N a), .call (N r)] (sB H1) ?ho2 ?he2
 case ho2 => exact ar (ak (by refine fun J => ⟨rfl, fun w' h => ?_⟩; clear h; exact ex_zero6 rfl) (bN 0 (ac (fun w' h => eC call93 (C0.out w' (h.one 2 rfl))) trivial)))
 intro J w2 l hM hl
 have M2 : Mm w2 [(J1_0, zB a), (J1_1, zero6), (g, zR n o s)] := H1.out.1.grow hM (Nat.le_refl _) hl [] rfl (by decide)
 have B2 : Below w.heap.size w w2 := H1.out.2.trans ((hM.below).mono H1.out.2.size)
 clear hM hl l H1
 clear J
 have H2 : Hid (_ ∧ _) := ⟨M2, B2⟩
 clear M2 B2
 refine zG (l := [4]) rfl ?_
 refine sG rfl (fun h => zM h 1 rfl rfl rfl rfl (Nat.le_of_ble_eq_true rfl)) 1 [_, (_, zB r), _] H2 o1_1 fun w3 H3 => ?_
 clear H2
 refine zE (zA (wp_ret ?_))
 repeat (first | refine zK ?_ | refine zI ?_)
 have c0 := H3.out.1.get 1 rfl 0 rfl
 have c1 := H3.out.1.get 1 rfl 1 rfl
 have c2 := H3.out.1.get 1 rfl 2 rfl
 have c3 := H3.out.1.get 1 rfl 3 rfl
 have c4 := H3.out.1.get 1 rfl 4 rfl
 have c5 := H3.out.1.get 1 rfl 5 rfl
 refine bodyPost_ret (v := N r) (by simp [results, Tryz.results77, go_sem, *]) rfl ?_
 exact ⟨rfl, H3.out.2⟩
theorem mul_gen (g n o s a b p r : Nat)
  (c0 : ∀ w, Mm w [(g, zR n o s)] → Calls Tryz.prog 73 #[PT g 0] w (Rt w (.bool true)))
  (c1 : ∀ w, Mm w [(g, zR n o s)] → Calls Tryz.prog 80 #[PT g 0, N a, N s] w (Rt w (N p)))
  (c2 : ∀ w, Mm w [(g, zR n o s)] → Calls Tryz.prog 80 #[PT g 0, N b, N p] w (Rt w (N r))) (w : World) (hm : Mm w [(g, zR n o s)]) :
  Calls Tryz.prog 54 #[PT g 0, N a, N b] w (Rt w (N r)) := by
 have H0 : Hid (_ ∧ _) := ⟨hm, Below.refl w.heap.size w⟩
 clear hm
 have C0 : Hid _ := c0
 have C1 : Hid _ := c1
 have C2 : Hid _ := c2
 clear c0 c1 c2
 go_enter Tryz.func54, Tryz.ntmps54
 refine wp_seq ?_
 refine zD 3 [.made (zB a) 24, .made (zB b) 24, .made zero6 24] (sB H0) ?ho1 ?he1
 case ho1 => exact am (zU rfl rfl) (am (zU rfl rfl) (am (zF rfl) trivial))
 intro J w1 l hM hl
 have M1 : Mm w1 [(J 0, zB a), (J 1, zB b), (J 2, zero6), (g, zR n o s)] := H0.out.1.grow hM (Nat.le_refl _) hl [0, 1, 2] rfl (by decide)
 have B1 : Below w.heap.size w w1 := H0.out.2.trans ((hM.below).mono H0.out.2.size)
 have o1_0 : Hid (w.heap.size ≤ J 0) := Nat.le_trans H0.out.2.size (hM.fin (Nat.le_refl _) hl (i := 0) rfl).2.1
 have o1_1 : Hid (w.heap.size ≤ J 1) := Nat.le_trans H0.out.2.size (hM.fin (Nat.le_refl _) hl (i := 1) rfl).2.1
 have o1_2 : Hid (w.heap.size ≤ J 2) := Nat.le_trans H0.out.2.size (hM.fin (Nat.le_refl _) hl (i := 2) rfl).2.1
 clear hM hl l
 generalize J 0 = J1_0 at M1 o1_0 ⊢
 generalize J 1 = J1_1 at M1 o1_1 ⊢
 generalize J 2 = J1_2 at M1 o1_2 ⊢
 clear J
 have H1 : Hid (_ ∧ _) := ⟨M1, B1⟩
 clear M1 B1
 refine rN (wp_seq (wp_seq ?_))
 refine zD 3 [.q (PT g 0), .call (.bool true), .q (.bool false)] (sB H1) ?ho2 ?he2
 case ho2 => exact ar (ac (fun w' h => eC call73 (C0.out w' (h.one 3 rfl))) (ag trivial))
 intro J w2 l hM hl
 have M2 : Mm w2 [(J1_0, zB a), (J1_1, zB b), (J1_2, zero6), (g, zR n o s)] := H1.out.1.grow hM (Nat.le_refl _) hl [] rfl (by decide)
 have B2 : Below w.heap.size w w2 := H1.out.2.trans ((hM.below).mono H1.out.2.size)
 clear hM hl l H1
 clear J
 have H2 : Hid (_ ∧ _) := ⟨M2, B2⟩
 clear M2 B2
 refine rN (wp_cond_false rfl ?_)
 refine wp_skip (zA (wp_seq ?_))
 refine zQ 10 [.q (PT g 0), .q (N b), .q (PT g 0), .q (N a), .q (PT g 0), .q (PT g 0), .q (PT g 13), .q (N s), .call (N p), .call (N r)] (sB H2) ?ho3 ?he3
 case ho3 => exact ar (bN 1 (ar (bN 0 (ar (ag (ag (bN 3 (ac (fun w' h => eC call80 (C1.out w' (h.one 3 rfl))) (ac (fun w' h => eC call80 (C2.out w' (h.one 3 rfl))) trivial)))))))))
 intro J w3 l hM hl
 have M3 : Mm w3 [(J1_0, zB a), (J1_1, zB b), (J1_2, zero6), (g, zR n o s)] := H2.out.1.grow hM (Nat.le_refl _) hl [] rfl (by decide)
 have B3 : Below w.heap.size w w3 := H2.out.2.trans ((hM.below).mono H2.out.2.size)
 clear hM hl l H2
 clear J
 have H3 : Hid (_ ∧ _) := ⟨M3, B3⟩
 clear M3 B3
 refine zG (l := [10]) rfl ?_
 refine sG rfl (fun h => zM h 2 rfl rfl rfl rfl (Nat.le_of_ble_eq_true rfl)) 2 [_, _, (_, zB r), _] H3 o1_2 fun w4 H4 => ?_
 clear H3
 refine zE (zA (wp_ret ?_))
 repeat (first | refine zK ?_ | refine zI ?_)
 have c0 := H4.out.1.get 2 rfl 0 rfl
 have c1 := H4.out.1.get 2 rfl 1 rfl
 have c2 := H4.out.1.get 2 rfl 2 rfl
 have c3 := H4.out.1.get 2 rfl 3 rfl
 have c4 := H4.out.1.get 2 rfl 4 rfl
 have c5 := H4.out.1.get 2 rfl 5 rfl
 refine bodyPost_ret (v := N r) (by simp [results, Tryz.results54, go_sem, *]) rfl ?_
 exact ⟨rfl, H4.out.2⟩
theorem mont_one {n : Nat} (ok : Ok n) (x : Nat) : mont n x (big % n) = x % n := by
 refine Cg.eq_mod (n := n) ((mont_cg n _ _).trans ?_) (mont_lt _ _ _ ok.pos)
 have h1 := ((Cg.mod n big).mulL x).mulR (ri n)
 refine h1.trans ?_
 have h2 := (ri_big n ok.odd).mulL x
 rw [Nat.mul_one, ← Nat.mul_assoc] at h2
 exact h2
theorem mont_big {n : Nat} (ok : Ok n) (x y : Nat) : mont n x (y * big % n) = x * y % n := by
 refine Cg.eq_mod (n := n) ((mont_cg n _ _).trans ?_) (mont_lt _ _ _ ok.pos)
 have h1 := ((Cg.mod n (y * big)).mulL x).mulR (ri n)
 refine h1.trans ?_
 have h2 := (ri_big n ok.odd).mulL (x * y)
 rw [Nat.mul_one] at h2
 have e : x * (y * big) * ri n = x * y * (big * ri n) := by simp only [Nat.mul_assoc]
 rw [e]
 exact h2
/-- What is left of a difference. -/
def subm (n a b : Nat) : Nat := (a + (n - b % n)) % n
theorem subm_ge {n a b : Nat} (hn : 0 < n) (h : b ≤ a) : (a - b) % n = subm n a b := by
 unfold subm
 have h1 := Nat.div_add_mod b n
 have h2 := Nat.mod_lt b hn
 have e : a + (n - b % n) = (a - b) + n * (b / n + 1) := by rw [Nat.mul_add]; omega
 rw [e, Nat.add_mul_mod_self_left]
theorem subm_lt {n a b : Nat} (hn : 0 < n) (h : a < b) (h2 : b ≤ a + n) : a + n - b = subm n a b := by
 unfold subm
 have h1 := Nat.div_add_mod b n
 have h3 := Nat.mod_lt b hn
 have e : a + (n - b % n) = (a + n - b) + n * (b / n) := by omega
 rw [e, Nat.add_mul_mod_self_left, Nat.mod_eq_of_lt (by omega)]
theorem subm_lt_n {n : Nat} (hn : 0 < n) (a b : Nat) : subm n a b < n := Nat.mod_lt _ hn
theorem cmp_ge {a n : Nat} (h : ¬ a < n) : ¬ cmpv a n < 0 := by unfold cmpv; rw [if_neg h]; split <;> omega
theorem cmp_lt {a n : Nat} (h : a < n) : cmpv a n = -1 := by unfold cmpv; rw [if_neg (by omega), if_pos h]
theorem madeC {g n : Nat} (ok : Ok n) (w : World) (hm : Mm w [(g, modc n)]) : Calls Tryz.prog 73 #[PT g 0] w (Rt w (.bool true)) := made_any g n _ _ ok w hm
theorem n_any {g n : Nat} (ok : Ok n) (w : World) (hm : Mm w [(g, modc n)]) : Calls Tryz.prog 83 #[PT g 0] w (Rt w (N n)) := n_gen g n _ _ (fun w hm => madeC ok w hm) w hm
theorem reduce_any {g n : Nat} (ok : Ok n) {a : Nat} (ha : a < big) (w : World) (hm : Mm w [(g, modc n)]) : Calls Tryz.prog 74 #[PT g 0, N a] w (Rt w (N (a % n))) := by
 have hn := ok.big
 by_cases h : a < n
 ·have c := fun w => compare_any a n ha hn w
  rw [cmp_lt h] at c
  rw [Nat.mod_eq_of_lt h]
  exact reduce_1 g n _ _ a (fun w hm => madeC ok w hm) c w hm
 ·have c := fun w => compare_any a n ha hn w
  have cs := fun w => sub_any a n ha hn w
  rw [decide_eq_false h, show a + big - n = a - n + big by omega, Nat.add_mod_right, Nat.mod_eq_of_lt (show a - n < big by omega)] at cs
  have e : a % n = (a - n) % n := Nat.mod_eq_sub_mod (by omega)
  have c2 := fun w => compare_any (a - n) n (by omega) hn w
  by_cases h2 : a - n < n
  ·rw [cmp_lt h2] at c2
   rw [e, Nat.mod_eq_of_lt h2]
   exact reduce_2 g n _ _ a _ _ (cmp_ge h) (fun w hm => madeC ok w hm) c cs c2 w hm
  ·have cp := fun w hm => product_any g n (big % n) (big * big % n) (a - n) (big % n) ok (by omega) (Nat.mod_lt _ ok.pos) w hm
   rw [mont_one ok] at cp
   rw [e]
   exact reduce_3 g n _ _ a _ _ _ _ (cmp_ge h) (cmp_ge h2) (fun w hm => madeC ok w hm) c cs c2 cp w hm
theorem addm_any {g n : Nat} (ok : Ok n) {a b : Nat} (ha : a < big) (hb : b < big) (w : World) (hm : Mm w [(g, modc n)]) : Calls Tryz.prog 102 #[PT g 0, N a, N b] w (Rt w (N ((a + b) % n))) := by
 have c := fun w => add_any a b ha hb w
 by_cases h : big ≤ a + b
 ·rw [decide_eq_true h] at c
  have h1 := Nat.mod_lt a ok.pos
  have h2 := Nat.mod_lt b ok.pos
  have h3 := ok.top
  have c2 := fun w => add_any (a % n) (b % n) (okLt ok a) (okLt ok b) w
  rw [decide_eq_false (by omega), Nat.mod_eq_of_lt (show a % n + b % n < big by omega)] at c2
  have c3 := fun w hm => reduce_any (g := g) ok (show a % n + b % n < big by omega) w hm
  rw [← Nat.add_mod] at c3
  exact add_2 g n _ _ a b _ _ _ _ _ (fun w hm => madeC ok w hm) c (fun w hm => reduce_any ok ha w hm) (fun w hm => reduce_any ok hb w hm) c2 c3 w hm
 ·rw [decide_eq_false h, Nat.mod_eq_of_lt (show a + b < big by omega)] at c
  exact add_1 g n _ _ a b _ _ (fun w hm => madeC ok w hm) c (fun w hm => reduce_any ok (by omega) w hm) w hm
theorem mulm_any {g n : Nat} (ok : Ok n) {a b : Nat} (ha : a < big) (hb : b < big) (w : World) (hm : Mm w [(g, modc n)]) : Calls Tryz.prog 54 #[PT g 0, N a, N b] w (Rt w (N (a * b % n))) := by
 have cp := fun w hm => product_any g n (big % n) (big * big % n) a (big * big % n) ok ha (Nat.mod_lt _ ok.pos) w hm
 rw [mont_big ok] at cp
 have c := fun w hm => product_any g n (big % n) (big * big % n) b (a * big % n) ok hb (Nat.mod_lt _ ok.pos) w hm
 rw [mont_big ok, Nat.mul_comm b a] at c
 exact mul_gen g n _ _ a b _ _ (fun w hm => madeC ok w hm) cp c w hm
theorem subm_any {g n : Nat} (ok : Ok n) {a b : Nat} (ha : a < big) (hb : b < big) (w : World) (hm : Mm w [(g, modc n)]) : Calls Tryz.prog 93 #[PT g 0, N a, N b] w (Rt w (N (subm n a b))) := by
 have c := fun w => sub_any a b ha hb w
 have hn := ok.big
 have h3 := ok.top
 by_cases h : a < b
 ·rw [decide_eq_true h, Nat.mod_eq_of_lt (show a + big - b < big by omega)] at c
  have c2 := fun w => add_any (a + big - b) n (by omega) hn w
  by_cases h2 : b ≤ a + n
  ·rw [decide_eq_true (show big ≤ a + big - b + n by omega), show a + big - b + n = (a + n - b) + big by omega, Nat.add_mod_right, Nat.mod_eq_of_lt (show a + n - b < big by omega), subm_lt ok.pos h h2] at c2
   exact sub_2 g n _ _ a b _ _ (fun w hm => madeC ok w hm) c c2 w hm
  ·rw [decide_eq_false (show ¬ big ≤ a + big - b + n by omega)] at c2
   have h1 := Nat.mod_lt b ok.pos
   have c3 := fun w => sub_any n (b % n) hn (okLt ok b) w
   rw [decide_eq_false (by omega), show n + big - b % n = n - b % n + big by omega, Nat.add_mod_right, Nat.mod_eq_of_lt (show n - b % n < big by omega)] at c3
   exact sub_3 g n _ _ a b _ _ _ _ _ (fun w hm => madeC ok w hm) c c2 (fun w hm => reduce_any ok hb w hm) c3 (fun w hm => addm_any ok ha (by omega) w hm) w hm
 ·rw [decide_eq_false h, show a + big - b = a - b + big by omega, Nat.add_mod_right, Nat.mod_eq_of_lt (show a - b < big by omega)] at c
  have c2 := fun w hm => reduce_any (g := g) ok (show a - b < big by omega) w hm
  rw [subm_ge ok.pos (by omega)] at c2
  exact sub_1 g n _ _ a b _ _ (fun w hm => madeC ok w hm) c c2 w hm
theorem negm_any {g n : Nat} (ok : Ok n) {a : Nat} (ha : a < big) (w : World) (hm : Mm w [(g, modc n)]) : Calls Tryz.prog 77 #[PT g 0, N a] w (Rt w (N (subm n 0 a))) :=
 neg_gen g n _ _ a _ (fun w hm => subm_any ok big_pos ha w hm) w hm
theorem call66 : CO 66 := by intro args w; go_simp
theorem call67 : CO 67 := by intro args w; go_simp
abbrev modv (n o s : Nat) : Value := .agg (zR n o s).toArray
theorem ex_build39 {ρ : Operand → Value} {o : Oper} {x y : Operand} {n : Nat} {w : World} (ho : o.op = .build 70 #[(0, x), (1, y)]) (hx : ρ x = N n) (hy : ρ y = .int .u64 (wrapZ (wd n 0))) : (execOp ρ o).run Tryz.prog w = .ok (.value (modv n 0 0)) w := by
 simp only [execOp, ho]
 go_simp
 simp [wd_zero]
theorem ex_box39 {ρ : Operand → Value} {o : Oper} {x : Operand} {n : Nat} {w : World} (ho : o.op = .box 70 x) (hx : ρ x = modv n 0 0) :
  (execOp ρ o).run Tryz.prog w = .ok (.value (.pointer (some ⟨w.heap.size, 0, none⟩))) (w.alloc (.cells (zR n 0 0).toArray 70)) := by
 simp only [execOp, ho, hx]
 go_simp
theorem word_mod (n : Nat) : (wd n 0).tmod 2 = ((n % 2 : Nat) : Int) := by
 have h0 : wd n 0 = ((n % 18446744073709551616 : Nat) : Int) := by unfold wd; rw [Nat.mul_zero, Nat.pow_zero, Nat.div_one]
 rw [h0]
 rw [Int.tmod_eq_emod_of_nonneg (by omega)]; omega
theorem len_ok {n : Nat} (ok : Ok n) : ¬ (382 : Int) < (bl n : Nat) := by
 have h := ok.top
 obtain ⟨m, hm, e⟩ := big_pow
 have h5 : big = 4 * 2 ^ (64 * m - 2) := by
  rw [e]
  have : 64 * m = 2 + (64 * m - 2) := by omega
  rw [this, Nat.pow_add, show 2 + (64 * m - 2) - 2 = 64 * m - 2 by omega]
 have := bl_le_of n (64 * m - 2) (by omega)
 omega
end Rg
end Go.Proofs.YtacicklddhehaaaGreatDoor
end
section
namespace Go.Proofs.YtacicklddhehaaaGreatDoor
open Go.RowKit
/-- Bit i of a number. -/
def bitv (a i : Nat) : Int := ((a / 2 ^ i % 2 : Nat) : Int)
theorem bitv_bits (a i : Nat) : ((a >>> (64 * (i / 64)) % 2 ^ 64) >>> (i % 64)) &&& 1 = a / 2 ^ i % 2 := by
 rw [show (1 : Nat) = 2 ^ 1 - 1 from rfl, Nat.and_two_pow_sub_one_eq_mod, ← Nat.shiftRight_eq_div_pow, show a >>> i % 2 = a >>> i % 2 ^ 1 from rfl]
 apply Nat.eq_of_testBit_eq
 intro m
 simp only [Nat.testBit_mod_two_pow, Nat.testBit_shiftRight]
 by_cases hm : m < 1
 ·have e1 : i % 64 + m < 64 := by omega
  have e2 : 64 * (i / 64) + (i % 64 + m) = i + m := by omega
  simp [hm, e1, e2]
 ·simp [hm]
theorem bitv_word (a i : Nat) : bits .and .u64 (wd a (i / 64) / 2 ^ (i % 64)) 1 = bitv a i := by
 unfold bitv
 rw [wd_shr, div_shr, ← bitv_bits]
 exact bits_and_u64_nat _ 1 (by rw [Nat.shiftRight_eq_div_pow (n := i % 64)]; exact Nat.lt_of_le_of_lt (Nat.div_le_self _ _) (Nat.mod_lt _ (by decide))) (by decide)
theorem bitv_bd (a i : Nat) : 0 ≤ bitv a i ∧ bitv a i < 2 := by unfold bitv; omega
set_option maxHeartbeats 400000 in
theorem bit_in (a i : Nat) (hi : i < 384) (w : World) :
  Calls Tryz.prog 84 #[N a, .int .i64 i] w (Rt w (.int .i64 (bitv a i))) := by
 have d0 : decide ((i : Int) < 0) = false := decide_eq_false (by omega)
 have d1 : decide ((384 : Int) ≤ i) = false := decide_eq_false (by omega)
 have hA : Row (w.alloc (.cells #[.int .u64 (wd a 0), .int .u64 (wd a 1), .int .u64 (wd a 2), .int .u64 (wd a 3), .int .u64 (wd a 4), .int .u64 (wd a 5)] 24)) w.heap.size 6 (wd a) := Row.new w _ 24 rfl (six_lt rfl)
 have hA1 := (hA (i / 64) (by omega)).1
 clear hA
 go_enter Tryz.func84, Tryz.ntmps84
 go_wp2
 rw [bitv_word, show wrap64 (bitv a i) = bitv a i by have := bitv_bd a i; unfold wrap64; omega]
 go_ret
 exact ⟨rfl, (Below.refl _ _).alloc (Nat.le_refl _) _⟩
end Go.Proofs.YtacicklddhehaaaGreatDoor
end
section
namespace Go.Proofs.YtacicklddhehaaaGreatDoor
open Go.RowKit
namespace Rg
theorem call84 : CO 84 := by intro args w; go_simp
theorem Mm.at1 {w : World} {p : Nat × List Value} {g : Nat} {cs cs' : List Value} {l : List (Nat × List Value)} (h : Mm w (p :: (g, cs) :: l)) (e : cs = cs') : Mm w (p :: (g, cs') :: l) := e ▸ h
set_option maxHeartbeats 1000000 in
theorem pow_gen (g n o s a e b r l : Nat) (hl : l ≤ 384) (f q : Nat → Nat) (bv : Nat → Int) (fl : f l = o) (hbv : ∀ k, bv k = 1 ∨ bv k = 0) (fq : ∀ k, bv k = 0 → q k = f k)
  (cm : ∀ w, Mm w [(g, zR n o s)] → Calls Tryz.prog 73 #[PT g 0] w (Rt w (.bool true)))
  (cb : ∀ w, Mm w [(g, zR n o s)] → Calls Tryz.prog 80 #[PT g 0, N a, N s] w (Rt w (N b)))
  (cl : ∀ w, Calls Tryz.prog 66 #[N e] w (Rt w (.int .i64 ((l : Nat) : Int))))
  (cs : ∀ k w, Mm w [(g, zR n o s)] → Calls Tryz.prog 80 #[PT g 0, N (f (k + 1)), N (f (k + 1))] w (Rt w (N (q k))))
  (ci : ∀ k w, k + 1 ≤ 384 → Calls Tryz.prog 84 #[N e, .int .i64 (((k + 1 : Nat) : Int) - 1)] w (Rt w (.int .i64 (bv k))))
  (cu : ∀ k, bv k = 1 → ∀ w, Mm w [(g, zR n o s)] → Calls Tryz.prog 80 #[PT g 0, N (q k), N b] w (Rt w (N (f k))))
  (co : ∀ w, Calls Tryz.prog 65 #[.int .u64 1] w (Rt w (N 1)))
  (cr : ∀ w, Mm w [(g, zR n o s)] → Calls Tryz.prog 80 #[PT g 0, N (f 0), N 1] w (Rt w (N r))) (w : World) (hm : Mm w [(g, zR n o s)]) :
  Calls Tryz.prog 81 #[PT g 0, N a, N e] w (Rt w (N r)) := by
 have H0 : Hid (_ ∧ _) := ⟨hm, Below.refl w.heap.size w⟩
 clear hm
 have CK : Hid _ := cm
 have CB : Hid _ := cb
 have CL : Hid _ := cl
 have CS : Hid _ := cs
 have CI : Hid _ := ci
 have CM : Hid _ := cu
 have CO : Hid _ := co
 have CR : Hid _ := cr
 have FL : Hid _ := fl
 have HB : Hid _ := hbv
 have FQ : Hid _ := fq
 clear cm cb cl cs ci cu co cr fl hbv fq
 go_enter Tryz.func81, Tryz.ntmps81
 refine wp_seq ?_
 refine zD 3 [.made (zB a) 24, .made (zB e) 24, .made zero6 24] (sB H0) ?ho1 ?he1
 case ho1 => exact am (zU rfl rfl) (am (zU rfl rfl) (am (zF rfl) trivial))
 intro J w1 l hM hl
 have M1 : Mm w1 [(J 0, zB a), (J 1, zB e), (J 2, zero6), (g, zR n o s)] := H0.out.1.grow hM (Nat.le_refl _) hl [0, 1, 2] rfl (by decide)
 have B1 : Below w.heap.size w w1 := H0.out.2.trans ((hM.below).mono H0.out.2.size)
 have o1_0 : Hid (w.heap.size ≤ J 0) := Nat.le_trans H0.out.2.size (hM.fin (Nat.le_refl _) hl (i := 0) rfl).2.1
 have o1_1 : Hid (w.heap.size ≤ J 1) := Nat.le_trans H0.out.2.size (hM.fin (Nat.le_refl _) hl (i := 1) rfl).2.1
 have o1_2 : Hid (w.heap.size ≤ J 2) := Nat.le_trans H0.out.2.size (hM.fin (Nat.le_refl _) hl (i := 2) rfl).2.1
 clear hM hl l
 generalize J 0 = J1_0 at M1 o1_0 ⊢
 generalize J 1 = J1_1 at M1 o1_1 ⊢
 generalize J 2 = J1_2 at M1 o1_2 ⊢
 clear J
 have H1 : Hid (_ ∧ _) := ⟨M1, B1⟩
 clear M1 B1
 refine rN (wp_seq (wp_seq ?_))
 refine zD 3 [.q (PT g 0), .call (.bool true), .q (.bool false)] (sB H1) ?ho2 ?he2
 case ho2 => exact ar (ac (fun w' h => eC call73 (CK.out w' (h.one 3 rfl))) (ag trivial))
 intro J w2 l hM hl
 have M2 : Mm w2 [(J1_0, zB a), (J1_1, zB e), (J1_2, zero6), (g, zR n o s)] := H1.out.1.grow hM (Nat.le_refl _) hl [] rfl (by decide)
 have B2 : Below w.heap.size w w2 := H1.out.2.trans ((hM.below).mono H1.out.2.size)
 clear hM hl l H1
 clear J
 have H2 : Hid (_ ∧ _) := ⟨M2, B2⟩
 clear M2 B2
 refine rN (wp_cond_false rfl ?_)
 refine wp_skip (zA (wp_seq ?_))
 refine zQ 15 [.q (PT g 0), .q (N a), .q (PT g 0), .q (PT g 0), .q (PT g 13), .q (N s), .call (N b), .q (PT g 0), .q (PT g 0), .q (PT g 7), .q (N o), .made zero6 24, .made zero6 24, .laid 11 zero6 (zB b), .laid 12 zero6 (zB o)] (sB H2) ?ho3 ?he3 (hL := ?hL3)
 case hL3 => exact ⟨⟨_, rfl⟩, ⟨_, rfl⟩, trivial⟩
 case ho3 => exact ar (bN 0 (ar (ag (ag (bN 3 (ac (fun w' h => eC call80 (CB.out w' (h.one 3 rfl))) (ar (ag (ag (bN 3 (am (zF rfl) (am (zF rfl) (ak (fun J => ⟨rfl, rfl, rfl, fun w' h => zJ h rfl rfl rfl⟩) (ak (fun J => ⟨rfl, rfl, rfl, fun w' h => zJ h rfl rfl rfl⟩) trivial))))))))))))))
 intro J w3 l hM hl
 have M3 : Mm w3 [(J 11, zB b), (J 12, zB o), (J1_0, zB a), (J1_1, zB e), (J1_2, zero6), (g, zR n o s)] := H2.out.1.grow hM (Nat.le_refl _) hl [11, 12] rfl (by decide)
 have B3 : Below w.heap.size w w3 := H2.out.2.trans ((hM.below).mono H2.out.2.size)
 have o3_11 : Hid (w.heap.size ≤ J 11) := Nat.le_trans H2.out.2.size (hM.fin (Nat.le_refl _) hl (i := 11) rfl).2.1
 have o3_12 : Hid (w.heap.size ≤ J 12) := Nat.le_trans H2.out.2.size (hM.fin (Nat.le_refl _) hl (i := 12) rfl).2.1
 clear hM hl l H2
 generalize J 11 = J3_11 at M3 o3_11 ⊢
 generalize J 12 = J3_12 at M3 o3_12 ⊢
 clear J
 have H3 : Hid (_ ∧ _) := ⟨M3, B3⟩
 clear M3 B3
 refine rN (wp_seq (wp_seq ?_))
 refine zD 4 [.q (N e), .call (.int .i64 ((l : Nat) : Int)), .q (.int .i64 (((l : Nat) : Int) - 1)), .q (.int .i64 (((l : Nat) : Int) - 1))] (sB H3) ?ho4 ?he4
 case ho4 => exact bN 3 (ac (fun w' h => eC call66 (CL.out w')) (ak (by refine fun J => ⟨rfl, fun w' h => ?_⟩; clear h; go_simp; rw [IntKind.wrap_i64]; omega) (ar trivial)))
 intro J w4 l hM hl
 have M4 : Mm w4 [(J3_11, zB b), (J3_12, zB o), (J1_0, zB a), (J1_1, zB e), (J1_2, zero6), (g, zR n o s)] := H3.out.1.grow hM (Nat.le_refl _) hl [] rfl (by decide)
 have B4 : Below w.heap.size w w4 := H3.out.2.trans ((hM.below).mono H3.out.2.size)
 clear hM hl l H3
 clear J
 have H4 : Hid (_ ∧ _) := ⟨M4, B4⟩
 clear M4 B4
 refine rN (wp_block ?_)
 refine loop_ghost (α := Nat) (fun k a' w' => ∃ s0 : Nat → Value, a' = ⟨#[PT g 0, N a, N e, ud, PT J1_0 0, PT J1_1 0, PT J1_2 0, PT J3_11 0, PT J3_12 0, .int .i64 (((k : Nat) : Int) - 1), PT g 0, .bool true, .bool false, ud, PT g 0, N a, PT g 0, PT g 0, PT g 13, N s, N b, PT g 0, PT g 0, PT g 7, N o, N e, .int .i64 ((l : Nat) : Int), .int .i64 (((l : Nat) : Int) - 1), s0 28, s0 29, s0 30, s0 31, s0 32, s0 33, s0 34, s0 35, s0 36, s0 37, s0 38, s0 39, s0 40, s0 41, s0 42, s0 43, ud, ud, ud, ud], []⟩ ∧ (Mm w' [(J3_11, zB b), (J3_12, zB (f k)), (J1_0, zB a), (J1_1, zB e), (J1_2, zero6), (g, zR n o s)] ∧ Below w.heap.size w w') ∧ k ≤ l) (fun k => k) l ?st0 ?rd0
 case st0 => exact ⟨(yA [ud, ud, ud, ud, ud, ud, ud, ud, ud, ud, ud, ud, ud, ud, ud, ud, ud, ud, ud, ud, ud, ud, ud, ud, ud, ud, ud, ud, ud, ud, ud, ud, ud, ud, ud, ud, ud, ud, ud, ud, ud, ud, ud, ud]), rfl, ⟨H4.out.1.at1 (by rw [FL.out]), H4.out.2⟩, by omega⟩
 intro k a' w5 hI
 obtain ⟨s0, rfl, hMB, hk0⟩ := hI
 have H5 : Hid (_ ∧ _) := hMB
 clear hMB H4
 by_cases hlt : 1 ≤ k
 ·have hrd : True := trivial
  clear hrd
  obtain ⟨j, rfl⟩ : ∃ j, k = j + 1 := ⟨k - 1, by omega⟩
  by_cases hb : bv j = 1
  ·have hrd : True := trivial
   clear hrd
   have hb' : bv j = 1 := hb
   refine wp_seq (wp_seq ?_)
   refine zD 2 [.q (.int .i64 (((j + 1 : Nat) : Int) - 1)), .q (.bool true)] (sB H5) ?ho5 ?he5
   case ho5 => exact ar (ak (by refine fun J => ⟨rfl, fun w' h => ?_⟩; clear h; go_simp <;> omega) trivial)
   intro J w6 l hM hl
   have M6 : Mm w6 [(J3_11, zB b), (J3_12, zB (f (j + 1))), (J1_0, zB a), (J1_1, zB e), (J1_2, zero6), (g, zR n o s)] := H5.out.1.grow hM (Nat.le_refl _) hl [] rfl (by decide)
   have B6 : Below w.heap.size w w6 := H5.out.2.trans ((hM.below).mono H5.out.2.size)
   clear hM hl l H5
   clear J
   have H6 : Hid (_ ∧ _) := ⟨M6, B6⟩
   clear M6 B6
   refine rN (wp_cond_true rfl ?_)
   refine wp_skip (zA ?_)
   refine wp_seq (wp_block (wp_seq ?_))
   refine zD 4 [.q (PT g 0), .q (N (f (j + 1))), .q (N (f (j + 1))), .call (N (q j))] (sB H6) ?ho6 ?he6
   case ho6 => exact ar (bN 1 (bN 1 (ac (fun w' h => eC call80 (CS.out j w' (h.one 5 rfl))) trivial)))
   intro J w7 l hM hl
   have M7 : Mm w7 [(J3_11, zB b), (J3_12, zB (f (j + 1))), (J1_0, zB a), (J1_1, zB e), (J1_2, zero6), (g, zR n o s)] := H6.out.1.grow hM (Nat.le_refl _) hl [] rfl (by decide)
   have B7 : Below w.heap.size w w7 := H6.out.2.trans ((hM.below).mono H6.out.2.size)
   clear hM hl l H6
   clear J
   have H7 : Hid (_ ∧ _) := ⟨M7, B7⟩
   clear M7 B7
   refine zG (l := [4]) rfl ?_
   refine sG rfl (fun h => zM h 1 rfl rfl rfl rfl (Nat.le_of_ble_eq_true rfl)) 1 [_, (_, zB (q j)), _, _, _, _] H7 o3_12 fun w8 H8 => ?_
   clear H7
   refine zE (zA (wp_seq ?_))
   refine zD 4 [.q (N e), .q (.int .i64 (((j + 1 : Nat) : Int) - 1)), .call (.int .i64 (bv j)), .q (.bool true)] (sB H8) ?ho7 ?he7
   case ho7 => exact bN 3 (ar (ac (fun w' h => eC call84 (CI.out j w' (by omega))) (ak (by refine fun J => ⟨rfl, fun w' h => ?_⟩; clear h; go_simp <;> omega) trivial)))
   intro J w9 l hM hl
   have M9 : Mm w9 [(J3_11, zB b), (J3_12, zB (q j)), (J1_0, zB a), (J1_1, zB e), (J1_2, zero6), (g, zR n o s)] := H8.out.1.grow hM (Nat.le_refl _) hl [] rfl (by decide)
   have B9 : Below w.heap.size w w9 := H8.out.2.trans ((hM.below).mono H8.out.2.size)
   clear hM hl l H8
   clear J
   have H9 : Hid (_ ∧ _) := ⟨M9, B9⟩
   clear M9 B9
   refine rN (wp_cond_true rfl ?_)
   refine zD 4 [.q (PT g 0), .q (N (q j)), .q (N b), .call (N (f j))] (sB H9) ?ho8 ?he8
   case ho8 => exact ar (bN 1 (bN 0 (ac (fun w' h => eC call80 (CM.out j hb' w' (h.one 5 rfl))) trivial)))
   intro J w10 l hM hl
   have M10 : Mm w10 [(J3_11, zB b), (J3_12, zB (q j)), (J1_0, zB a), (J1_1, zB e), (J1_2, zero6), (g, zR n o s)] := H9.out.1.grow hM (Nat.le_refl _) hl [] rfl (by decide)
   have B10 : Below w.heap.size w w10 := H9.out.2.trans ((hM.below).mono H9.out.2.size)
   clear hM hl l H9
   clear J
   have H10 : Hid (_ ∧ _) := ⟨M10, B10⟩
   clear M10 B10
   refine zG (l := [4]) rfl ?_
   refine sG rfl (fun h => zM h 1 rfl rfl rfl rfl (Nat.le_of_ble_eq_true rfl)) 1 [_, (_, zB (f j)), _, _, _, _] H10 o3_12 fun w11 H11 => ?_
   clear H10
   refine zE (zT (zA ?_))
   refine zD 2 [.q (.int .i64 (((j + 1 : Nat) : Int) - 1)), .q (.int .i64 (((j : Nat) : Int) - 1))] (sB H11) ?ho9 ?he9
   case ho9 => exact ar (ak (by refine fun J => ⟨rfl, fun w' h => ?_⟩; clear h; go_simp; rw [IntKind.wrap_i64]; omega) trivial)
   intro J w12 l hM hl
   have M12 : Mm w12 [(J3_11, zB b), (J3_12, zB (f j)), (J1_0, zB a), (J1_1, zB e), (J1_2, zero6), (g, zR n o s)] := H11.out.1.grow hM (Nat.le_refl _) hl [] rfl (by decide)
   have B12 : Below w.heap.size w w12 := H11.out.2.trans ((hM.below).mono H11.out.2.size)
   clear hM hl l H11
   clear J
   have H12 : Hid (_ ∧ _) := ⟨M12, B12⟩
   clear M12 B12
   refine zG (l := [2]) rfl ?_
   refine zN (d := 9) rfl rfl rfl rfl ?_
   simp only [Act.put, sa, sz, ss]
   refine zE (zA ?_)
   exact ⟨j, ⟨(yA [ud, ud, ud, ud, ud, ud, ud, ud, ud, ud, ud, ud, ud, ud, ud, ud, ud, ud, ud, ud, ud, ud, ud, ud, ud, ud, ud, ud, .int .i64 (((j + 1 : Nat) : Int) - 1), .bool true, .int .i64 (((j + 1 : Nat) : Int) - 1), .int .i64 (((j : Nat) : Int) - 1), PT g 0, N (f (j + 1)), N (f (j + 1)), N (q j), N e, .int .i64 (((j + 1 : Nat) : Int) - 1), .int .i64 (bv j), .bool true, PT g 0, N (q j), N b, N (f j)]), rfl, ⟨H12.out.1, H12.out.2⟩, by omega⟩, by omega⟩
  ·have hrd : True := trivial
   clear hrd
   have hb' : bv j = 0 := (HB.out j).resolve_left hb
   have HQ : Hid _ := FQ.out j hb'
   refine wp_seq (wp_seq ?_)
   refine zD 2 [.q (.int .i64 (((j + 1 : Nat) : Int) - 1)), .q (.bool true)] (sB H5) ?ho10 ?he10
   case ho10 => exact ar (ak (by refine fun J => ⟨rfl, fun w' h => ?_⟩; clear h; go_simp <;> omega) trivial)
   intro J w13 l hM hl
   have M13 : Mm w13 [(J3_11, zB b), (J3_12, zB (f (j + 1))), (J1_0, zB a), (J1_1, zB e), (J1_2, zero6), (g, zR n o s)] := H5.out.1.grow hM (Nat.le_refl _) hl [] rfl (by decide)
   have B13 : Below w.heap.size w w13 := H5.out.2.trans ((hM.below).mono H5.out.2.size)
   clear hM hl l H5
   clear J
   have H13 : Hid (_ ∧ _) := ⟨M13, B13⟩
   clear M13 B13
   refine rN (wp_cond_true rfl ?_)
   refine wp_skip (zA ?_)
   refine wp_seq (wp_block (wp_seq ?_))
   refine zD 4 [.q (PT g 0), .q (N (f (j + 1))), .q (N (f (j + 1))), .call (N (q j))] (sB H13) ?ho11 ?he11
   case ho11 => exact ar (bN 1 (bN 1 (ac (fun w' h => eC call80 (CS.out j w' (h.one 5 rfl))) trivial)))
   intro J w14 l hM hl
   have M14 : Mm w14 [(J3_11, zB b), (J3_12, zB (f (j + 1))), (J1_0, zB a), (J1_1, zB e), (J1_2, zero6), (g, zR n o s)] := H13.out.1.grow hM (Nat.le_refl _) hl [] rfl (by decide)
   have B14 : Below w.heap.size w w14 := H13.out.2.trans ((hM.below).mono H13.out.2.size)
   clear hM hl l H13
   clear J
   have H14 : Hid (_ ∧ _) := ⟨M14, B14⟩
   clear M14 B14
   refine zG (l := [4]) rfl ?_
   refine sG rfl (fun h => zM h 1 rfl rfl rfl rfl (Nat.le_of_ble_eq_true rfl)) 1 [_, (_, zB (q j)), _, _, _, _] H14 o3_12 fun w15 H15 => ?_
   clear H14
   refine zE (zA (wp_seq ?_))
   refine zD 4 [.q (N e), .q (.int .i64 (((j + 1 : Nat) : Int) - 1)), .call (.int .i64 (bv j)), .q (.bool false)] (sB H15) ?ho12 ?he12
   case ho12 => exact bN 3 (ar (ac (fun w' h => eC call84 (CI.out j w' (by omega))) (ak (by refine fun J => ⟨rfl, fun w' h => ?_⟩; clear h; go_simp <;> omega) trivial)))
   intro J w16 l hM hl
   have M16 : Mm w16 [(J3_11, zB b), (J3_12, zB (q j)), (J1_0, zB a), (J1_1, zB e), (J1_2, zero6), (g, zR n o s)] := H15.out.1.grow hM (Nat.le_refl _) hl [] rfl (by decide)
   have B16 : Below w.heap.size w w16 := H15.out.2.trans ((hM.below).mono H15.out.2.size)
   clear hM hl l H15
   clear J
   have H16 : Hid (_ ∧ _) := ⟨M16, B16⟩
   clear M16 B16
   refine rN (wp_cond_false rfl ?_)
   refine wp_skip (zT (zA ?_))
   refine zD 2 [.q (.int .i64 (((j + 1 : Nat) : Int) - 1)), .q (.int .i64 (((j : Nat) : Int) - 1))] (sB H16) ?ho13 ?he13
   case ho13 => exact ar (ak (by refine fun J => ⟨rfl, fun w' h => ?_⟩; clear h; go_simp; rw [IntKind.wrap_i64]; omega) trivial)
   intro J w17 l hM hl
   have M17 : Mm w17 [(J3_11, zB b), (J3_12, zB (q j)), (J1_0, zB a), (J1_1, zB e), (J1_2, zero6), (g, zR n o s)] := H16.out.1.grow hM (Nat.le_refl _) hl [] rfl (by decide)
   have B17 : Below w.heap.size w w17 := H16.out.2.trans ((hM.below).mono H16.out.2.size)
   clear hM hl l H16
   clear J
   have H17 : Hid (_ ∧ _) := ⟨M17, B17⟩
   clear M17 B17
   refine zG (l := [2]) rfl ?_
   refine zN (d := 9) rfl rfl rfl rfl ?_
   simp only [Act.put, sa, sz, ss]
   refine zE (zA ?_)
   exact ⟨j, ⟨(yA [ud, ud, ud, ud, ud, ud, ud, ud, ud, ud, ud, ud, ud, ud, ud, ud, ud, ud, ud, ud, ud, ud, ud, ud, ud, ud, ud, ud, .int .i64 (((j + 1 : Nat) : Int) - 1), .bool true, .int .i64 (((j + 1 : Nat) : Int) - 1), .int .i64 (((j : Nat) : Int) - 1), PT g 0, N (f (j + 1)), N (f (j + 1)), N (q j), N e, .int .i64 (((j + 1 : Nat) : Int) - 1), .int .i64 (bv j), .bool false, s0 40, s0 41, s0 42, s0 43]), rfl, ⟨by rw [← HQ.out]; exact H17.out.1, H17.out.2⟩, by omega⟩, by omega⟩
 have hk0 : k = 0 := by omega
 subst hk0
 refine wp_seq (wp_seq ?_)
 refine zD 2 [.q (.int .i64 (((0 : Nat) : Int) - 1)), .q (.bool false)] (sB H5) ?ho14 ?he14
 case ho14 => exact ar (ak (by refine fun J => ⟨rfl, fun w' h => ?_⟩; clear h; go_simp <;> omega) trivial)
 intro J w18 l hM hl
 have M18 : Mm w18 [(J3_11, zB b), (J3_12, zB (f 0)), (J1_0, zB a), (J1_1, zB e), (J1_2, zero6), (g, zR n o s)] := H5.out.1.grow hM (Nat.le_refl _) hl [] rfl (by decide)
 have B18 : Below w.heap.size w w18 := H5.out.2.trans ((hM.below).mono H5.out.2.size)
 clear hM hl l H5
 clear J
 have H18 : Hid (_ ∧ _) := ⟨M18, B18⟩
 clear M18 B18
 refine rN (wp_cond_false rfl ?_)
 refine wp_exit ?_
 repeat refine then_exit ?_
 refine block_exit ?_
 refine zA (wp_seq ?_)
 refine zQ 4 [.q (PT g 0), .q (N (f 0)), .call (N 1), .call (N r)] (sB H18) ?ho15 ?he15
 case ho15 => exact ar (bN 1 (ac (fun w' h => eC call65 (CO.out w')) (ac (fun w' h => eC call80 (CR.out w' (h.one 5 rfl))) trivial)))
 intro J w19 l hM hl
 have M19 : Mm w19 [(J3_11, zB b), (J3_12, zB (f 0)), (J1_0, zB a), (J1_1, zB e), (J1_2, zero6), (g, zR n o s)] := H18.out.1.grow hM (Nat.le_refl _) hl [] rfl (by decide)
 have B19 : Below w.heap.size w w19 := H18.out.2.trans ((hM.below).mono H18.out.2.size)
 clear hM hl l H18
 clear J
 have H19 : Hid (_ ∧ _) := ⟨M19, B19⟩
 clear M19 B19
 refine zG (l := [4]) rfl ?_
 refine sG rfl (fun h => zM h 4 rfl rfl rfl rfl (Nat.le_of_ble_eq_true rfl)) 4 [_, _, _, _, (_, zB r), _] H19 o1_2 fun w20 H20 => ?_
 clear H19
 refine zE (zA (wp_ret ?_))
 repeat (first | refine zK ?_ | refine zI ?_)
 have c0 := H20.out.1.get 4 rfl 0 rfl
 have c1 := H20.out.1.get 4 rfl 1 rfl
 have c2 := H20.out.1.get 4 rfl 2 rfl
 have c3 := H20.out.1.get 4 rfl 3 rfl
 have c4 := H20.out.1.get 4 rfl 4 rfl
 have c5 := H20.out.1.get 4 rfl 5 rfl
 refine bodyPost_ret (v := N r) (by simp [results, Tryz.results81, go_sem, *]) rfl ?_
 exact ⟨rfl, H20.out.2⟩
theorem mont_bb {n : Nat} (ok : Ok n) (x y : Nat) : mont n (x * big % n) (y * big % n) = x * y * big % n := by
 rw [mont_big ok]
 refine Cg.eq_mod (n := n) ?_ (Nat.mod_lt _ ok.pos)
 refine (Cg.mod _ _).trans (((Cg.mod n (x * big)).mulR y).trans ?_)
 rw [Nat.mul_right_comm]; exact Cg.refl _ _
theorem mont_out {n : Nat} (ok : Ok n) (x : Nat) : mont n (x * big % n) 1 = x % n := by
 have h := mont_big ok 1 x
 rw [Nat.one_mul] at h
 rw [← h]
 unfold mont
 rw [Nat.mul_one, Nat.one_mul]
theorem bit_cases (e k : Nat) : bitv e k = 1 ∨ bitv e k = 0 := by unfold bitv; omega
theorem half_step (e k : Nat) : e / 2 ^ k = 2 * (e / 2 ^ (k + 1)) + e / 2 ^ k % 2 := by
 rw [Nat.pow_succ, ← Nat.div_div_eq_div_mul]; omega
theorem powm_any {g n : Nat} (ok : Ok n) {a e : Nat} (ha : a < big) (he : e < big) (w : World) (hm : Mm w [(g, modc n)]) :
  Calls Tryz.prog 81 #[PT g 0, N a, N e] w fun r w' => r = .returned (N (a ^ e % n)) ∧ Below w.heap.size w w' := by
 have hl : bl e ≤ 384 := by
  obtain ⟨m, hm, h⟩ := big_pow
  rw [h] at he
  have := bl_le_of e _ he
  omega
 have cb := fun w hm => product_any g n (big % n) (big * big % n) a (big * big % n) ok ha (Nat.mod_lt _ ok.pos) w hm
 rw [mont_big ok] at cb
 have cr := fun w hm => product_any g n (big % n) (big * big % n) (a ^ (e / 2 ^ 0) * big % n) 1 ok (okLt ok _) (by have := ok.three; omega) w hm
 rw [mont_out ok, Nat.pow_zero, Nat.div_one] at cr
 refine pow_gen g n (big % n) (big * big % n) a e (a * big % n) (a ^ e % n) (bl e) hl (fun k => a ^ (e / 2 ^ k) * big % n) (fun k => a ^ (2 * (e / 2 ^ (k + 1))) * big % n) (fun k => bitv e k) ?_ (bit_cases e) (fun k hk => ?_) (fun w hm => madeC ok w hm) cb (fun w => len_any e he w) (fun k w hm => ?_) (fun k w hk => ?_) (fun k hk w hm => ?_) (fun w => of_any 1 (by decide) w) (fun w hm => ?_) w hm
 ·simp only [Nat.div_eq_of_lt (bl_lt e), Nat.pow_zero, Nat.one_mul]
 ·have h2 : e / 2 ^ k % 2 = 0 := by unfold bitv at hk; omega
  have h3 := half_step e k
  rw [h2, Nat.add_zero] at h3
  simp only [← h3]
 ·have h := product_any g n (big % n) (big * big % n) (a ^ (e / 2 ^ (k + 1)) * big % n) (a ^ (e / 2 ^ (k + 1)) * big % n) ok (okLt ok _) (Nat.mod_lt _ ok.pos) w hm
  rw [mont_bb ok, ← Nat.pow_add, ← Nat.two_mul] at h
  exact h
 ·have h := bit_in e k (by omega) w
  rw [show (((k + 1 : Nat) : Int) - 1) = ((k : Nat) : Int) by omega]
  exact h
 ·have h := product_any g n (big % n) (big * big % n) (a ^ (2 * (e / 2 ^ (k + 1))) * big % n) (a * big % n) ok (okLt ok _) (Nat.mod_lt _ ok.pos) w hm
  have h2 : e / 2 ^ k % 2 = 1 := by unfold bitv at hk; omega
  have h3 := half_step e k
  rw [h2] at h3
  have h4 : a ^ (2 * (e / 2 ^ (k + 1))) * a = a ^ (e / 2 ^ k) := by rw [h3]; exact (Nat.pow_succ ..).symm
  rw [mont_bb ok, h4] at h
  exact h
 ·rw [Nat.pow_zero, Nat.div_one]
  exact cr w hm
theorem call82 : CO 82 := by intro args w; go_simp
theorem call92 : CO 92 := by intro args w; go_simp
theorem call101 : CO 101 := by intro args w; go_simp
theorem ex_loadI {ρ : Operand → Value} {o : Oper} {x : Operand} {g off : Nat} {v : Value} {cs : List Value} {w : World} {l : List (Nat × List Value)} (h : Mm w l) (k : Nat) (hk : l[k]? = some (g, cs)) (ho : o.op = .load 3 x) (hx : ρ x = PT g off) (hc : cs[off]? = some v) :
  (execOp ρ o).run Tryz.prog w = .ok (.value v) w := by
 have c0 := h.cell (List.mem_of_getElem? hk) hc
 clear h hk hc
 simp only [execOp, ho, hx]
 go_simp
theorem ex_loadB {ρ : Operand → Value} {o : Oper} {x : Operand} {g off : Nat} {v : Value} {cs : List Value} {w : World} {l : List (Nat × List Value)} (h : Mm w l) (k : Nat) (hk : l[k]? = some (g, cs)) (ho : o.op = .load 4 x) (hx : ρ x = PT g off) (hc : cs[off]? = some v) :
  (execOp ρ o).run Tryz.prog w = .ok (.value v) w := by
 have c0 := h.cell (List.mem_of_getElem? hk) hc
 clear h hk hc
 simp only [execOp, ho, hx]
 go_simp
/-- The table of math/bits. -/
def dtab : List Value := Lib.deBruijn64tab.map fun k => .int .u8 ((k : Nat) : Int)
theorem tab_at {w : World} (h : Mm w [(0, dtab)]) : TabAt 0 Lib.deBruijn64tab w := fun j hj => by
 refine h.get 0 rfl j ?_
 unfold dtab
 rw [List.getElem?_map, List.getElem?_eq_getElem hj, Option.map_some, List.getD_eq_getElem?_getD, List.getElem?_eq_getElem hj, Option.getD_some]
theorem tz_word (x : Nat) (hx : x < 18446744073709551616) (w : World) (ht : Mm w [(0, dtab)]) : Calls Tryz.prog 101 #[.int .u64 x] w (Rt w (.int .i64 (Lib.ctz 64 x))) :=
 (Any7.bits_TrailingZeros64 Tryz.lays29 x hx w (fun _ => tab_at ht)).mono fun _ _ ⟨h1, h2⟩ => ⟨h1, h2 ▸ Below.refl _ _⟩
/-- What stands in memory of a walk. -/
abbrev wkc (o r u v : Nat) (h : Int) (t : Bool) : List Value := [.int .u64 (wd o 0), .int .u64 (wd o 1), .int .u64 (wd o 2), .int .u64 (wd o 3), .int .u64 (wd o 4), .int .u64 (wd o 5), .int .u64 (wd r 0), .int .u64 (wd r 1), .int .u64 (wd r 2), .int .u64 (wd r 3), .int .u64 (wd r 4), .int .u64 (wd r 5), .int .u64 (wd u 0), .int .u64 (wd u 1), .int .u64 (wd u 2), .int .u64 (wd u 3), .int .u64 (wd u 4), .int .u64 (wd u 5), .int .u64 (wd v 0), .int .u64 (wd v 1), .int .u64 (wd v 2), .int .u64 (wd v 3), .int .u64 (wd v 4), .int .u64 (wd v 5), .int .i64 h, .bool t]
theorem trailing_gen (r m c : Nat) (hm6 : m < 6) (hc64 : c ≤ 64) (hz0 : ∀ j, j < m → wd r j = 0) (hm0 : wd r m ≠ 0)
  (c72 : ∀ w, Mm w [(0, dtab)] → Calls Tryz.prog 101 #[.int .u64 (wd r m)] w (Rt w (.int .i64 ((c : Nat) : Int)))) (w : World) (hm : Mm w [(0, dtab)]) :
  Calls Tryz.prog 92 #[N r] w (Rt w (.int .i64 ((64 * m + c : Nat) : Int))) := by
 have H0 : Hid (_ ∧ _) := ⟨hm, Below.refl w.heap.size w⟩
 clear hm
 have C72 : Hid _ := c72
 have HZ : Hid _ := hz0
 have HM : Hid _ := hm0
 clear c72 hz0 hm0
 go_enter Tryz.func92, Tryz.ntmps92
 refine wp_seq ?_
 refine zD 2 [.made (zB r) 24, .q (.int .i64 0)] (sB H0) ?ho1 ?he1
 case ho1 => exact am (zU rfl rfl) (ar trivial)
 intro J w1 l hM hl
 have H1 : Hid (Mm w1 ([(J 0, zB r)] ++ _) ∧ _) := wB H0 hM hl [0]
 have o1_0 := vB H0 hM hl 0
 clear hM hl l
 generalize J 0 = J1_0 at H1 o1_0 ⊢
 clear J
 refine rN (wp_seq (wp_seq ?_))
 refine zC 2 [.q (N r), .q (.int .i64 0)] H1 ?ho2 ?he2
 case ho2 => exact bN 0 (ar trivial)
 intro _ w2 H2
 clear H1
 refine rN (wp_block ?_)
 refine loop_ghost (α := Nat) (fun i a' w' => ∃ s0 : Nat → Value, a' = ⟨#[N r, PT J1_0 0, s0 2, s0 3, s0 4, N r, .int .i64 ((i : Nat) : Int), s0 7, s0 8, s0 9, s0 10, s0 11, s0 12, s0 13, s0 14, s0 15, s0 16, s0 17], []⟩ ∧ (Mm w' [(J1_0, zB r), (0, dtab)] ∧ Below w.heap.size w w') ∧ i ≤ m) (fun i => m - i) 0 ?st0 ?rd0
 case st0 => exact ⟨(yA [ud, ud, .int .i64 0, ud, ud, ud, ud, ud, ud, ud, ud, ud, ud, ud, ud, ud, ud, ud]), rfl, ⟨H2.out.1, H2.out.2⟩, by omega⟩
 intro i a' w3 hI
 obtain ⟨s0, rfl, hMB, hk0⟩ := hI
 have H3 : Hid (_ ∧ _) := hMB
 clear hMB H2
 have hi6 : i < 6 := by omega
 by_cases hz : wd r i = 0
 ·have hrd : True := trivial
  clear hrd
  have hz' : wd r i = 0 := hz
  refine wp_seq ?_
  refine zC 1 [.q (.bool true)] H3 ?ho3 ?he3
  case ho3 => exact ak (by refine fun J => ⟨rfl, fun w' h => ?_⟩; clear h; go_simp <;> omega) trivial
  intro _ w4 H4
  clear H3
  refine rN (wp_seq ?_)
  refine wp_cond_true rfl (wp_skip ?_)
  refine zA (wp_seq ?_)
  refine wp_block (wp_seq ?_)
  refine zC 4 [.q (.int .i64 ((i : Nat) : Int)), .q (.int .u64 (wd r i)), .q (.int .i64 ((i : Nat) : Int)), .q (.int .u64 (wd r i))] H4 ?ho4 ?he4
  case ho4 => exact ar (ak (fun J => ⟨rfl, fun w' _ => ex_index6 rfl rfl rfl hi6⟩) (ar (ar trivial)))
  intro _ w5 H5
  clear H4
  refine rN (wp_seq ?_)
  refine zC 2 [.q (.int .u64 (wd r i)), .q (.bool false)] H5 ?ho5 ?he5
  case ho5 => exact ar (ak (by refine fun J => ⟨rfl, fun w' h => ?_⟩; clear h; go_simp <;> omega) trivial)
  intro _ w6 H6
  clear H5
  refine rN (wp_cond_false rfl ?_)
  refine wp_skip (zT (zA ?_))
  refine zC 1 [.q (.int .i64 ((i + 1 : Nat) : Int))] H6 ?ho6 ?he6
  case ho6 => exact ak (by refine fun J => ⟨rfl, fun w' h => ?_⟩; clear h; go_simp; rw [IntKind.wrap_i64]; omega) trivial
  intro _ w7 H7
  clear H6
  refine zG (l := [1]) rfl ?_
  refine zN (d := 6) rfl rfl rfl rfl ?_
  simp only [Act.put, sa, sz, ss]
  refine zE (zA ?_)
  exact ⟨i + 1, ⟨(yA [ud, ud, s0 2, .int .i64 ((i : Nat) : Int), .int .u64 (wd r i), ud, ud, .bool true, .int .i64 ((i : Nat) : Int), .int .u64 (wd r i), .int .u64 (wd r i), .bool false, s0 12, s0 13, s0 14, s0 15, s0 16, .int .i64 ((i + 1 : Nat) : Int)]), rfl, ⟨H7.out.1, H7.out.2⟩, by have h1 : i ≠ m := fun e => HM.out (e ▸ hz'); omega⟩, by have h1 : i ≠ m := fun e => HM.out (e ▸ hz'); omega⟩
 ·have hrd : True := trivial
  clear hrd
  have hij : i = m := by
   apply Classical.byContradiction
   intro hne
   exact hz (HZ.out i (by omega))
  subst hij
  refine wp_seq ?_
  refine zC 1 [.q (.bool true)] H3 ?ho7 ?he7
  case ho7 => exact ak (by refine fun J => ⟨rfl, fun w' h => ?_⟩; clear h; go_simp <;> omega) trivial
  intro _ w8 H8
  clear H3
  refine rN (wp_seq ?_)
  refine wp_cond_true rfl (wp_skip ?_)
  refine zA (wp_seq ?_)
  refine wp_block (wp_seq ?_)
  refine zC 4 [.q (.int .i64 ((i : Nat) : Int)), .q (.int .u64 (wd r i)), .q (.int .i64 ((i : Nat) : Int)), .q (.int .u64 (wd r i))] H8 ?ho8 ?he8
  case ho8 => exact ar (ak (fun J => ⟨rfl, fun w' _ => ex_index6 rfl rfl rfl hi6⟩) (ar (ar trivial)))
  intro _ w9 H9
  clear H8
  refine rN (wp_seq ?_)
  refine zC 2 [.q (.int .u64 (wd r i)), .q (.bool true)] H9 ?ho9 ?he9
  case ho9 => exact ar (ak (by refine fun J => ⟨rfl, fun w' h => ?_⟩; clear h; go_simp <;> omega) trivial)
  intro _ w10 H10
  clear H9
  refine rN (wp_cond_true rfl (wp_seq ?_))
  refine zC 6 [.q (.int .i64 ((i : Nat) : Int)), .q (.int .i64 ((64 * i : Nat) : Int)), .q (.int .u64 (wd r i)), .call (.int .i64 ((c : Nat) : Int)), .q (.int .i64 ((64 * i + c : Nat) : Int)), .q (.int .i64 ((64 * i + c : Nat) : Int))] H10 ?ho10 ?he10
  case ho10 => exact ar (ak (by refine fun J => ⟨rfl, fun w' h => ?_⟩; clear h; go_simp; rw [IntKind.wrap_i64]; omega) (ar (ac (fun w' h => eC call101 (C72.out w' (h.one 1 rfl))) (ak (by refine fun J => ⟨rfl, fun w' h => ?_⟩; clear h; go_simp; rw [IntKind.wrap_i64]; omega) (ar trivial)))))
  intro _ w11 H11
  clear H10
  refine rN (wp_ret ?_)
  repeat (first | refine zK ?_ | refine zI ?_)
  refine bodyPost_ret (v := .int .i64 ((64 * i + c : Nat) : Int)) (by simp [results, Tryz.results92, go_sem, *]) rfl ?_
  exact ⟨rfl, H11.out.2⟩
theorem halve_gen (g o r u v k r' u' : Nat) (h : Int) (t : Bool) (hk : k < 384) (h0 : 0 ≤ h) (h1 : h < 10000)
  (c66 : ∀ w, Mm w [(0, dtab)] → Calls Tryz.prog 92 #[N r] w (Rt w (.int .i64 ((k : Nat) : Int))))
  (c53 : ∀ w, Calls Tryz.prog 82 #[N r, .int .i64 (-((k : Nat) : Int))] w (Rt w (N r')))
  (d53 : ∀ w, Calls Tryz.prog 82 #[N u, .int .i64 ((k : Nat) : Int)] w (Rt w (N u'))) (w : World) (hm : Mm w [(g, wkc o r u v h t), (0, dtab)]) :
  Calls Tryz.prog 75 #[PT g 0] w fun e w' => e = .returned (.tuple #[]) ∧ Mm w' [(g, wkc o r' u' v (h + ((k : Nat) : Int)) t)] ∧ Kp g w w' := by
 have H0 : Hid (_ ∧ _) := ⟨hm, Kp.refl g w⟩
 clear hm
 have C66 : Hid _ := c66
 have C53 : Hid _ := c53
 have D53 : Hid _ := d53
 clear c66 c53 d53
 go_enter Tryz.func75, Tryz.ntmps75
 refine wp_seq ?_
 refine zD 6 [.q (PT g 0), .q (PT g 0), .q (PT g 6), .q (N r), .call (.int .i64 ((k : Nat) : Int)), .q (.int .i64 ((k : Nat) : Int))] (sB H0) ?ho1 ?he1
 case ho1 => exact ar (ak (by refine fun J => ⟨rfl, fun w' hh => ?_⟩; clear hh; go_simp) (ak (by refine fun J => ⟨rfl, fun w' hh => ?_⟩; clear hh; go_simp) (ak (fun J => ⟨rfl, fun w' hh => zY hh 0 rfl rfl rfl rfl⟩) (ak (fun J => ⟨rfl, fun w' hh => eC call92 (C66.out w' (hh.one 1 rfl))⟩) (ar trivial)))))
 intro J w1 l hM hl
 have H1 := keepK H0 hM.below
 clear hM hl l J
 refine rN (wp_seq ?_)
 refine zD 10 [.q (PT g 0), .q (PT g 0), .q (PT g 0), .q (PT g 6), .q (N r), .q (.int .i64 ((k : Nat) : Int)), .q (.int .i64 (-((k : Nat) : Int))), .call (N r'), .q (PT g 0), .q (PT g 6)] (sB H1) ?ho2 ?he2
 case ho2 => exact ar (ar (ak (by refine fun J => ⟨rfl, fun w' hh => ?_⟩; clear hh; go_simp) (ak (by refine fun J => ⟨rfl, fun w' hh => ?_⟩; clear hh; go_simp) (ak (fun J => ⟨rfl, fun w' hh => zY hh 0 rfl rfl rfl rfl⟩) (ar (ak (by refine fun J => ⟨rfl, fun w' hh => ?_⟩; clear hh; go_simp; rw [IntKind.wrap_i64]; omega) (ak (fun J => ⟨rfl, fun w' hh => eC call82 (C53.out w')⟩) (ak (by refine fun J => ⟨rfl, fun w' hh => ?_⟩; clear hh; go_simp) (ak (by refine fun J => ⟨rfl, fun w' hh => ?_⟩; clear hh; go_simp) trivial)))))))))
 intro J w2 l hM hl
 have H2 := keepK H1 hM.below
 clear hM hl l H1 J
 refine zG (l := [10]) rfl ?_
 refine sH rfl (fun h => zM h 0 rfl rfl rfl rfl (Nat.le_of_ble_eq_true rfl)) 0 [(_, wkc o r' u v h t), _] H2 (Or.inl rfl) fun w3 H3 => ?_
 clear H2
 refine zE (zA (wp_seq ?_))
 refine zD 9 [.q (PT g 0), .q (PT g 0), .q (PT g 0), .q (PT g 12), .q (N u), .q (.int .i64 ((k : Nat) : Int)), .call (N u'), .q (PT g 0), .q (PT g 12)] (sB H3) ?ho3 ?he3
 case ho3 => exact ar (ar (ak (by refine fun J => ⟨rfl, fun w' hh => ?_⟩; clear hh; go_simp) (ak (by refine fun J => ⟨rfl, fun w' hh => ?_⟩; clear hh; go_simp) (ak (fun J => ⟨rfl, fun w' hh => zY hh 0 rfl rfl rfl rfl⟩) (ar (ak (fun J => ⟨rfl, fun w' hh => eC call82 (D53.out w')⟩) (ak (by refine fun J => ⟨rfl, fun w' hh => ?_⟩; clear hh; go_simp) (ak (by refine fun J => ⟨rfl, fun w' hh => ?_⟩; clear hh; go_simp) trivial))))))))
 intro J w4 l hM hl
 have H4 := keepK H3 hM.below
 clear hM hl l H3 J
 refine zG (l := [9]) rfl ?_
 refine sH rfl (fun h => zM h 0 rfl rfl rfl rfl (Nat.le_of_ble_eq_true rfl)) 0 [(_, wkc o r' u' v h t), _] H4 (Or.inl rfl) fun w5 H5 => ?_
 clear H4
 refine zE (zA ?_)
 refine zD 8 [.q (PT g 0), .q (PT g 0), .q (PT g 24), .q (.int .i64 h), .q (.int .i64 ((k : Nat) : Int)), .q (.int .i64 (h + ((k : Nat) : Int))), .q (PT g 0), .q (PT g 24)] (sB H5) ?ho4 ?he4
 case ho4 => exact ar (ak (by refine fun J => ⟨rfl, fun w' hh => ?_⟩; clear hh; go_simp) (ak (by refine fun J => ⟨rfl, fun w' hh => ?_⟩; clear hh; go_simp) (ak (fun J => ⟨rfl, fun w' hh => ex_loadI hh 0 rfl rfl rfl rfl⟩) (ar (ak (by refine fun J => ⟨rfl, fun w' hh => ?_⟩; clear hh; go_simp; rw [IntKind.wrap_i64]; omega) (ak (by refine fun J => ⟨rfl, fun w' hh => ?_⟩; clear hh; go_simp) (ak (by refine fun J => ⟨rfl, fun w' hh => ?_⟩; clear hh; go_simp) trivial)))))))
 intro J w6 l hM hl
 have H6 := keepK H5 hM.below
 clear hM hl l H5 J
 refine zG (l := [8]) rfl ?_
 refine sH rfl (fun h => ex_storeI h 0 rfl rfl Tryz.sizeOf3 rfl rfl (Nat.le_of_ble_eq_true rfl)) 0 [(_, wkc o r' u' v (h + ((k : Nat) : Int)) t), _] H6 (Or.inl rfl) fun w7 H7 => ?_
 clear H6
 refine zE ?_
 refine bodyPost_end (v := .tuple #[]) (by simp [results, Tryz.results75, go_sem]) rfl ?_
 exact ⟨rfl, H7.out.1.one 0 rfl, H7.out.2⟩
theorem subtract_1 (g o r u v x y : Nat) (h : Int) (t : Bool)
  (c31 : ∀ w, Calls Tryz.prog 59 #[N r, N o] w (Rt w (.int .i64 (-1))))
  (c40 : ∀ w, Calls Tryz.prog 45 #[N o, N r] w (Rt w (.tuple #[N x, .bool false])))
  (c45 : ∀ w, Calls Tryz.prog 46 #[N u, N v] w (Rt w (.tuple #[N y, .bool false]))) (w : World) (hm : Mm w [(g, wkc o r u v h t)]) :
  Calls Tryz.prog 76 #[PT g 0] w fun e w' => e = .returned (.tuple #[]) ∧ Mm w' [(g, wkc r x v y h (!t))] ∧ Kp g w w' := by
 have H0 : Hid (_ ∧ _) := ⟨hm, Kp.refl g w⟩
 clear hm
 have C31 : Hid _ := c31
 have C40 : Hid _ := c40
 have C45 : Hid _ := c45
 clear c31 c40 c45
 go_enter Tryz.func76, Tryz.ntmps76
 refine wp_seq (wp_seq ?_)
 refine zQ 10 [.q (PT g 0), .q (PT g 0), .q (PT g 6), .q (N r), .q (PT g 0), .q (PT g 0), .q (PT g 0), .q (N o), .call (.int .i64 (-1)), .q (.bool true)] (sB H0) ?ho1 ?he1
 case ho1 => exact ar (ak (by refine fun J => ⟨rfl, fun w' hh => ?_⟩; clear hh; go_simp) (ak (by refine fun J => ⟨rfl, fun w' hh => ?_⟩; clear hh; go_simp) (ak (fun J => ⟨rfl, fun w' hh => zY hh 0 rfl rfl rfl rfl⟩) (ar (ak (by refine fun J => ⟨rfl, fun w' hh => ?_⟩; clear hh; go_simp) (ak (by refine fun J => ⟨rfl, fun w' hh => ?_⟩; clear hh; go_simp) (ak (fun J => ⟨rfl, fun w' hh => zY hh 0 rfl rfl rfl rfl⟩) (ak (fun J => ⟨rfl, fun w' hh => eC call59 (C31.out w')⟩) (ak (by refine fun J => ⟨rfl, fun w' hh => ?_⟩; clear hh; go_simp) trivial)))))))))
 intro J w1 l hM hl
 have H1 := keepK H0 hM.below
 clear hM hl l J
 refine rN (wp_cond_true rfl (wp_seq ?_))
 refine walk_put (by kernel_rfl) 12 [1] [.q (PT g 0), .q (PT g 0), .q (PT g 0), .q (PT g 0), .q (PT g 6), .q (N r), .q (PT g 0), .q (PT g 0), .q (PT g 0), .q (N o), .q (PT g 0), .q (PT g 0)] _ ?pre2 ?F2 _ ?hpre2 (fun J => ?hF2) (by kernel_rfl) rfl trivial (sB H1) ?ho2 ?hla2 ?he2
 case hpre2 => simp only [tk, tz]; rfl
 case hF2 => simp only [yB, Kind.val, Act.put, sa, sz, ss]; rfl
 case ho2 =>
  refine ar ?_
  refine ar ?_
  refine ar ?_
  refine ak (by refine fun J => ⟨rfl, fun w' hh => ?_⟩; clear hh; go_simp) ?_
  refine ak (by refine fun J => ⟨rfl, fun w' hh => ?_⟩; clear hh; go_simp) ?_
  refine ak (fun J => ⟨rfl, fun w' hh => zY hh 0 rfl rfl rfl rfl⟩) ?_
  refine ar ?_
  refine ak (by refine fun J => ⟨rfl, fun w' hh => ?_⟩; clear hh; go_simp) ?_
  refine ak (by refine fun J => ⟨rfl, fun w' hh => ?_⟩; clear hh; go_simp) ?_
  refine ak (fun J => ⟨rfl, fun w' hh => zY hh 0 rfl rfl rfl rfl⟩) ?_
  refine ak (by refine fun J => ⟨rfl, fun w' hh => ?_⟩; clear hh; go_simp) ?_
  refine ak (by refine fun J => ⟨rfl, fun w' hh => ?_⟩; clear hh; go_simp) ?_
  exact trivial
 case hla2 => exact ⟨⟨_, _, rfl, rfl, fun J => ⟨rfl, fun w' => by first | rfl | go_simp⟩⟩, trivial⟩
 intro J w2 l hM hl
 have H2 := keepK H1 hM.below
 clear hM hl l H1 J
 refine ⟨_, zM H2.out.1 0 rfl rfl rfl rfl (Nat.le_of_ble_eq_true rfl), ?_⟩
 have H3 : Hid (Mm (w2.setCells g 0 (zB r)) [(g, wkc r r u v h t)] ∧ Kp g w (w2.setCells g 0 (zB r))) := ⟨H2.out.1.put 0 (off := 0) (vs := zB r) rfl (Nat.le_of_ble_eq_true rfl), H2.out.2.put (Or.inl rfl)⟩
 clear H2
 generalize hgw : World.setCells _ _ _ _ = w3 at H3 ⊢
 clear hgw
 refine zG (l := [13, 14, 15]) rfl ?_
 refine zN (d := 24) (v := PT g 0) (w' := w3) rfl rfl rfl (by go_simp) ?_
 simp only [Act.put, sa, sz, ss]
 refine zN (d := 25) (v := PT g 6) (w' := w3) rfl rfl rfl (by go_simp) ?_
 simp only [Act.put, sa, sz, ss]
 refine sH rfl (fun h => zM h 0 rfl rfl rfl rfl (Nat.le_of_ble_eq_true rfl)) 0 [(_, wkc r o u v h t)] H3 (Or.inl rfl) fun w4 H4 => ?_
 clear H3
 refine zE (zA (wp_seq ?_))
 refine walk_put (by kernel_rfl) 12 [1] [.q (PT g 0), .q (PT g 0), .q (PT g 0), .q (PT g 0), .q (PT g 18), .q (N v), .q (PT g 0), .q (PT g 0), .q (PT g 12), .q (N u), .q (PT g 0), .q (PT g 12)] _ ?pre3 ?F3 _ ?hpre3 (fun J => ?hF3) (by kernel_rfl) rfl trivial (sB H4) ?ho3 ?hla3 ?he3
 case hpre3 => simp only [tk, tz]; rfl
 case hF3 => simp only [yB, Kind.val, Act.put, sa, sz, ss]; rfl
 case ho3 =>
  refine ar ?_
  refine ar ?_
  refine ar ?_
  refine ak (by refine fun J => ⟨rfl, fun w' hh => ?_⟩; clear hh; go_simp) ?_
  refine ak (by refine fun J => ⟨rfl, fun w' hh => ?_⟩; clear hh; go_simp) ?_
  refine ak (fun J => ⟨rfl, fun w' hh => zY hh 0 rfl rfl rfl rfl⟩) ?_
  refine ar ?_
  refine ak (by refine fun J => ⟨rfl, fun w' hh => ?_⟩; clear hh; go_simp) ?_
  refine ak (by refine fun J => ⟨rfl, fun w' hh => ?_⟩; clear hh; go_simp) ?_
  refine ak (fun J => ⟨rfl, fun w' hh => zY hh 0 rfl rfl rfl rfl⟩) ?_
  refine ak (by refine fun J => ⟨rfl, fun w' hh => ?_⟩; clear hh; go_simp) ?_
  refine ak (by refine fun J => ⟨rfl, fun w' hh => ?_⟩; clear hh; go_simp) ?_
  exact trivial
 case hla3 => exact ⟨⟨_, _, rfl, rfl, fun J => ⟨rfl, fun w' => by first | rfl | go_simp⟩⟩, trivial⟩
 intro J w5 l hM hl
 have H5 := keepK H4 hM.below
 clear hM hl l H4 J
 refine ⟨_, zM H5.out.1 0 rfl rfl rfl rfl (Nat.le_of_ble_eq_true rfl), ?_⟩
 have H6 : Hid (Mm (w5.setCells g 12 (zB v)) [(g, wkc r o v v h t)] ∧ Kp g w (w5.setCells g 12 (zB v))) := ⟨H5.out.1.put 0 (off := 12) (vs := zB v) rfl (Nat.le_of_ble_eq_true rfl), H5.out.2.put (Or.inl rfl)⟩
 clear H5
 generalize hgw : World.setCells _ _ _ _ = w6 at H6 ⊢
 clear hgw
 refine zG (l := [13, 14, 15]) rfl ?_
 refine zN (d := 38) (v := PT g 0) (w' := w6) rfl rfl rfl (by go_simp) ?_
 simp only [Act.put, sa, sz, ss]
 refine zN (d := 39) (v := PT g 18) (w' := w6) rfl rfl rfl (by go_simp) ?_
 simp only [Act.put, sa, sz, ss]
 refine sH rfl (fun h => zM h 0 rfl rfl rfl rfl (Nat.le_of_ble_eq_true rfl)) 0 [(_, wkc r o v u h t)] H6 (Or.inl rfl) fun w7 H7 => ?_
 clear H6
 refine zE (zA ?_)
 refine zD 8 [.q (PT g 0), .q (PT g 0), .q (PT g 0), .q (PT g 25), .q (.bool t), .q (.bool (!t)), .q (PT g 0), .q (PT g 25)] (sB H7) ?ho4 ?he4
 case ho4 => exact ar (ar (ak (by refine fun J => ⟨rfl, fun w' hh => ?_⟩; clear hh; go_simp) (ak (by refine fun J => ⟨rfl, fun w' hh => ?_⟩; clear hh; go_simp) (ak (fun J => ⟨rfl, fun w' hh => ex_loadB hh 0 rfl rfl rfl rfl⟩) (ak (by refine fun J => ⟨rfl, fun w' hh => ?_⟩; clear hh; go_simp) (ak (by refine fun J => ⟨rfl, fun w' hh => ?_⟩; clear hh; go_simp) (ak (by refine fun J => ⟨rfl, fun w' hh => ?_⟩; clear hh; go_simp) trivial)))))))
 intro J w8 l hM hl
 have H8 := keepK H7 hM.below
 clear hM hl l H7 J
 refine zG (l := [8]) rfl ?_
 refine sH rfl (fun h => ex_storeB h 0 rfl rfl Tryz.sizeOf4 rfl rfl (Nat.le_of_ble_eq_true rfl)) 0 [(_, wkc r o v u h (!t))] H8 (Or.inl rfl) fun w9 H9 => ?_
 clear H8
 refine zE (zA (wp_seq ?_))
 refine walk_put (by kernel_rfl) 15 [12] [.q (PT g 0), .q (PT g 0), .q (PT g 0), .q (PT g 6), .q (N o), .q (PT g 0), .q (PT g 0), .q (PT g 0), .q (N r), .call (.tuple #[N x, .bool false]), .q (.tuple #[N x, .bool false]), .q (N x), .q (.bool false), .q (PT g 0), .q (PT g 6)] _ ?pre5 ?F5 _ ?hpre5 (fun J => ?hF5) (by kernel_rfl) rfl trivial (sB H9) ?ho5 ?hla5 ?he5
 case hpre5 => simp only [tk, tz]; rfl
 case hF5 => simp only [yB, Kind.val, Act.put, sa, sz, ss]; rfl
 case ho5 =>
  refine ar ?_
  refine ar ?_
  refine ak (by refine fun J => ⟨rfl, fun w' hh => ?_⟩; clear hh; go_simp) ?_
  refine ak (by refine fun J => ⟨rfl, fun w' hh => ?_⟩; clear hh; go_simp) ?_
  refine ak (fun J => ⟨rfl, fun w' hh => zY hh 0 rfl rfl rfl rfl⟩) ?_
  refine ar ?_
  refine ak (by refine fun J => ⟨rfl, fun w' hh => ?_⟩; clear hh; go_simp) ?_
  refine ak (by refine fun J => ⟨rfl, fun w' hh => ?_⟩; clear hh; go_simp) ?_
  refine ak (fun J => ⟨rfl, fun w' hh => zY hh 0 rfl rfl rfl rfl⟩) ?_
  refine ak (fun J => ⟨rfl, fun w' hh => eC call45 (C40.out w')⟩) ?_
  refine ar ?_
  refine ak (by refine fun J => ⟨rfl, fun w' hh => ?_⟩; clear hh; go_simp) ?_
  refine ak (by refine fun J => ⟨rfl, fun w' hh => ?_⟩; clear hh; go_simp) ?_
  refine ak (by refine fun J => ⟨rfl, fun w' hh => ?_⟩; clear hh; go_simp) ?_
  refine ak (by refine fun J => ⟨rfl, fun w' hh => ?_⟩; clear hh; go_simp) ?_
  exact trivial
 case hla5 => exact ⟨⟨_, _, rfl, rfl, fun J => ⟨rfl, fun w' => by first | rfl | go_simp⟩⟩, trivial⟩
 intro J w10 l hM hl
 have H10 := keepK H9 hM.below
 clear hM hl l H9 J
 refine ⟨_, zM H10.out.1 0 rfl rfl rfl rfl (Nat.le_of_ble_eq_true rfl), ?_⟩
 have H11 : Hid (Mm (w10.setCells g 6 (zB x)) [(g, wkc r x v u h (!t))] ∧ Kp g w (w10.setCells g 6 (zB x))) := ⟨H10.out.1.put 0 (off := 6) (vs := zB x) rfl (Nat.le_of_ble_eq_true rfl), H10.out.2.put (Or.inl rfl)⟩
 clear H10
 generalize hgw : World.setCells _ _ _ _ = w11 at H11 ⊢
 clear hgw
 refine rN ?_
 refine walk_put (by kernel_rfl) 15 [12] [.q (PT g 0), .q (PT g 0), .q (PT g 0), .q (PT g 18), .q (N u), .q (PT g 0), .q (PT g 0), .q (PT g 12), .q (N v), .call (.tuple #[N y, .bool false]), .q (.tuple #[N y, .bool false]), .q (N y), .q (.bool false), .q (PT g 0), .q (PT g 18)] _ ?pre6 ?F6 _ ?hpre6 (fun J => ?hF6) (by kernel_rfl) rfl trivial (sB H11) ?ho6 ?hla6 ?he6
 case hpre6 => simp only [tk, tz]; rfl
 case hF6 => simp only [yB, Kind.val, Act.put, sa, sz, ss]; rfl
 case ho6 =>
  refine ar ?_
  refine ar ?_
  refine ak (by refine fun J => ⟨rfl, fun w' hh => ?_⟩; clear hh; go_simp) ?_
  refine ak (by refine fun J => ⟨rfl, fun w' hh => ?_⟩; clear hh; go_simp) ?_
  refine ak (fun J => ⟨rfl, fun w' hh => zY hh 0 rfl rfl rfl rfl⟩) ?_
  refine ar ?_
  refine ak (by refine fun J => ⟨rfl, fun w' hh => ?_⟩; clear hh; go_simp) ?_
  refine ak (by refine fun J => ⟨rfl, fun w' hh => ?_⟩; clear hh; go_simp) ?_
  refine ak (fun J => ⟨rfl, fun w' hh => zY hh 0 rfl rfl rfl rfl⟩) ?_
  refine ak (fun J => ⟨rfl, fun w' hh => eC call46 (C45.out w')⟩) ?_
  refine ar ?_
  refine ak (by refine fun J => ⟨rfl, fun w' hh => ?_⟩; clear hh; go_simp) ?_
  refine ak (by refine fun J => ⟨rfl, fun w' hh => ?_⟩; clear hh; go_simp) ?_
  refine ak (by refine fun J => ⟨rfl, fun w' hh => ?_⟩; clear hh; go_simp) ?_
  refine ak (by refine fun J => ⟨rfl, fun w' hh => ?_⟩; clear hh; go_simp) ?_
  exact trivial
 case hla6 => exact ⟨⟨_, _, rfl, rfl, fun J => ⟨rfl, fun w' => by first | rfl | go_simp⟩⟩, trivial⟩
 intro J w12 l hM hl
 have H12 := keepK H11 hM.below
 clear hM hl l H11 J
 refine ⟨_, zM H12.out.1 0 rfl rfl rfl rfl (Nat.le_of_ble_eq_true rfl), ?_⟩
 have H13 : Hid (Mm (w12.setCells g 18 (zB y)) [(g, wkc r x v y h (!t))] ∧ Kp g w (w12.setCells g 18 (zB y))) := ⟨H12.out.1.put 0 (off := 18) (vs := zB y) rfl (Nat.le_of_ble_eq_true rfl), H12.out.2.put (Or.inl rfl)⟩
 clear H12
 generalize hgw : World.setCells _ _ _ _ = w13 at H13 ⊢
 clear hgw
 refine rest0 rfl ?_
 refine bodyPost_end (v := .tuple #[]) (by simp [results, Tryz.results76, go_sem]) rfl ?_
 exact ⟨rfl, H13.out.1.one 0 rfl, H13.out.2⟩
theorem subtract_2 (g o r u v x y : Nat) (h : Int) (t : Bool) (c : Int) (hc : ¬ c < 0)
  (c31 : ∀ w, Calls Tryz.prog 59 #[N r, N o] w (Rt w (.int .i64 c)))
  (c40 : ∀ w, Calls Tryz.prog 45 #[N r, N o] w (Rt w (.tuple #[N x, .bool false])))
  (c45 : ∀ w, Calls Tryz.prog 46 #[N v, N u] w (Rt w (.tuple #[N y, .bool false]))) (w : World) (hm : Mm w [(g, wkc o r u v h t)]) :
  Calls Tryz.prog 76 #[PT g 0] w fun e w' => e = .returned (.tuple #[]) ∧ Mm w' [(g, wkc o x u y h t)] ∧ Kp g w w' := by
 have H0 : Hid (_ ∧ _) := ⟨hm, Kp.refl g w⟩
 clear hm
 have C31 : Hid _ := c31
 have C40 : Hid _ := c40
 have C45 : Hid _ := c45
 clear c31 c40 c45
 go_enter Tryz.func76, Tryz.ntmps76
 refine wp_seq (wp_seq ?_)
 refine zQ 10 [.q (PT g 0), .q (PT g 0), .q (PT g 6), .q (N r), .q (PT g 0), .q (PT g 0), .q (PT g 0), .q (N o), .call (.int .i64 c), .q (.bool false)] (sB H0) ?ho1 ?he1
 case ho1 => exact ar (ak (by refine fun J => ⟨rfl, fun w' hh => ?_⟩; clear hh; go_simp) (ak (by refine fun J => ⟨rfl, fun w' hh => ?_⟩; clear hh; go_simp) (ak (fun J => ⟨rfl, fun w' hh => zY hh 0 rfl rfl rfl rfl⟩) (ar (ak (by refine fun J => ⟨rfl, fun w' hh => ?_⟩; clear hh; go_simp) (ak (by refine fun J => ⟨rfl, fun w' hh => ?_⟩; clear hh; go_simp) (ak (fun J => ⟨rfl, fun w' hh => zY hh 0 rfl rfl rfl rfl⟩) (ak (fun J => ⟨rfl, fun w' hh => eC call59 (C31.out w')⟩) (ak (by refine fun J => ⟨rfl, fun w' hh => ?_⟩; clear hh; go_simp) trivial)))))))))
 intro J w1 l hM hl
 have H1 := keepK H0 hM.below
 clear hM hl l J
 refine rN (wp_cond_false rfl ?_)
 refine wp_skip (zA (wp_seq ?_))
 refine walk_put (by kernel_rfl) 15 [12] [.q (PT g 0), .q (PT g 0), .q (PT g 0), .q (PT g 6), .q (N r), .q (PT g 0), .q (PT g 0), .q (PT g 0), .q (N o), .call (.tuple #[N x, .bool false]), .q (.tuple #[N x, .bool false]), .q (N x), .q (.bool false), .q (PT g 0), .q (PT g 6)] _ ?pre2 ?F2 _ ?hpre2 (fun J => ?hF2) (by kernel_rfl) rfl trivial (sB H1) ?ho2 ?hla2 ?he2
 case hpre2 => simp only [tk, tz]; rfl
 case hF2 => simp only [yB, Kind.val, Act.put, sa, sz, ss]; rfl
 case ho2 =>
  refine ar ?_
  refine ar ?_
  refine ak (by refine fun J => ⟨rfl, fun w' hh => ?_⟩; clear hh; go_simp) ?_
  refine ak (by refine fun J => ⟨rfl, fun w' hh => ?_⟩; clear hh; go_simp) ?_
  refine ak (fun J => ⟨rfl, fun w' hh => zY hh 0 rfl rfl rfl rfl⟩) ?_
  refine ar ?_
  refine ak (by refine fun J => ⟨rfl, fun w' hh => ?_⟩; clear hh; go_simp) ?_
  refine ak (by refine fun J => ⟨rfl, fun w' hh => ?_⟩; clear hh; go_simp) ?_
  refine ak (fun J => ⟨rfl, fun w' hh => zY hh 0 rfl rfl rfl rfl⟩) ?_
  refine ak (fun J => ⟨rfl, fun w' hh => eC call45 (C40.out w')⟩) ?_
  refine ar ?_
  refine ak (by refine fun J => ⟨rfl, fun w' hh => ?_⟩; clear hh; go_simp) ?_
  refine ak (by refine fun J => ⟨rfl, fun w' hh => ?_⟩; clear hh; go_simp) ?_
  refine ak (by refine fun J => ⟨rfl, fun w' hh => ?_⟩; clear hh; go_simp) ?_
  refine ak (by refine fun J => ⟨rfl, fun w' hh => ?_⟩; clear hh; go_simp) ?_
  exact trivial
 case hla2 => exact ⟨⟨_, _, rfl, rfl, fun J => ⟨rfl, fun w' => by first | rfl | go_simp⟩⟩, trivial⟩
 intro J w2 l hM hl
 have H2 := keepK H1 hM.below
 clear hM hl l H1 J
 refine ⟨_, zM H2.out.1 0 rfl rfl rfl rfl (Nat.le_of_ble_eq_true rfl), ?_⟩
 have H3 : Hid (Mm (w2.setCells g 6 (zB x)) [(g, wkc o x u v h t)] ∧ Kp g w (w2.setCells g 6 (zB x))) := ⟨H2.out.1.put 0 (off := 6) (vs := zB x) rfl (Nat.le_of_ble_eq_true rfl), H2.out.2.put (Or.inl rfl)⟩
 clear H2
 generalize hgw : World.setCells _ _ _ _ = w3 at H3 ⊢
 clear hgw
 refine rN ?_
 refine walk_put (by kernel_rfl) 15 [12] [.q (PT g 0), .q (PT g 0), .q (PT g 0), .q (PT g 18), .q (N v), .q (PT g 0), .q (PT g 0), .q (PT g 12), .q (N u), .call (.tuple #[N y, .bool false]), .q (.tuple #[N y, .bool false]), .q (N y), .q (.bool false), .q (PT g 0), .q (PT g 18)] _ ?pre3 ?F3 _ ?hpre3 (fun J => ?hF3) (by kernel_rfl) rfl trivial (sB H3) ?ho3 ?hla3 ?he3
 case hpre3 => simp only [tk, tz]; rfl
 case hF3 => simp only [yB, Kind.val, Act.put, sa, sz, ss]; rfl
 case ho3 =>
  refine ar ?_
  refine ar ?_
  refine ak (by refine fun J => ⟨rfl, fun w' hh => ?_⟩; clear hh; go_simp) ?_
  refine ak (by refine fun J => ⟨rfl, fun w' hh => ?_⟩; clear hh; go_simp) ?_
  refine ak (fun J => ⟨rfl, fun w' hh => zY hh 0 rfl rfl rfl rfl⟩) ?_
  refine ar ?_
  refine ak (by refine fun J => ⟨rfl, fun w' hh => ?_⟩; clear hh; go_simp) ?_
  refine ak (by refine fun J => ⟨rfl, fun w' hh => ?_⟩; clear hh; go_simp) ?_
  refine ak (fun J => ⟨rfl, fun w' hh => zY hh 0 rfl rfl rfl rfl⟩) ?_
  refine ak (fun J => ⟨rfl, fun w' hh => eC call46 (C45.out w')⟩) ?_
  refine ar ?_
  refine ak (by refine fun J => ⟨rfl, fun w' hh => ?_⟩; clear hh; go_simp) ?_
  refine ak (by refine fun J => ⟨rfl, fun w' hh => ?_⟩; clear hh; go_simp) ?_
  refine ak (by refine fun J => ⟨rfl, fun w' hh => ?_⟩; clear hh; go_simp) ?_
  refine ak (by refine fun J => ⟨rfl, fun w' hh => ?_⟩; clear hh; go_simp) ?_
  exact trivial
 case hla3 => exact ⟨⟨_, _, rfl, rfl, fun J => ⟨rfl, fun w' => by first | rfl | go_simp⟩⟩, trivial⟩
 intro J w4 l hM hl
 have H4 := keepK H3 hM.below
 clear hM hl l H3 J
 refine ⟨_, zM H4.out.1 0 rfl rfl rfl rfl (Nat.le_of_ble_eq_true rfl), ?_⟩
 have H5 : Hid (Mm (w4.setCells g 18 (zB y)) [(g, wkc o x u y h t)] ∧ Kp g w (w4.setCells g 18 (zB y))) := ⟨H4.out.1.put 0 (off := 18) (vs := zB y) rfl (Nat.le_of_ble_eq_true rfl), H4.out.2.put (Or.inl rfl)⟩
 clear H4
 generalize hgw : World.setCells _ _ _ _ = w5 at H5 ⊢
 clear hgw
 refine rest0 rfl ?_
 refine bodyPost_end (v := .tuple #[]) (by simp [results, Tryz.results76, go_sem]) rfl ?_
 exact ⟨rfl, H5.out.1.one 0 rfl, H5.out.2⟩
structure WS where
 o : Nat
 r : Nat
 u : Nat
 v : Nat
 h : Nat
 t : Bool
/-- What is known at each round's beginning. -/
structure WI (n a : Nat) (z : WS) : Prop where
 odd : z.o % 2 = 1
 sum : z.o * z.v + z.r * z.u = n
 un : z.u < n
 vpos : 1 ≤ z.v
 rn : z.r ≤ n
 gcd : Nat.gcd z.o z.r = Nat.gcd n a
 hb : 2 ^ z.h * (z.o * z.r) ≤ n * n
 hb1 : 2 ^ z.h ≤ n * n
 c1 : if z.t = true then Cg n (z.o * 2 ^ z.h) (z.u * a) else Cg n (z.o * 2 ^ z.h + z.u * a) 0
 c2 : if z.t = true then Cg n (z.r * 2 ^ z.h + z.v * a) 0 else Cg n (z.r * 2 ^ z.h) (z.v * a)
theorem WI.start {n a : Nat} (ok : Ok n) : WI n a ⟨n, a % n, 0, 1, 0, false⟩ := by
 have h3 := ok.three
 have hl := Nat.mod_lt a ok.pos
 refine ⟨ok.odd, by simp, ok.pos, Nat.le_refl _, Nat.le_of_lt hl, ?_, ?_, ?_, ?_, ?_⟩
 ·show Nat.gcd n (a % n) = Nat.gcd n a
  rw [Nat.gcd_comm n (a % n), ← Nat.gcd_rec, Nat.gcd_comm]
 ·show 2 ^ 0 * (n * (a % n)) ≤ n * n
  rw [Nat.pow_zero, Nat.one_mul]
  exact Nat.mul_le_mul_left _ (Nat.le_of_lt hl)
 ·show 2 ^ 0 ≤ n * n
  have := Nat.mul_le_mul h3 h3
  rw [Nat.pow_zero]; omega
 ·show Cg n (n * 2 ^ 0 + 0 * a) 0
  rw [Nat.pow_zero, Nat.zero_mul, Nat.add_zero, Nat.mul_one]
  have := Cg.zero n 1
  rwa [Nat.one_mul] at this
 ·show Cg n (a % n * 2 ^ 0) (1 * a)
  rw [Nat.pow_zero, Nat.mul_one, Nat.one_mul]
  exact Cg.mod n a
theorem gcd_halve {o r1 k : Nat} (ho : o % 2 = 1) : Nat.gcd o (r1 * 2 ^ k) = Nat.gcd o r1 := by
 have hc : Nat.Coprime o (2 ^ k) := by
  apply Nat.Coprime.pow_right
  rw [Nat.coprime_comm]
  show Nat.gcd 2 o = 1
  rw [Nat.gcd_rec, ho]
  rfl
 exact Nat.Coprime.gcd_mul_right_cancel_right r1 hc.symm
theorem gcd_less {o r1 : Nat} (h : r1 ≤ o) : Nat.gcd r1 (o - r1) = Nat.gcd o r1 := by
 rw [Nat.gcd_comm o r1]
 have e : o = (o - r1) + r1 := by omega
 generalize o - r1 = d at e ⊢
 rw [e, Nat.gcd_add_self_right]
theorem WI.facts {n a o r u v h k r1 : Nat} {t : Bool} (I : WI n a ⟨o, r, u, v, h, t⟩) (hr : r ≠ 0) (er : r = r1 * 2 ^ k) : 1 ≤ r1 ∧ 1 ≤ o ∧ o ≤ n ∧ r1 ≤ n ∧ o * v + r1 * (u * 2 ^ k) = n ∧ u * 2 ^ k < n ∧ v + u * 2 ^ k ≤ n := by
 have hs := I.sum
 have hv := I.vpos
 have ho := I.odd
 have hrn := I.rn
 simp only at hs hv ho hrn
 have h1 : 1 ≤ r1 := by
  rcases Nat.eq_zero_or_pos r1 with e | e
  ·rw [e, Nat.zero_mul] at er; exact absurd er hr
  ·exact e
 have ho1 : 1 ≤ o := by omega
 have h2 : o * 1 ≤ o * v := Nat.mul_le_mul_left o hv
 have e1 : r * u = r1 * (u * 2 ^ k) := by rw [er, Nat.mul_assoc, Nat.mul_comm (2 ^ k)]
 rw [e1] at hs
 have h3 : 1 * (u * 2 ^ k) ≤ r1 * (u * 2 ^ k) := Nat.mul_le_mul_right _ h1
 have h4 : r1 * 1 ≤ r1 * 2 ^ k := Nat.mul_le_mul_left r1 (Nat.two_pow_pos k)
 have h5 : 1 * v ≤ o * v := Nat.mul_le_mul_right _ ho1
 refine ⟨h1, ho1, by omega, by omega, hs, by omega, by omega⟩
theorem cg_scale {n x y : Nat} (h : Cg n x y) (k : Nat) : Cg n (x * 2 ^ k) (y * 2 ^ k) := h.mulR _
theorem WI.conf {n a o r u v h k r1 : Nat} {t : Bool} (I : WI n a ⟨o, r, u, v, h, t⟩) (er : r = r1 * 2 ^ k) :
  (if t = true then Cg n (o * 2 ^ (h + k)) (u * 2 ^ k * a) else Cg n (o * 2 ^ (h + k) + u * 2 ^ k * a) 0) ∧ (if t = true then Cg n (r1 * 2 ^ (h + k) + v * a) 0 else Cg n (r1 * 2 ^ (h + k)) (v * a)) := by
 have h1 := I.c1
 have h2 := I.c2
 simp only at h1 h2
 have e1 : o * 2 ^ (h + k) = o * 2 ^ h * 2 ^ k := by rw [Nat.pow_add, Nat.mul_assoc]
 have e2 : u * 2 ^ k * a = u * a * 2 ^ k := Nat.mul_right_comm ..
 have e3 : r1 * 2 ^ (h + k) = r * 2 ^ h := by rw [er, Nat.pow_add, Nat.mul_assoc, Nat.mul_comm (2 ^ h)]
 rw [e1, e2, e3]
 refine ⟨?_, h2⟩
 cases t with
 | true => exact cg_scale h1 k
 | false =>
  have h3 := cg_scale h1 k
  rw [Nat.zero_mul, Nat.add_mul] at h3
  exact h3
theorem WI.next {n a o r u v h k r1 : Nat} {t : Bool} (I : WI n a ⟨o, r, u, v, h, t⟩) (hr : r ≠ 0) (er : r = r1 * 2 ^ k) (h1 : r1 % 2 = 1) :
  (r1 < o → WI n a ⟨r1, o - r1, v, u * 2 ^ k + v, h + k, !t⟩) ∧ (¬ r1 < o → WI n a ⟨o, r1 - o, u * 2 ^ k, v + u * 2 ^ k, h + k, t⟩) := by
 obtain ⟨p1, p2, p3, p4, p5, p6, p7⟩ := I.facts hr er
 obtain ⟨q1, q2⟩ := I.conf er
 have hv := I.vpos
 have ho := I.odd
 have hg := I.gcd
 have hb := I.hb
 simp only at hv ho hg hb
 rw [er, gcd_halve ho] at hg
 have eb : 2 ^ (h + k) * (o * r1) = 2 ^ h * (o * r) := by
  rw [er, Nat.pow_add]; simp only [Nat.mul_assoc, Nat.mul_comm, Nat.mul_left_comm]
 have hb2 : 2 ^ (h + k) * (o * r1) ≤ n * n := by rw [eb]; exact hb
 have hor : 1 ≤ o * r1 := Nat.mul_pos p2 p1
 have hb1 : 2 ^ (h + k) ≤ n * n := Nat.le_trans (by have := Nat.mul_le_mul_left (2 ^ (h + k)) hor; omega) hb2
 generalize hH : 2 ^ (h + k) = H at q1 q2 hb2 hb1
 generalize hU : u * 2 ^ k = U at q1 q2 p5 p6 p7 ⊢
 constructor
 ·intro hl
  refine ⟨h1, ?_, ?_, by show 1 ≤ U + v; omega, by show o - r1 ≤ n; omega, ?_, ?_, by show 2 ^ (h + k) ≤ n * n; rw [hH]; exact hb1, ?_, ?_⟩
  ·show r1 * (U + v) + (o - r1) * v = n
   have e : r1 * v + (o - r1) * v = o * v := by rw [← Nat.add_mul, show r1 + (o - r1) = o by omega]
   rw [Nat.mul_add]; omega
  ·show v < n
   rcases Nat.eq_zero_or_pos U with e | e
   ·rw [e, Nat.mul_zero, Nat.add_zero] at p5
    have : 2 * v ≤ o * v := Nat.mul_le_mul_right _ (by omega)
    omega
   ·have h5 : 1 * v ≤ o * v := Nat.mul_le_mul_right _ p2
    have h6 : 1 * 1 ≤ r1 * U := Nat.mul_le_mul p1 e
    omega
  ·show Nat.gcd r1 (o - r1) = Nat.gcd n a
   rw [gcd_less (by omega), hg]
  ·show 2 ^ (h + k) * (r1 * (o - r1)) ≤ n * n
   rw [hH]
   refine Nat.le_trans (Nat.mul_le_mul_left H ?_) hb2
   rw [Nat.mul_comm o r1]
   exact Nat.mul_le_mul_left r1 (by omega)
  ·cases t with
   | true =>
    show Cg n (r1 * 2 ^ (h + k) + v * a) 0
    rw [hH]; exact q2
   | false =>
    show Cg n (r1 * 2 ^ (h + k)) (v * a)
    rw [hH]; exact q2
  ·have e : (o - r1) * H + r1 * H = o * H := by rw [← Nat.add_mul, show o - r1 + r1 = o by omega]
   cases t with
   | true =>
    show Cg n ((o - r1) * 2 ^ (h + k)) ((U + v) * a)
    rw [hH, Nat.add_mul]
    have s1 : Cg n ((o - r1) * H + (r1 * H + v * a)) ((o - r1) * H + 0) := Cg.addL _ q2
    rw [Nat.add_zero, ← Nat.add_assoc, e] at s1
    exact s1.symm.trans (Cg.addR _ q1)
   | false =>
    show Cg n ((o - r1) * 2 ^ (h + k) + (U + v) * a) 0
    rw [hH, Nat.add_mul]
    have s1 : Cg n ((o - r1) * H + U * a + r1 * H) ((o - r1) * H + U * a + v * a) := Cg.addL _ q2
    have e2 : (o - r1) * H + U * a + r1 * H = o * H + U * a := by omega
    rw [e2] at s1
    have s2 := s1.symm.trans q1
    rwa [Nat.add_assoc] at s2
 ·intro hl
  refine ⟨ho, ?_, p6, by show 1 ≤ v + U; omega, by show r1 - o ≤ n; omega, ?_, ?_, by show 2 ^ (h + k) ≤ n * n; rw [hH]; exact hb1, ?_, ?_⟩
  ·show o * (v + U) + (r1 - o) * U = n
   have e : o * U + (r1 - o) * U = r1 * U := by rw [← Nat.add_mul, show o + (r1 - o) = r1 by omega]
   rw [Nat.mul_add]; omega
  ·show Nat.gcd o (r1 - o) = Nat.gcd n a
   rw [gcd_less (by omega), Nat.gcd_comm, hg]
  ·show 2 ^ (h + k) * (o * (r1 - o)) ≤ n * n
   rw [hH]
   exact Nat.le_trans (Nat.mul_le_mul_left H (Nat.mul_le_mul_left o (by omega))) hb2
  ·cases t with
   | true =>
    show Cg n (o * 2 ^ (h + k)) (U * a)
    rw [hH]; exact q1
   | false =>
    show Cg n (o * 2 ^ (h + k) + U * a) 0
    rw [hH]; exact q1
  ·have e : (r1 - o) * H + o * H = r1 * H := by rw [← Nat.add_mul, show r1 - o + o = r1 by omega]
   cases t with
   | true =>
    show Cg n ((r1 - o) * 2 ^ (h + k) + (v + U) * a) 0
    rw [hH, Nat.add_mul]
    have s1 : Cg n ((r1 - o) * H + v * a + o * H) ((r1 - o) * H + v * a + U * a) := Cg.addL _ q1
    have e2 : (r1 - o) * H + v * a + o * H = r1 * H + v * a := by omega
    rw [e2] at s1
    have s2 := s1.symm.trans q2
    rwa [Nat.add_assoc] at s2
   | false =>
    show Cg n ((r1 - o) * 2 ^ (h + k)) ((v + U) * a)
    rw [hH, Nat.add_mul]
    have s1 : Cg n ((r1 - o) * H + (o * H + U * a)) ((r1 - o) * H + 0) := Cg.addL _ q1
    rw [Nat.add_zero, ← Nat.add_assoc, e] at s1
    exact s1.symm.trans (Cg.addR _ q2)
/-- What is left when the walk ends. -/
def dv (n a i : Nat) : Nat := a * hf n ^ i % n
theorem end_true {n a o u v h : Nat} (ok : Ok n) (I : WI n a ⟨o, 0, u, v, h, true⟩) (ho : o = 1) : dv n u h * a % n = 1 := by
 have h1 := I.c1
 simp only [if_true] at h1
 rw [ho, Nat.one_mul] at h1
 have s : Cg n (dv n u h * a) 1 := by
  have s1 : Cg n (dv n u h * a) (u * hf n ^ h * a) := (Cg.mod _ _).mulR a
  rw [Nat.mul_right_comm] at s1
  exact s1.trans ((h1.symm.mulR _).trans (hf_pow n h ok.odd))
 unfold Cg at s
 rw [s, Nat.mod_eq_of_lt (by have := ok.three; omega)]
theorem end_false {n a o u v h : Nat} (ok : Ok n) (I : WI n a ⟨o, 0, u, v, h, false⟩) (ho : o = 1) : dv n (subm n 0 u) h * a % n = 1 := by
 have h1 := I.c1
 simp only [Bool.false_eq_true, if_false] at h1
 rw [ho, Nat.one_mul] at h1
 have hu := I.un
 simp only at hu
 have h2 : Cg n (subm n 0 u * a) (2 ^ h) := by
  have e1 : Cg n (subm n 0 u + u) 0 := by
   unfold subm
   rw [Nat.zero_add, Nat.mod_eq_of_lt hu]
   refine ((Cg.mod n (n - u)).addR u).trans ?_
   rw [show n - u + u = 1 * n by omega]
   exact Cg.zero n 1
  have e2 := e1.mulR a
  rw [Nat.zero_mul, Nat.add_mul] at e2
  have e3 : Cg n (subm n 0 u * a + (u * a + 2 ^ h)) (subm n 0 u * a + 0) := Cg.addL _ (by rw [Nat.add_comm]; exact h1)
  rw [Nat.add_zero, ← Nat.add_assoc] at e3
  have e4 := e2.addR (2 ^ h)
  rw [Nat.zero_add] at e4
  exact e3.symm.trans e4
 have s : Cg n (dv n (subm n 0 u) h * a) 1 := by
  have s1 : Cg n (dv n (subm n 0 u) h * a) (subm n 0 u * hf n ^ h * a) := (Cg.mod _ _).mulR a
  rw [Nat.mul_right_comm] at s1
  exact s1.trans ((h2.mulR _).trans (hf_pow n h ok.odd))
 unfold Cg at s
 rw [s, Nat.mod_eq_of_lt (by have := ok.three; omega)]
theorem WI.hlt {n a : Nat} {z : WS} (ok : Ok n) (I : WI n a z) : z.h < 768 := by
 have h1 := I.hb1
 have h2 := ok.top
 obtain ⟨m, hm, e⟩ := big_pow
 rcases Nat.lt_or_ge z.h 768 with h' | h'
 ·exact h'
 ·have h3 : 2 ^ (64 * m + 64 * m) ≤ 2 ^ z.h := Nat.pow_le_pow_right (by decide) (by omega)
  rw [Nat.pow_add, ← e] at h3
  have h4 : n * n < big * big := Nat.mul_lt_mul_of_lt_of_lt ok.big ok.big
  omega
end Rg
end Go.Proofs.YtacicklddhehaaaGreatDoor
end
