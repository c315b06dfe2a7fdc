/- Texts of the proof, joined. -/
import Derived.Test.YtfnmahjdkmgdkaaDoorP2
section
namespace Go.Proofs.YtfnmahjdkmgdkaaDoor
open Go.RowKit
namespace Rg
section
variable {P : Program} {ops : Array Oper} {ks : List Kind} {a₀ : Act} {w₀ : World} {Q : Exit → Act → World → Prop}
theorem fill_off (γ : Nat → Nat) (d : Nat) : ∀ (os : List Oper) (ks : List Kind) (a : Act) (i : Nat), (∀ (j : Nat) (o : Oper), os[j]? = some o → o.dst ≠ some d) → (fill γ i os ks a).tmps[d]? = a.tmps[d]?
  | [], _, _, _, _ => rfl
  | _ :: _, [], _, _, _ => rfl
  | o :: os, k :: ks, a, i, h => by
    show (fill γ (i + 1) os ks (a.put o.dst (k.val γ i))).tmps[d]? = _
    rw [fill_off γ d os ks _ (i + 1) (fun j o' hj => h (j + 1) o' (by simpa using hj))]
    have h0 := h 0 o rfl
    cases hd : o.dst with
    | none => rfl
    | some t =>
      rw [hd] at h0
      simp only [Act.put, Array.getElem?_setIfInBounds]
      rw [if_neg (fun e => h0 (by rw [e]))]
theorem put_comm (a : Act) (d t : Nat) (v u : Value) (h : t ≠ d) : (a.put (some d) v).put (some t) u = (a.put (some t) u).put (some d) v := by
  simp only [Act.put, Act.mk.injEq, and_true]
  exact Array.setIfInBounds_comm _ _ (Ne.symm h)
theorem fill_put (γ : Nat → Nat) (d : Nat) (v : Value) : ∀ (os : List Oper) (ks : List Kind) (a : Act) (i : Nat), (∀ (j : Nat) (o : Oper), os[j]? = some o → o.dst ≠ some d) → fill γ i os ks (a.put (some d) v) = (fill γ i os ks a).put (some d) v
  | [], _, _, _, _ => rfl
  | _ :: _, [], _, _, _ => rfl
  | o :: os, k :: ks, a, i, h => by
    show fill γ (i + 1) os ks ((a.put (some d) v).put o.dst (k.val γ i)) = (fill γ (i + 1) os ks (a.put o.dst (k.val γ i))).put (some d) v
    have h0 := h 0 o rfl
    rw [← fill_put γ d v os ks _ (i + 1) (fun j o' hj => h (j + 1) o' (by simpa using hj))]
    cases hd : o.dst with
    | none => rfl
    | some t => rw [put_comm a d t v _ (fun e => by rw [hd, e] at h0; exact h0 rfl)]
theorem rest_anyU {full : Array Oper} (p : Nat) (hup : ∀ {i : Nat} {o : Oper}, full[i]? = some o → ∀ e ∈ o.after, Region.binds .any e = true → e.on < i)
    (hwt : ∀ {i : Nat} {o : Oper}, full[i]? = some o → p ≤ i → ∀ j, j < i → waitsT full 12 o j = true) : ∀ (m fuel q : Nat) (l : Array Bool) (a : Act) (w : World), q + m = full.size → p ≤ q → l.size = full.size → m ≤ fuel → Closed full l →
      (∀ i, i < q → l.getD i false = true) → (∀ i, q ≤ i → i < full.size → l.getD i true = false) → wpOps P full Q (List.range' q m) a w → wpAny P .any full Q fuel l a w := by
  intro m
  induction m with
  | zero =>
    intro fuel q l a w hq hpq hsz hfu hcl hl hu h
    have hr : Region.ready .any full l = [] := by
      refine List.eq_nil_iff_forall_not_mem.2 fun i hi => ?_
      obtain ⟨h1, o, ho, _⟩ := mem_ready.1 hi
      have h2 := hl i (by have := (Array.getElem?_eq_some_iff.1 ho).1; omega)
      rw [(getD_same h1).1] at h2
      cases h2
    have hQ : Q .normal a w := h
    cases fuel with
    | zero => exact ⟨hr, hQ⟩
    | succ f => exact ⟨fun _ => hQ, by rw [hr]; simp⟩
  | succ m ih =>
    intro fuel q l a w hq hpq hsz hfu hcl hl hu h
    cases fuel with
    | zero => omega
    | succ f =>
      have hqs : q < full.size := by omega
      have hqr : q ∈ Region.ready .any full l := mem_ready.2 ⟨hu q (Nat.le_refl _) hqs, full[q], Array.getElem?_eq_getElem hqs, fun e he hb => hl _ (hup (Array.getElem?_eq_getElem hqs) e he hb)⟩
      refine ⟨fun hr => absurd hqr (by rw [hr]; simp), fun i hi => ?_⟩
      obtain ⟨hun, o, ho, hedge⟩ := mem_ready.1 hi
      have hilt : i < full.size := (Array.getElem?_eq_some_iff.1 ho).1
      have hiq : i = q := by
        rcases Nat.lt_trichotomy i q with h' | h' | h'
        · have h2 := hl i h'
          rw [(getD_same hun).1] at h2
          cases h2
        · exact h'
        · have h2 := waitsT_spec hcl 12 o (hwt ho (by omega) q h') hedge
          rw [(getD_same (hu q (Nat.le_refl _) hqs)).1] at h2
          cases h2
      subst hiq
      rw [List.range'_succ, wpOps_cons] at h
      refine wpOp_mono (fun a' w' h' => ?_) h
      refine ih f (i + 1) _ a' w' (by omega) (by omega) (by simp [hsz]) (by omega) (hcl.step ho hedge) (fun j hj => ?_) (fun j hj hj2 => ?_) h'
      · rcases Nat.lt_or_ge j i with h2 | h2
        · exact getD_true (hl j h2)
        · have : j = i := by omega
          subst this
          exact (getD_same hun).2
      · rw [getD_set_ne true (by omega)]
        exact hu j (by omega) hj2
theorem after_putU {full : Array Oper} {n p : Nat} (hO : Orderly ops ks n) (hn : n = a₀.tmps.size) (hp : ops.size = p) (hpf : p + 1 ≤ full.size) (hfull : ∀ i, i < p → full[i]? = ops[i]?) (hgd : ∀ {i : Nat} {o : Oper} {g : Nat} {b : Bool}, ops[i]? = some o → o.guard = some (g, b) → g < p)
    (hup : ∀ {i : Nat} {o : Oper}, full[i]? = some o → ∀ e ∈ o.after, Region.binds .any e = true → e.on < i)
    (hwt : ∀ {i : Nat} {o : Oper}, full[i]? = some o → p + 1 ≤ i → ∀ j, j < i → waitsT full 12 o j = true)
    {late : List Nat} (hlate : LateOk P ops ks (fun γ => fill γ 0 ops.toList ks a₀) late) {γ : Nat → Nat} {w : World} (hQ : wpOps P full Q (List.range' (p + 1) (full.size - (p + 1))) (fill γ 0 ops.toList ks a₀) w) :
    ∀ (fuel : Nat) (l : Array Bool) (a : Act), l.size = full.size → l.toList.count false ≤ fuel → Closed full l → (∀ i, i ≤ p → l.getD i true = false → i ∈ late) → (∀ i, p + 1 ≤ i → i < full.size → l.getD i true = false) → Agree ops ks a₀ l γ a → wpAny P .any full Q fuel l a w := by
  intro fuel
  induction fuel with
  | zero =>
    intro l a hsz hc hcl hu ht hA
    have hall : ∀ i, i < full.size → l.getD i false = true := fun i hi => by
      cases hb : l.getD i true with
      | false => have := count_set hb; omega
      | true =>
        have hi' : i < l.size := by omega
        simpa [hi'] using hb
    rw [hA.whole (fun i hi => hall i (by omega))]
    have h0 := tail_count full.size (full.size - (p + 1)) l hsz (by omega) (fun i hi1 hi2 => ht i (by omega) hi2)
    exact rest_anyU (p + 1) hup hwt (full.size - (p + 1)) 0 (p + 1) l _ w (by omega) (Nat.le_refl _) hsz (by omega) hcl (fun i hi => hall i (by omega)) ht hQ
  | succ fuel ih =>
    intro l a hsz hc hcl hu ht hA
    by_cases hall : ∀ i, i < p + 1 → l.getD i false = true
    · rw [hA.whole (fun i hi => hall i (by omega))]
      have h0 := tail_count full.size (full.size - (p + 1)) l hsz (by omega) (fun i hi1 hi2 => ht i (by omega) hi2)
      exact rest_anyU (p + 1) hup hwt (full.size - (p + 1)) (fuel + 1) (p + 1) l _ w (by omega) (Nat.le_refl _) hsz (by omega) hcl hall ht hQ
    · have hex : ∃ x, x < p + 1 ∧ l.getD x false = false := by
        apply Classical.byContradiction
        intro hno
        apply hall
        intro i hi
        cases hb : l.getD i false with
        | true => rfl
        | false => exact absurd ⟨i, hi, hb⟩ hno
      obtain ⟨x, hx, hxf⟩ := hex
      refine ⟨fun hr => ?_, fun i hi => ?_⟩
      · have := ready_all hup hsz hr x (by omega)
        rw [hxf] at this
        cases this
      · obtain ⟨hun, o, ho, hedge⟩ := mem_ready.1 hi
        have hilt : i < full.size := (Array.getElem?_eq_some_iff.1 ho).1
        have hip1 : i < p + 1 := by
          rcases Nat.lt_or_ge i (p + 1) with h' | h'
          · exact h'
          · have := waitsT_spec hcl 12 o (hwt ho h' x (by omega)) hedge
            rw [hxf] at this
            cases this
        obtain ⟨o', v, ho', hk, hxq⟩ := hlate.at (hu i (by omega) hun)
        have hip : i < p := by rw [← hp]; exact (Array.getElem?_eq_some_iff.1 ho').1
        have hof := ho
        rw [hfull i hip, ho'] at ho
        injection ho with ho
        subst ho
        obtain ⟨he, hw0⟩ := hA.sees hO ho' hedge
        have hy : ∀ ts, Region.wanted o' (yielded full ts) = Region.wanted o' (yielded ops ts) := fun ts => by
          unfold Region.wanted
          cases hg : o'.guard with
          | none => rfl
          | some gw =>
            obtain ⟨g, want⟩ := gw
            have : yielded full ts g = yielded ops ts g := by unfold yielded; rw [hfull g (hgd ho' hg)]
            simp only [this]
        have hc' := count_set hun
        refine wpOp_step hof (fun K' hK => ?_)
        rw [hy, hw0, if_pos (hxq γ).1]
        unfold Oper.wp
        rw [he, (hxq γ).2 w]
        refine hK _ _ (ih _ _ (by simp [hsz]) (by omega) (hcl.step hof hedge) (fun j hj hj2 => ?_) (fun j hj hj2 => ?_) (hA.step hO hn ho' hk (fun _ _ _ _ => rfl)))
        · by_cases e : i = j
          · subst e
            have hi' : i < l.size := by omega
            simp [hi'] at hj2
          · rw [getD_set_ne true e] at hj2
            exact hu j hj hj2
        · rw [getD_set_ne true (by omega)]
          exact ht j hj hj2
theorem first_enter {full : Array Oper} {n p : Nat} {op : Oper} {d : Nat} {v : Value} (hO : Orderly ops ks n) (hn : n = a₀.tmps.size) (hL : LaidOk ks ks) {S : World → Prop} (hS : ∀ w, Below w₀.heap.size w₀ w → S w)
    (hp : ops.size = p) (hpf : p + 1 ≤ full.size) (hfull : ∀ i, i < p → full[i]? = ops[i]?) (hgd : ∀ {i : Nat} {o : Oper} {g : Nat} {b : Bool}, ops[i]? = some o → o.guard = some (g, b) → g < p)
    (hup : ∀ {i : Nat} {o : Oper}, full[i]? = some o → ∀ e ∈ o.after, Region.binds .any e = true → e.on < i)
    (hop : full[p]? = some op) (hdst : op.dst = some d) (hdn : d < n) (hdo : ∀ (j : Nat) (oj : Oper), ops[j]? = some oj → oj.dst ≠ some d) (hgu : op.guard = none) (hsel : ∀ cs b, op.op ≠ .select cs b)
    {late : List Nat} (hwp : ∀ j, j < p → waitsT full 12 op j = true ∨ j ∈ late) (hlook : ∀ d ∈ op.looksAt full, ∀ j oj, ops[j]? = some oj → oj.dst = some d → waitsT full 12 op j = true)
    (hwt : ∀ {i : Nat} {o : Oper}, full[i]? = some o → p + 1 ≤ i → ∀ j, j < i → waitsT full 12 o j = true)
    (hlate : LateOk P ops ks (fun γ => fill γ 0 ops.toList ks (a₀.put (some d) v)) late)
    (hops : AllOk P ops S (fun γ => fill γ 0 ops.toList ks a₀) ops.toList ks)
    (hend : ∀ γ w l, Mem ks w₀ l γ w → (∀ i, i < p → l.getD i false = true) → ∃ (f : FuncId) (args : Array Value) (R : World → Prop), (execOp (fill γ 0 ops.toList ks a₀).eval op).run P w = .ok (.enter f args) w ∧ Calls P f args w (fun e w' => e = .returned v ∧ R w') ∧ ∀ w', R w' → wpOps P full Q (List.range' (p + 1) (full.size - (p + 1))) (fill γ 0 ops.toList ks (a₀.put (some d) v)) w') :
    ∀ (fuel : Nat) (l : Array Bool) (γ : Nat → Nat) (a : Act) (w : World), l.size = full.size → l.toList.count false ≤ fuel → Closed full l → (∀ i, p ≤ i → i < full.size → l.getD i true = false) → Agree ops ks a₀ l γ a → Mem ks w₀ l γ w → wpAny P .any full Q fuel l a w := by
  intro fuel
  induction fuel with
  | zero =>
    intro l γ a w hsz hc hcl ht hA hM
    have := count_set (ht p (Nat.le_refl _) (by omega))
    omega
  | succ fuel ih =>
    intro l γ a w hsz hc hcl ht hA hM
    have hpu := ht p (Nat.le_refl _) (by omega)
    refine ⟨fun hr => ?_, fun i hi => ?_⟩
    · have := ready_all hup hsz hr p (by omega)
      rw [(getD_same hpu).1] at this
      cases this
    · obtain ⟨hun, o, ho, hedge⟩ := mem_ready.1 hi
      have hilt : i < full.size := (Array.getElem?_eq_some_iff.1 ho).1
      have hc' := count_set hun
      have hip1 : i < p + 1 := by
        rcases Nat.lt_or_ge i (p + 1) with h' | h'
        · exact h'
        · have := waitsT_spec hcl 12 o (hwt ho h' p (by omega)) hedge
          rw [(getD_same hpu).1] at this
          cases this
      by_cases hip : i = p
      · subst hip
        have ho2 := ho
        rw [hop] at ho
        injection ho with ho
        subst ho
        have hbefore : ∀ j, j < i → j ∉ late → l.getD j false = true := fun j hj hnl => by
          rcases hwp j hj with h | h
          · exact waitsT_spec hcl 12 _ h hedge
          · exact absurd h hnl
        obtain ⟨l', hM', hs', hl1, hl2⟩ := mem_late hlate hM
        have hfin : ∀ j, j < i → l'.getD j false = true := fun j hj => by
          by_cases h : j ∈ late
          · exact hl2 j h (by omega)
          · exact hl1 j (hbefore j hj h)
        obtain ⟨f, args, R, hx, hcall, hQ⟩ := hend γ w l' hM' hfin
        have he := see_all (full := full) hA hsel (fun d hd j oj hj hdj => waitsT_spec hcl 12 _ (hlook d hd j oj hj hdj) hedge)
        refine wpOp_step hop (fun K' hK => ?_)
        have hwn : Region.wanted op (yielded full a.tmps) = true := by unfold Region.wanted; rw [hgu]
        rw [if_pos hwn]
        unfold Oper.wp
        rw [he, hx]
        have hA' : Agree ops ks (a₀.put (some d) v) (l.setIfInBounds i true) γ (a.put op.dst v) := by
          rw [hdst]
          refine ⟨by rw [put_defers', put_defers']; exact hA.defers, by rw [put_size, put_size]; exact hA.size, fun t ht => ?_⟩
          by_cases e : t = d
          · subst e
            rw [fill_off γ t ops.toList ks _ 0 (fun j' oj hj => hdo j' oj (by simpa using hj))]
            simp only [Act.put, Array.getElem?_setIfInBounds]
            rw [if_pos trivial, if_pos trivial, hA.size]
          · have h0 := hA.slots t (fun j oj hj hdj => by
              have h1 := ht j oj hj hdj
              have hj' : j < i := by rw [← hp]; exact (Array.getElem?_eq_some_iff.1 hj).1
              rwa [getD_set_ne false (by omega)] at h1)
            rw [fill_put γ d v ops.toList ks a₀ 0 (fun j' oj hj => hdo j' oj (by simpa using hj))]
            simp only [Act.put, Array.getElem?_setIfInBounds]
            rw [if_neg (fun h => e h.symm), if_neg (fun h => e h.symm)]
            exact h0
        refine Calls.mono hcall ?_
        rintro _ w1 ⟨rfl, hR⟩
        refine hK _ _ (after_putU (a₀ := a₀.put (some d) v) hO (by rw [put_size]; exact hn) hp hpf hfull hgd hup hwt hlate (hQ w1 hR) fuel _ _ (by simp [hsz]) (by omega) (hcl.step ho2 hedge) (fun j hj hj2 => ?_) (fun j hj hj2 => ?_) hA')
        · by_cases e : i = j
          · subst e
            have hi' : i < l.size := by omega
            simp [hi'] at hj2
          · rw [getD_set_ne true e] at hj2
            apply Classical.byContradiction
            intro hnl
            have := hbefore j (by omega) hnl
            rw [(getD_same hj2).1] at this
            cases this
        · rw [getD_set_ne true (by omega)]
          exact ht j (by omega) hj2
      · have hlt : i < p := by omega
        have ho' : ops[i]? = some o := by rw [← hfull i hlt]; exact ho
        refine kind_step hO hn hL hS hfull hgd hops hA hM hlt ho' hun hedge (fun γ' a' w' hA' hM' => ?_)
        exact ih _ γ' a' w' (by simp [hsz]) (by omega) (hcl.step ho hedge) (fun j hj hj2 => by rw [getD_set_ne true (by omega)]; exact ht j hj hj2) hA' hM'
/-- What is to be looked up of the whole region. -/
def enterly (full : Array Oper) (p d n : Nat) (late : List Nat) : Bool :=
  eachOp full (fun i o => o.after.all fun e => !Region.binds .any e || decide (e.on < i)) && decide (p + 1 ≤ full.size) && Region.noSelect full &&
  (match full[p]? with
   | none => false
   | some op => op.dst == some d && op.guard.isNone && ((List.range p).all fun j => waitsT full 12 op j || late.contains j) && (op.looksAt full).all fun d => eachOp full fun j oj => oj.dst != some d || waitsT full 12 op j || decide (p ≤ j)) &&
  eachOp full (fun i o => decide (i < p + 1) || (List.range i).all fun j => waitsT full 12 o j) && decide (d < n) && eachOp full (fun j oj => decide (p ≤ j) || oj.dst != some d)
/-- **The law of such a region.** -/
theorem walk_enter {full : Array Oper} {a : Act} {w : World} {id : Nat} (hm : P.follows .mixedOrders = true) (p : Nat) (late : List Nat) (ks : List Kind) (S : World → Prop) (pre : List Oper) (F F' : (Nat → Nat) → Act) (op : Oper) (d : Nat) (v : Value) (hpre : full.toList.take p = pre)
    (hF : ∀ γ, fill γ 0 pre ks a = F γ) (hF' : ∀ γ, fill γ 0 pre ks (a.put (some d) v) = F' γ) (hor : (orderly pre.toArray ks a.tmps.size && guarded pre.toArray p && enterly full p d a.tmps.size late) = true) (hop : full[p]? = some op) (hL : LaidOk ks ks) (hS : ∀ w', Below w.heap.size w w' → S w')
    (hops : AllOk P pre.toArray S F pre ks) (hlate : LateOk P pre.toArray ks F' late)
    (hend : ∀ γ w' l, Mem ks w l γ w' → (∀ i, i < p → l.getD i false = true) → ∃ (f : FuncId) (args : Array Value) (R : World → Prop), (execOp (F γ).eval op).run P w' = .ok (.enter f args) w' ∧ Calls P f args w' (fun e w'' => e = .returned v ∧ R w'') ∧ ∀ w'', R w'' → wpOps P full Q (List.range' (p + 1) (full.size - (p + 1))) (F' γ) w'') :
    (Code.region id full true).wp P Q a w := by
  subst hpre
  obtain rfl : (fun γ => fill γ 0 (full.toList.take p) ks a) = F := funext hF
  obtain rfl : (fun γ => fill γ 0 (full.toList.take p) ks (a.put (some d) v)) = F' := funext hF'
  simp only [Bool.and_eq_true] at hor
  obtain ⟨⟨h1, h2⟩, h3⟩ := hor
  unfold enterly at h3
  rw [hop] at h3
  simp only [Bool.and_eq_true, decide_eq_true_eq, Option.isNone_iff_eq_none, beq_iff_eq] at h3
  obtain ⟨⟨⟨⟨⟨⟨h5, h6⟩, h7⟩, ⟨⟨h8, h9⟩, h10⟩, h11⟩, h12⟩, h13⟩, h14⟩ := h3
  have hsz : (full.toList.take p).toArray.size = p := by simp; omega
  have hfu : ∀ i, i < p → full[i]? = (full.toList.take p).toArray[i]? := fun i hi => by rw [← take_arr]; exact first_full hi
  refine wp_region_any hm (first_enter (ops := (full.toList.take p).toArray) (Orderly.of h1) rfl hL hS hsz h6 hfu (fun ho hg => guarded_spec h2 ho hg) (fun ho e he hb => ?_) hop h8 h13 (fun j oj hj => ?_) h9 (fun cs b => Region.noSelect_spec h7 p op cs b hop) (late := late) (fun j hj => ?_) (fun d hd j oj hj hdj => ?_) (fun ho hi j hj => ?_) hlate hops hend full.size _ (fun _ => 0) a w.drew (by simp) (by simp) (Closed.none _ _) (fun i _ hi => none_listed' hi) (start_agree _ _) (start_mem _ _ (Below.refl _ _).drew))
  · have := Array.all_eq_true_iff_forall_mem.1 (eachOp_spec h5 ho) e he
    simpa [hb] using this
  · have hj' : j < p := by rw [← hsz]; exact (Array.getElem?_eq_some_iff.1 hj).1
    have := eachOp_spec h14 (by rw [hfu j hj']; exact hj)
    simp only [Bool.or_eq_true, decide_eq_true_eq, bne_iff_ne, ne_eq] at this
    rcases this with h | h
    · omega
    · exact h
  · have := List.all_eq_true.1 h10 j (List.mem_range.2 hj)
    simpa using this
  · have hj' : j < p := by rw [← hsz]; exact (Array.getElem?_eq_some_iff.1 hj).1
    have := eachOp_spec (List.all_eq_true.1 h11 d hd) (by rw [hfu j hj']; exact hj)
    simp only [hdj, bne_self_eq_false, Bool.false_or, Bool.or_eq_true, decide_eq_true_eq] at this
    rcases this with h | h
    · exact h
    · omega
  · have := eachOp_spec h12 ho
    simp only [Bool.or_eq_true, decide_eq_true_eq] at this
    rcases this with h | h
    · omega
    · exact List.all_eq_true.1 h j (List.mem_range.2 hj)
end
end Rg
end Go.Proofs.YtfnmahjdkmgdkaaDoor
end
section
namespace Go.Proofs.YtfnmahjdkmgdkaaDoor
open Go.RowKit
namespace Rg
theorem ex_shl {ρ : Operand → Value} {o : Oper} {x y : Operand} {a : Int} {k : Nat} {w : World} (ho : o.op = .binOp .shl 22 x y 3) (hx : ρ x = .int .u64 a) (hy : ρ y = .int .i64 ((k : Nat) : Int)) (hk : k ≤ 64) :
    (execOp ρ o).run Tryd.prog w = .ok (.value (.int .u64 (IntKind.u64.wrap (a * 2 ^ k)))) w := by
  simp only [execOp, ho, hx, hy]
  clear ho hx hy
  go_simp
theorem ex_shr {ρ : Operand → Value} {o : Oper} {x y : Operand} {a : Int} {k : Nat} {w : World} (ho : o.op = .binOp .shr 22 x y 3) (hx : ρ x = .int .u64 a) (hy : ρ y = .int .i64 ((k : Nat) : Int)) (hk : k ≤ 64) :
    (execOp ρ o).run Tryd.prog w = .ok (.value (.int .u64 (a / 2 ^ k))) w := by
  simp only [execOp, ho, hx, hy]
  clear ho hx hy
  go_simp
theorem ex_or {ρ : Operand → Value} {o : Oper} {x y : Operand} {a b : Int} {w : World} (ho : o.op = .binOp .or 22 x y 22) (hx : ρ x = .int .u64 a) (hy : ρ y = .int .u64 b) :
    (execOp ρ o).run Tryd.prog w = .ok (.value (.int .u64 (bits .or .u64 a b))) w := by
  simp only [execOp, ho, hx, hy]
  clear ho hx hy
  go_simp
set_option maxHeartbeats 400000 in
theorem guessM_any (h l t : Nat) (hl : l < 18446744073709551616) (ht : t < 18446744073709551616) (w : World) :
    Calls Tryd.prog 135 #[.int .u64 h, .int .u64 l, .int .u64 t] w fun e w' => e = .returned (.int .u64 ((gs h l t : Nat) : Int)) ∧ Below w.heap.size w w' := by
  unfold gs
  by_cases c : t ≤ h
  · rw [if_pos c]
    clear hl ht
    go_enter Tryd.func135, Tryd.ntmps135
    go_wp2
    go_ret
    exact ⟨rfl, Below.refl _ _⟩
  · rw [if_neg c]
    have hc := fun w => div64_any h l t (by omega) ht hl w
    generalize (h * 18446744073709551616 + l) / t = q at hc ⊢
    have HC : Hid _ := hc
    clear hc hl ht
    go_enter Tryd.func135, Tryd.ntmps135
    go_wp2_with (go_at_call 118; refine (HC.out _).mono ?_; rintro e w' ⟨rr, rfl, hb⟩)
    go_ret
    obtain ⟨k, rfl⟩ := hb
    exact ⟨rfl, below_drewN (Below.refl _ _) k⟩
/-- A divisor and what is left, in memory. -/
abbrev lec (b : Nat) (f : Nat → Int) : List Value := [.int .u64 (wd b 0), .int .u64 (wd b 1), .int .u64 (wd b 2), .int .u64 (wd b 3), .int .u64 (wd b 4), .int .u64 (wd b 5), .int .u64 (f 0), .int .u64 (f 1), .int .u64 (f 2), .int .u64 (f 3), .int .u64 (f 4), .int .u64 (f 5)]
theorem lec_hi {b : Nat} {f : Nat → Int} {j : Nat} (hj : j < 6) : (lec b f)[6 + j]? = some (.int .u64 (f j)) := by
  match j, hj with
  | 0, _ => rfl
  | 1, _ => rfl
  | 2, _ => rfl
  | 3, _ => rfl
  | 4, _ => rfl
  | 5, _ => rfl
theorem lec_lo {b : Nat} {f : Nat → Int} {j : Nat} (hj : j < 6) : (lec b f)[0 + j]? = some (.int .u64 (wd b j)) := by
  match j, hj with
  | 0, _ => rfl
  | 1, _ => rfl
  | 2, _ => rfl
  | 3, _ => rfl
  | 4, _ => rfl
  | 5, _ => rfl
theorem lec_put {b : Nat} {f : Nat → Int} {j : Nat} {v : Int} (hj : j < 6) : patch (lec b f) (6 + j) [.int .u64 v] = lec b (upd f j v) := by
  match j, hj with
  | 0, _ => rfl
  | 1, _ => rfl
  | 2, _ => rfl
  | 3, _ => rfl
  | 4, _ => rfl
  | 5, _ => rfl
theorem lec_bd {b : Nat} {f : Nat → Int} {j : Nat} (hj : j < 6) : 6 + j < (lec b f).length := by
  show 6 + j < 12
  omega
theorem lec_congr {b : Nat} {f g : Nat → Int} (h : ∀ j, j < 6 → f j = g j) : lec b f = lec b g := by
  unfold lec
  rw [h 0 (by decide), h 1 (by decide), h 2 (by decide), h 3 (by decide), h 4 (by decide), h 5 (by decide)]
/-! Words of a number that is shifted by at most a word. -/
theorem sh_bits (a n k : Nat) (hn : n ≤ 64) : ((a >>> (64 * (k + 1)) % 2 ^ 64) <<< n) % 2 ^ 64 ||| (a >>> (64 * k) % 2 ^ 64) >>> (64 - n) = (a <<< n) >>> (64 * (k + 1)) % 2 ^ 64 := by
  apply Nat.eq_of_testBit_eq
  intro i
  simp only [Nat.testBit_or, Nat.testBit_mod_two_pow, Nat.testBit_shiftLeft, Nat.testBit_shiftRight]
  by_cases hi : i < 64
  · have e1 : n ≤ 64 * (k + 1) + i := by omega
    by_cases ht : n ≤ i
    · have e2 : 64 * (k + 1) + (i - n) = 64 * (k + 1) + i - n := by omega
      have e3 : i - n < 64 := by omega
      have e4 : ¬ 64 - n + i < 64 := by omega
      simp [hi, ht, e1, e2, e3, e4]
    · have e4 : 64 - n + i < 64 := by omega
      have e5 : 64 * k + (64 - n + i) = 64 * (k + 1) + i - n := by omega
      simp [hi, ht, e1, e4, e5]
  · have e4 : ¬ 64 - n + i < 64 := by omega
    simp [hi, e4]
theorem sh_word (a n k : Nat) (hn : n ≤ 64) : bits .or .u64 (IntKind.u64.wrap (wd a (k + 1) * 2 ^ n)) (wd a k / 2 ^ (64 - n)) = wd (a * 2 ^ n) (k + 1) := by
  rw [wd_shr, wrap_shl, wd_shr, div_shr, wd_shr, ← Nat.shiftLeft_eq, ← sh_bits a n k hn]
  refine bits_or_u64_nat _ _ (Nat.mod_lt _ (by decide)) ?_
  rw [Nat.shiftRight_eq_div_pow]
  exact Nat.lt_of_le_of_lt (Nat.div_le_self _ _) (Nat.mod_lt _ (by decide))
theorem sh_low (a n : Nat) : IntKind.u64.wrap (wd a 0 * 2 ^ n) = wd (a * 2 ^ n) 0 := by
  rw [wd_shr, wrap_shl, wd_shr, Nat.mul_zero, Nat.shiftRight_zero, Nat.shiftRight_zero, Nat.shiftLeft_eq, Nat.mod_mul_mod]
theorem wd_last (a j : Nat) (h : a < 2 ^ (64 * (j + 1))) : wd a j = ((a / 2 ^ (64 * j) : Nat) : Int) := by
  unfold wd
  rw [Nat.mod_eq_of_lt]
  rw [Nat.div_lt_iff_lt_mul (pow_pos' j), Nat.mul_comm, ← pow_step]
  exact h
theorem sh_topj (a n j : Nat) (ha : a < 2 ^ (64 * (j + 1))) (hn : n ≤ 64) : wd a j / 2 ^ (64 - n) = ((a * 2 ^ n / 2 ^ (64 * (j + 1)) : Nat) : Int) := by
  rw [wd_last a j ha, div_shr, Nat.shiftRight_eq_div_pow, Nat.div_div_eq_div_mul]
  congr 1
  have hW : 18446744073709551616 = 2 ^ (64 - n) * 2 ^ n := by
    rw [← Nat.pow_add, Nat.sub_add_cancel hn]
  rw [pow_step j, hW, ← Nat.mul_assoc, Nat.mul_div_mul_right _ _ (Nat.two_pow_pos n)]
theorem big_j (j : Nat) (hj : j = 5) : big = 2 ^ (64 * (j + 1)) := by
  obtain ⟨m, hm, e⟩ := big_pow
  rw [e, show m = j + 1 by omega]
theorem sh_top (a n : Nat) (ha : a < big) (hn : n ≤ 64) : wd a 5 / 2 ^ (64 - n) = ((a * 2 ^ n / big : Nat) : Int) := by
  obtain ⟨j, hj⟩ : ∃ j, j = 5 := ⟨5, rfl⟩
  rw [big_j j hj] at ha ⊢
  rw [← hj]
  exact sh_topj a n j ha hn
/-- What is left, words above the k-th from above shifted. -/
def shf (a n k m : Nat) : Int := if 5 - k < m then wd (a * 2 ^ n) m else wd a m
theorem shf_at {a n k m b : Nat} (hm : m ≤ 5 - k) (h6 : m < 6) : (lec b (shf a n k))[6 + m]? = some (.int .u64 (wd a m)) := by
  rw [lec_hi h6]
  unfold shf
  rw [if_neg (by omega)]
theorem shf_step {a n k b : Nat} {v : Int} (hk : k < 5) (h : v = wd (a * 2 ^ n) (5 - k)) : lec b (upd (shf a n k) (5 - k) v) = lec b (shf a n (k + 1)) := lec_congr fun j _ => by
  unfold upd shf
  by_cases h1 : j = 5 - k
  · subst h1; rw [if_pos rfl, if_pos (by omega), h]
  · rw [if_neg h1]
    by_cases h2 : 5 - k < j
    · rw [if_pos h2, if_pos (by omega)]
    · rw [if_neg h2, if_neg (by omega)]
theorem shf_start (a n b : Nat) : lec b (wd a) = lec b (shf a n 0) := lec_congr fun j hj => by
  unfold shf
  rw [if_neg (by omega)]
theorem lec_put0 {b : Nat} {f : Nat → Int} {v : Int} : patch (lec b f) 6 [.int .u64 v] = lec b (upd f 0 v) := rfl
theorem shf_end (a n b : Nat) : lec b (upd (shf a n 5) 0 (IntKind.u64.wrap (wd a 0 * 2 ^ n))) = lec b (wd (a * 2 ^ n % big)) := lec_congr fun j hj => by
  rw [wd_mod _ _ hj]
  unfold upd shf
  by_cases h1 : j = 0
  · subst h1; rw [if_pos rfl, sh_low]
  · rw [if_neg h1, if_pos (by omega)]
set_option maxHeartbeats 1000000 in
set_option maxRecDepth 100000 in
theorem shift_gen (g b L i : Nat) (hi : i ≤ 64) (w : World) (hm : Mm w [(g, lec b (wd L))]) :
    Calls Tryd.prog 133 #[PT g 0, .int .i64 ((i : Nat) : Int)] w fun e w' => e = .returned (.int .u64 (wd L 5 / 2 ^ (64 - i))) ∧ Mm w' [(g, lec b (wd (L * 2 ^ i % big)))] ∧ Kp g w w' := by
  have H0 : Hid (_ ∧ _) := ⟨hm, Kp.refl g w⟩
  clear hm
  go_enter Tryd.func133, Tryd.ntmps133
  refine wp_seq ?_
  refine walk_seqA 1 [.quiet (.int .u64 0)] (sB H0) ?ho1 ?he1
  case ho1 => exact ak (fun _ => ⟨rfl, fun _ _ => rfl⟩) trivial
  intro γ w1 l hM hl
  have H1 := keepK H0 hM.below
  clear hM hl l γ
  refine rest0 rfl (then_normal (wp_seq ?_))
  refine walk_seqA 1 [.quiet (.int .i64 5)] (sB H1) ?ho2 ?he2
  case ho2 => exact ak (fun _ => ⟨rfl, fun _ _ => rfl⟩) trivial
  intro γ w2 l hM hl
  have H2 := keepK H1 hM.below
  clear hM hl l H1 γ
  refine rest0 rfl (then_normal (wp_seq ?_))
  refine walk_seqA 10 [.quiet (PT g 0), .quiet (.int .i64 5), .quiet (PT g 0), .quiet (PT g 6), .quiet (PT g 11), .quiet (.int .u64 (wd L 5)), .quiet (.int .i64 ((i : Nat) : Int)), .quiet (.int .i64 ((64 - i : Nat) : Int)), .quiet (.int .u64 ((wd L 5) / 2 ^ (64 - i))), .quiet (.int .u64 ((wd L 5) / 2 ^ (64 - i)))] (sB H2) ?ho3 ?he3
  case ho3 => exact ak (fun _ => ⟨rfl, fun _ _ => rfl⟩) (ak (fun _ => ⟨rfl, fun _ _ => rfl⟩) (ak (by refine fun γ => ⟨rfl, fun w' h => ?_⟩; clear h; go_simp) (ak (by refine fun γ => ⟨rfl, fun w' h => ?_⟩; clear h; go_simp) (ak (by refine fun γ => ⟨rfl, fun w' h => ?_⟩; clear h; go_simp) (ak (fun γ => ⟨rfl, fun w' h => ex_load1 h 0 rfl rfl rfl rfl⟩) (ak (fun _ => ⟨rfl, fun _ _ => rfl⟩) (ak (by refine fun γ => ⟨rfl, fun w' h => ?_⟩; clear h; go_simp; rw [IntKind.wrap_i64]; omega) (ak (fun γ => ⟨rfl, fun w' _ => ex_shr rfl rfl rfl (Nat.sub_le 64 i)⟩) (ak (fun _ => ⟨rfl, fun _ _ => rfl⟩) trivial)))))))))
  intro γ w3 l hM hl
  have H3 := keepK H2 hM.below
  clear hM hl l H2 γ
  refine rest0 rfl (then_normal (wp_seq (wp_seq ?_)))
  refine walk_seqA 2 [.quiet (.int .i64 5), .quiet (.int .i64 5)] (sB H3) ?ho4 ?he4
  case ho4 => exact ak (fun _ => ⟨rfl, fun _ _ => rfl⟩) (ak (fun _ => ⟨rfl, fun _ _ => rfl⟩) trivial)
  intro γ w4 l hM hl
  have H4 := keepK H3 hM.below
  clear hM hl l H3 γ
  refine rest0 rfl (then_normal (wp_block ?_))
  refine loop_ghost (α := Nat) (fun k a' w' => ∃ s0 : Nat → Value, a' = ⟨#[PT g 0, .int .i64 ((i : Nat) : Int), undef, undef, .int .u64 0, .int .i64 5, .int .u64 ((wd L 5) / 2 ^ (64 - i)), .int .i64 ((5 - k : Nat) : Int), PT g 0, .int .i64 5, PT g 0, PT g 6, PT g 11, .int .u64 (wd L 5), .int .i64 ((i : Nat) : Int), .int .i64 ((64 - i : Nat) : Int), .int .u64 ((wd L 5) / 2 ^ (64 - i)), .int .i64 5, s0 18, s0 19, s0 20, s0 21, s0 22, s0 23, s0 24, s0 25, s0 26, s0 27, s0 28, s0 29, s0 30, s0 31, s0 32, s0 33, s0 34, s0 35, s0 36, s0 37, s0 38, s0 39, s0 40, s0 41, s0 42, s0 43, s0 44, s0 45, undef, undef, undef, undef, undef, undef, undef, undef, undef, undef, undef], []⟩ ∧ (Mm w' [(g, lec b (shf L i k))] ∧ Kp g w w') ∧ k ≤ 5) (fun k => 5 - k) 0 ?st0 ?rd0
  case st0 => exact ⟨(slotfn [undef, undef, undef, undef, undef, undef, undef, undef, undef, undef, undef, undef, undef, undef, undef, undef, undef, undef, undef, undef, undef, undef, undef, undef, undef, undef, undef, undef, undef, undef, undef, undef, undef, undef, undef, undef, undef, undef, undef, undef, undef, undef, undef, undef, undef, undef]), rfl, ⟨H4.out.1.at0 (shf_start L i b), H4.out.2⟩, by omega⟩
  intro k a' w5 hI
  obtain ⟨s0, rfl, hMB, hk0⟩ := hI
  have H5 : Hid (_ ∧ _) := hMB
  clear hMB H4
  by_cases hlt : k < 5
  · have hrd : True := trivial
    clear hrd
    obtain ⟨m, hm⟩ : ∃ m, 5 - k = m + 1 := ⟨4 - k, by omega⟩
    have hm6 : m + 1 < 6 := by omega
    have hm5 : m < 6 := by omega
    have hk1 : m + 1 ≤ 5 - k := by omega
    have hk2 : m ≤ 5 - k := by omega
    refine wp_seq (wp_seq ?_)
    refine walk_seqA 2 [.quiet (.int .i64 ((5 - k : Nat) : Int)), .quiet (.bool true)] (sB H5) ?ho5 ?he5
    case ho5 => exact ak (fun _ => ⟨rfl, fun _ _ => rfl⟩) (ak (by refine fun γ => ⟨rfl, fun w' h => ?_⟩; clear h; go_simp <;> omega) trivial)
    intro γ w6 l hM hl
    have H6 := keepK H5 hM.below
    clear hM hl l H5 γ
    refine rest0 rfl (then_normal (wp_cond_true rfl ?_))
    refine wp_skip (then_normal ?_)
    refine wp_seq (wp_block ?_)
    refine walk_put (by kernel_rfl) 24 [] [.quiet (PT g 0), .quiet (.int .i64 ((5 - k : Nat) : Int)), .quiet (PT g 0), .quiet (.int .i64 ((5 - k : Nat) : Int)), .quiet (PT g 0), .quiet (PT g 6), .quiet (PT g (6 + (5 - k))), .quiet (.int .u64 (wd L (5 - k))), .quiet (.int .i64 ((i : Nat) : Int)), .quiet (.int .u64 (IntKind.u64.wrap ((wd L (5 - k)) * 2 ^ i))), .quiet (PT g 0), .quiet (.int .i64 ((5 - k : Nat) : Int)), .quiet (.int .i64 ((m : Nat) : Int)), .quiet (PT g 0), .quiet (PT g 6), .quiet (PT g (6 + m)), .quiet (.int .u64 (wd L m)), .quiet (.int .i64 ((i : Nat) : Int)), .quiet (.int .i64 ((64 - i : Nat) : Int)), .quiet (.int .u64 ((wd L m) / 2 ^ (64 - i))), .quiet (.int .u64 (bits .or .u64 (IntKind.u64.wrap ((wd L (5 - k)) * 2 ^ i)) ((wd L m) / 2 ^ (64 - i)))), .quiet (PT g 0), .quiet (PT g 6), .quiet (PT g (6 + (5 - k)))] _ ?pre6 ?F6 _ ?hpre6 (fun γ => ?hF6) (by kernel_rfl) rfl ?hL6 (sB H6) ?ho6 ?hla6 ?he6
    case hpre6 => simp only [tk, tz]; rfl
    case hF6 => simp only [fill, Kind.val, Act.put, sa, sz, ss]; rfl
    case hL6 => exact trivial
    case ho6 =>
      refine ak (fun _ => ⟨rfl, fun _ _ => rfl⟩) ?_
      refine ak (fun _ => ⟨rfl, fun _ _ => rfl⟩) ?_
      refine ak (fun _ => ⟨rfl, fun _ _ => rfl⟩) ?_
      refine ak (fun _ => ⟨rfl, fun _ _ => rfl⟩) ?_
      refine ak (by refine fun γ => ⟨rfl, fun w' h => ?_⟩; clear h; go_simp) ?_
      refine ak (by refine fun γ => ⟨rfl, fun w' h => ?_⟩; clear h; go_simp) ?_
      refine ak (fun γ => ⟨rfl, fun w' _ => ex_indexAddr6 rfl rfl rfl (Nat.lt_of_le_of_lt (Nat.sub_le 5 k) (by decide))⟩) ?_
      refine ak (fun γ => ⟨rfl, fun w' h => ex_load1 h 0 rfl rfl rfl (shf_at (Nat.le_refl _) (Nat.lt_of_le_of_lt (Nat.sub_le 5 k) (by decide)))⟩) ?_
      refine ak (fun _ => ⟨rfl, fun _ _ => rfl⟩) ?_
      refine ak (fun γ => ⟨rfl, fun w' _ => ex_shl rfl rfl rfl hi⟩) ?_
      refine ak (fun _ => ⟨rfl, fun _ _ => rfl⟩) ?_
      refine ak (fun _ => ⟨rfl, fun _ _ => rfl⟩) ?_
      refine ak (by refine fun γ => ⟨rfl, fun w' h => ?_⟩; clear h; go_simp; rw [IntKind.wrap_i64]; omega) ?_
      refine ak (by refine fun γ => ⟨rfl, fun w' h => ?_⟩; clear h; go_simp) ?_
      refine ak (by refine fun γ => ⟨rfl, fun w' h => ?_⟩; clear h; go_simp) ?_
      refine ak (fun γ => ⟨rfl, fun w' _ => ex_indexAddr6 rfl rfl rfl hm5⟩) ?_
      refine ak (fun γ => ⟨rfl, fun w' h => ex_load1 h 0 rfl rfl rfl (shf_at hk2 hm5)⟩) ?_
      refine ak (fun _ => ⟨rfl, fun _ _ => rfl⟩) ?_
      refine ak (by refine fun γ => ⟨rfl, fun w' h => ?_⟩; clear h; go_simp; rw [IntKind.wrap_i64]; omega) ?_
      refine ak (fun γ => ⟨rfl, fun w' _ => ex_shr rfl rfl rfl (Nat.sub_le 64 i)⟩) ?_
      refine ak (fun γ => ⟨rfl, fun w' _ => ex_or rfl rfl rfl⟩) ?_
      refine ak (by refine fun γ => ⟨rfl, fun w' h => ?_⟩; clear h; go_simp) ?_
      refine ak (by refine fun γ => ⟨rfl, fun w' h => ?_⟩; clear h; go_simp) ?_
      refine ak (fun γ => ⟨rfl, fun w' _ => ex_indexAddr6 rfl rfl rfl (Nat.lt_of_le_of_lt (Nat.sub_le 5 k) (by decide))⟩) ?_
      exact trivial
    case hla6 => exact trivial
    intro γ w7 l hM hl
    have H7 := keepK H6 hM.below
    clear hM hl l H6 γ
    refine ⟨_, ex_storeI H7.out.1 0 rfl rfl Tryd.sizeOf22 rfl rfl (lec_bd (Nat.lt_of_le_of_lt (Nat.sub_le 5 k) (by decide))), ?_⟩
    have H8 : Hid (Mm (w7.setCells g (6 + (5 - k)) [.int .u64 (bits .or .u64 (IntKind.u64.wrap ((wd L (5 - k)) * 2 ^ i)) ((wd L m) / 2 ^ (64 - i)))]) [(g, lec b (shf L i (k + 1)))] ∧ Kp g w (w7.setCells g (6 + (5 - k)) [.int .u64 (bits .or .u64 (IntKind.u64.wrap ((wd L (5 - k)) * 2 ^ i)) ((wd L m) / 2 ^ (64 - i)))])) := ⟨by
      have h := H7.out.1.put 0 (off := (6 + (5 - k))) (vs := [.int .u64 (bits .or .u64 (IntKind.u64.wrap ((wd L (5 - k)) * 2 ^ i)) ((wd L m) / 2 ^ (64 - i)))]) rfl (lec_bd (Nat.lt_of_le_of_lt (Nat.sub_le 5 k) (by decide)))
      rw [lec_put (Nat.lt_of_le_of_lt (Nat.sub_le 5 k) (by decide)), shf_step hlt (by rw [hm]; exact sh_word L i m hi)] at h
      exact h, H7.out.2.put (Or.inl rfl)⟩
    clear H7
    generalize hgw : World.setCells _ _ _ _ = w8 at H8 ⊢
    clear hgw
    refine rest0 rfl ?_
    refine block_normal (then_normal ?_)
    refine walk_seqA 2 [.quiet (.int .i64 ((5 - k : Nat) : Int)), .quiet (.int .i64 ((5 - (k + 1) : Nat) : Int))] (sB H8) ?ho7 ?he7
    case ho7 => exact ak (fun _ => ⟨rfl, fun _ _ => rfl⟩) (ak (by refine fun γ => ⟨rfl, fun w' h => ?_⟩; clear h; go_simp; rw [IntKind.wrap_i64]; omega) trivial)
    intro γ w9 l hM hl
    have H9 := keepK H8 hM.below
    clear hM hl l H8 γ
    refine rest_at (l := [2]) rfl ?_
    refine rest_set (d := 7) rfl rfl rfl rfl ?_
    simp only [Act.put, sa, sz, ss]
    refine rest_nil (then_normal ?_)
    exact ⟨k + 1, ⟨(slotfn [undef, undef, undef, undef, undef, undef, undef, undef, undef, undef, undef, undef, undef, undef, undef, undef, undef, undef, .int .i64 ((5 - k : Nat) : Int), .bool true, .int .i64 ((5 - k : Nat) : Int), .int .i64 ((5 - (k + 1) : Nat) : Int), PT g 0, .int .i64 ((5 - k : Nat) : Int), PT g 0, .int .i64 ((5 - k : Nat) : Int), PT g 0, PT g 6, PT g (6 + (5 - k)), .int .u64 (wd L (5 - k)), .int .i64 ((i : Nat) : Int), .int .u64 (IntKind.u64.wrap ((wd L (5 - k)) * 2 ^ i)), PT g 0, .int .i64 ((5 - k : Nat) : Int), .int .i64 ((m : Nat) : Int), PT g 0, PT g 6, PT g (6 + m), .int .u64 (wd L m), .int .i64 ((i : Nat) : Int), .int .i64 ((64 - i : Nat) : Int), .int .u64 ((wd L m) / 2 ^ (64 - i)), .int .u64 (bits .or .u64 (IntKind.u64.wrap ((wd L (5 - k)) * 2 ^ i)) ((wd L m) / 2 ^ (64 - i))), PT g 0, PT g 6, PT g (6 + (5 - k))]), rfl, ⟨H9.out.1, H9.out.2⟩, by omega⟩, by omega⟩
  have hk5 : k = 5 := by omega
  subst hk5
  refine wp_seq (wp_seq ?_)
  refine walk_seqA 2 [.quiet (.int .i64 ((5 - 5 : Nat) : Int)), .quiet (.bool false)] (sB H5) ?ho8 ?he8
  case ho8 => exact ak (fun _ => ⟨rfl, fun _ _ => rfl⟩) (ak (by refine fun γ => ⟨rfl, fun w' h => ?_⟩; clear h; go_simp <;> omega) trivial)
  intro γ w10 l hM hl
  have H10 := keepK H5 hM.below
  clear hM hl l H5 γ
  refine rest0 rfl (then_normal (wp_cond_false rfl ?_))
  refine wp_exit ?_
  repeat refine then_exit ?_
  refine block_exit ?_
  refine then_normal (wp_seq ?_)
  refine walk_put (by kernel_rfl) 10 [] [.quiet (PT g 0), .quiet (PT g 0), .quiet (PT g 6), .quiet (PT g 6), .quiet (.int .u64 (wd L 0)), .quiet (.int .i64 ((i : Nat) : Int)), .quiet (.int .u64 (IntKind.u64.wrap ((wd L 0) * 2 ^ i))), .quiet (PT g 0), .quiet (PT g 6), .quiet (PT g 6)] _ ?pre9 ?F9 _ ?hpre9 (fun γ => ?hF9) (by kernel_rfl) rfl trivial (sB H10) ?ho9 ?hla9 ?he9
  case hpre9 => simp only [tk, tz]; rfl
  case hF9 => simp only [fill, Kind.val, Act.put, sa, sz, ss]; rfl
  case ho9 =>
    refine ak (fun _ => ⟨rfl, fun _ _ => rfl⟩) ?_
    refine ak (by refine fun γ => ⟨rfl, fun w' h => ?_⟩; clear h; go_simp) ?_
    refine ak (by refine fun γ => ⟨rfl, fun w' h => ?_⟩; clear h; go_simp) ?_
    refine ak (by refine fun γ => ⟨rfl, fun w' h => ?_⟩; clear h; go_simp) ?_
    refine ak (fun γ => ⟨rfl, fun w' h => ex_load1 h 0 rfl rfl rfl rfl⟩) ?_
    refine ak (fun _ => ⟨rfl, fun _ _ => rfl⟩) ?_
    refine ak (fun γ => ⟨rfl, fun w' _ => ex_shl rfl rfl rfl hi⟩) ?_
    refine ak (by refine fun γ => ⟨rfl, fun w' h => ?_⟩; clear h; go_simp) ?_
    refine ak (by refine fun γ => ⟨rfl, fun w' h => ?_⟩; clear h; go_simp) ?_
    refine ak (by refine fun γ => ⟨rfl, fun w' h => ?_⟩; clear h; go_simp) ?_
    exact trivial
  case hla9 => exact trivial
  intro γ w11 l hM hl
  have H11 := keepK H10 hM.below
  clear hM hl l H10 γ
  refine ⟨_, ex_storeI H11.out.1 0 rfl rfl Tryd.sizeOf22 rfl rfl (Nat.le_of_ble_eq_true rfl), ?_⟩
  have H12 : Hid (Mm (w11.setCells g 6 [.int .u64 (IntKind.u64.wrap ((wd L 0) * 2 ^ i))]) [(g, lec b (wd (L * 2 ^ i % big)))] ∧ Kp g w (w11.setCells g 6 [.int .u64 (IntKind.u64.wrap ((wd L 0) * 2 ^ i))])) := ⟨by
    have h := H11.out.1.put 0 (off := 6) (vs := [.int .u64 (IntKind.u64.wrap ((wd L 0) * 2 ^ i))]) rfl (Nat.le_of_ble_eq_true rfl)
    rw [lec_put0, shf_end] at h
    exact h, H11.out.2.put (Or.inl rfl)⟩
  clear H11
  generalize hgw : World.setCells _ _ _ _ = w12 at H12 ⊢
  clear hgw
  refine rest0 rfl (then_normal (wp_seq ?_))
  refine walk_seqA 2 [.quiet (.int .u64 ((wd L 5) / 2 ^ (64 - i))), .quiet (.int .u64 ((wd L 5) / 2 ^ (64 - i)))] (sB H12) ?ho10 ?he10
  case ho10 => exact ak (fun _ => ⟨rfl, fun _ _ => rfl⟩) (ak (fun _ => ⟨rfl, fun _ _ => rfl⟩) trivial)
  intro γ w13 l hM hl
  have H13 := keepK H12 hM.below
  clear hM hl l H12 γ
  refine rest0 rfl (then_normal (wp_ret ?_))
  repeat (first | refine then_ret ?_ | refine block_ret ?_)
  refine bodyPost_ret (v := .int .u64 ((wd L 5) / 2 ^ (64 - i))) (by simp [results, Tryd.results133, go_sem, *]) rfl ?_
  exact ⟨rfl, H13.out.1.one 0 rfl, H13.out.2⟩
theorem shiftL_any (g b L i : Nat) (hi : i ≤ 64) (hL : L < big) (w : World) (hm : Mm w [(g, lec b (wd L))]) :
    Calls Tryd.prog 133 #[PT g 0, .int .i64 ((i : Nat) : Int)] w fun e w' => e = .returned (.int .u64 ((L * 2 ^ i / big : Nat) : Int)) ∧ Mm w' [(g, lec b (wd (L * 2 ^ i % big)))] ∧ Kp g w w' := by
  have h := shift_gen g b L i hi w hm
  rw [sh_top L i hL hi] at h
  exact h
end Rg
end Go.Proofs.YtfnmahjdkmgdkaaDoor
end
section
namespace Go.Proofs.YtfnmahjdkmgdkaaDoor
open Go.RowKit
namespace Rg
theorem call43 : ∀ args w, (callFunc 43 args).run Tryd.prog w = .ok (.enter 43 args) w := by intro args w; go_simp
theorem okLt {n : Nat} (ok : Ok n) (x : Nat) : x % n < big := Nat.lt_trans (Nat.mod_lt _ ok.pos) ok.big
theorem pow_is (k : Nat) (h : k = 64 * 6) : 2 ^ k = big := by subst h; exact big_eq.symm
end Rg
end Go.Proofs.YtfnmahjdkmgdkaaDoor
end
section
namespace Go.Proofs.YtfnmahjdkmgdkaaDoor
open Go.RowKit
namespace Rg
theorem call9 : ∀ args w, (callFunc 9 args).run Tryd.prog w = .ok (.enter 9 args) w := by intro args w; go_simp
theorem call11 : ∀ args w, (callFunc 11 args).run Tryd.prog w = .ok (.enter 11 args) w := by intro args w; go_simp
theorem call12 : ∀ args w, (callFunc 12 args).run Tryd.prog w = .ok (.enter 12 args) w := by intro args w; go_simp
theorem call35 : ∀ args w, (callFunc 35 args).run Tryd.prog w = .ok (.enter 35 args) w := by intro args w; go_simp
set_option maxRecDepth 100000 in
theorem reduce_1 (g n o s a : Nat)
    (c0 : ∀ w, Mm w [(g, modx n o s)] → Calls Tryd.prog 35 #[PT g 0] w fun e w' => e = .returned (.bool true) ∧ Below w.heap.size w w')
    (c1 : ∀ w, Calls Tryd.prog 41 #[N a, N n] w fun e w' => e = .returned (.int .i64 (-1)) ∧ Below w.heap.size w w') (w : World) (hm : Mm w [(g, modx n o s)]) :
    Calls Tryd.prog 9 #[PT g 0, N a] w fun e w' => e = .returned (N a) ∧ Below w.heap.size w w' := by
  have H0 : Hid (_ ∧ _) := ⟨hm, Below.refl w.heap.size w⟩
  clear hm
  have C0 : Hid _ := c0
  have C1 : Hid _ := c1
  clear c0 c1
  go_enter Tryd.func9, Tryd.ntmps9
  refine wp_seq ?_
  refine walk_seqA 2 [.made (cells6 a) 24, .made zero6 24] (sB H0) ?ho1 ?he1
  case ho1 => exact ak (fun γ => ⟨rfl, fun w' => ex_box6 rfl rfl⟩) (ak (fun γ => ⟨rfl, fun w' => exec_made6 rfl⟩) trivial)
  intro γ w1 l hM hl
  have M1 : Mm w1 [(γ 0, cells6 a), (γ 1, zero6), (g, modx n o s)] := H0.out.1.grow hM (Nat.le_refl _) hl [0, 1] rfl (by decide)
  have B1 : Below w.heap.size w w1 := H0.out.2.trans ((hM.below).mono H0.out.2.size)
  have o1_0 : Hid (w.heap.size ≤ γ 0) := Nat.le_trans H0.out.2.size (hM.fin (Nat.le_refl _) hl (i := 0) rfl).2.1
  have o1_1 : Hid (w.heap.size ≤ γ 1) := Nat.le_trans H0.out.2.size (hM.fin (Nat.le_refl _) hl (i := 1) rfl).2.1
  clear hM hl l
  generalize γ 0 = γ1_0 at M1 o1_0 ⊢
  generalize γ 1 = γ1_1 at M1 o1_1 ⊢
  clear γ
  have H1 : Hid (_ ∧ _) := ⟨M1, B1⟩
  clear M1 B1
  refine rest0 rfl (then_normal (wp_seq (wp_seq ?_)))
  refine walk_seqA 3 [.quiet (PT g 0), .call (.bool true), .quiet (.bool false)] (sB H1) ?ho2 ?he2
  case ho2 => exact ak (fun _ => ⟨rfl, fun _ _ => rfl⟩) (ak (fun γ => ⟨rfl, fun w' h => ⟨35, #[PT g 0], exec_call rfl call35 rfl (mpn rfl), C0.out w' (h.one 2 rfl)⟩⟩) (ak (by refine fun γ => ⟨rfl, fun w' h => ?_⟩; clear h; go_simp) trivial))
  intro γ w2 l hM hl
  have M2 : Mm w2 [(γ1_0, cells6 a), (γ1_1, zero6), (g, modx n o s)] := H1.out.1.grow hM (Nat.le_refl _) hl [] rfl (by decide)
  have B2 : Below w.heap.size w w2 := H1.out.2.trans ((hM.below).mono H1.out.2.size)
  clear hM hl l H1
  clear γ
  have H2 : Hid (_ ∧ _) := ⟨M2, B2⟩
  clear M2 B2
  refine rest0 rfl (then_normal (wp_cond_false rfl ?_))
  refine wp_skip (then_normal ?_)
  refine wp_seq (wp_seq ?_)
  refine walk_anyA 7 [.quiet (N a), .quiet (PT g 0), .quiet (PT g 0), .quiet (PT g 0), .quiet (N n), .call (.int .i64 (-1)), .quiet (.bool true)] (sB H2) ?ho3 ?he3
  case ho3 => exact ak (fun γ => ⟨rfl, fun w' h => ex_load6 h 0 rfl rfl rfl rfl⟩) (ak (fun _ => ⟨rfl, fun _ _ => rfl⟩) (ak (by refine fun γ => ⟨rfl, fun w' h => ?_⟩; clear h; go_simp) (ak (by refine fun γ => ⟨rfl, fun w' h => ?_⟩; clear h; go_simp) (ak (fun γ => ⟨rfl, fun w' h => ex_load6 h 2 rfl rfl rfl rfl⟩) (ak (fun γ => ⟨rfl, fun w' h => ⟨41, #[N a, N n], exec_call rfl call41 rfl (mpn rfl), C1.out w'⟩⟩) (ak (by refine fun γ => ⟨rfl, fun w' h => ?_⟩; clear h; go_simp) trivial))))))
  intro γ w3 l hM hl
  have M3 : Mm w3 [(γ1_0, cells6 a), (γ1_1, zero6), (g, modx n o s)] := H2.out.1.grow hM (Nat.le_refl _) hl [] rfl (by decide)
  have B3 : Below w.heap.size w w3 := H2.out.2.trans ((hM.below).mono H2.out.2.size)
  clear hM hl l H2
  clear γ
  have H3 : Hid (_ ∧ _) := ⟨M3, B3⟩
  clear M3 B3
  refine rest0 rfl (then_normal (wp_cond_true rfl (wp_seq ?_)))
  refine walk_seqA 1 [.quiet (N a)] (sB H3) ?ho4 ?he4
  case ho4 => exact ak (fun γ => ⟨rfl, fun w' h => ex_load6 h 0 rfl rfl rfl rfl⟩) trivial
  intro γ w4 l hM hl
  have M4 : Mm w4 [(γ1_0, cells6 a), (γ1_1, zero6), (g, modx n o s)] := H3.out.1.grow hM (Nat.le_refl _) hl [] rfl (by decide)
  have B4 : Below w.heap.size w w4 := H3.out.2.trans ((hM.below).mono H3.out.2.size)
  clear hM hl l H3
  clear γ
  have H4 : Hid (_ ∧ _) := ⟨M4, B4⟩
  clear M4 B4
  refine rest_at (l := [1]) rfl ?_
  refine rest_store rfl rfl rfl (ex_store6 H4.out.1 1 rfl rfl rfl rfl (Nat.le_of_ble_eq_true rfl)) ?_
  have H5 : Hid (Mm (w4.setCells γ1_1 0 (cells6 a)) [(γ1_0, cells6 a), (γ1_1, cells6 a), (g, modx n o s)] ∧ Below w.heap.size w (w4.setCells γ1_1 0 (cells6 a))) := ⟨H4.out.1.put 1 (off := 0) (vs := cells6 a) rfl (Nat.le_of_ble_eq_true rfl), below_setCells _ o1_1.out _ _ _ H4.out.2⟩
  clear H4
  generalize hgw : World.setCells _ _ _ _ = w5 at H5 ⊢
  clear hgw
  refine rest_nil (then_normal (wp_ret ?_))
  repeat (first | refine then_ret ?_ | refine block_ret ?_)
  have c0 := H5.out.1.get 1 rfl 0 rfl
  have c1 := H5.out.1.get 1 rfl 1 rfl
  have c2 := H5.out.1.get 1 rfl 2 rfl
  have c3 := H5.out.1.get 1 rfl 3 rfl
  have c4 := H5.out.1.get 1 rfl 4 rfl
  have c5 := H5.out.1.get 1 rfl 5 rfl
  refine bodyPost_ret (v := N a) (by simp [results, Tryd.results9, go_sem, *]) rfl ?_
  exact ⟨rfl, H5.out.2⟩
set_option maxRecDepth 100000 in
theorem reduce_2 (g n o s a r : Nat) (c : Int) (hc : ¬ c < 0)
    (c0 : ∀ w, Mm w [(g, modx n o s)] → Calls Tryd.prog 35 #[PT g 0] w fun e w' => e = .returned (.bool true) ∧ Below w.heap.size w w')
    (c1 : ∀ w, Calls Tryd.prog 41 #[N a, N n] w fun e w' => e = .returned (.int .i64 c) ∧ Below w.heap.size w w')
    (c2 : ∀ w, Calls Tryd.prog 42 #[N a, N n] w fun e w' => e = .returned (.tuple #[N r, .bool false]) ∧ Below w.heap.size w w')
    (c3 : ∀ w, Calls Tryd.prog 41 #[N r, N n] w fun e w' => e = .returned (.int .i64 (-1)) ∧ Below w.heap.size w w') (w : World) (hm : Mm w [(g, modx n o s)]) :
    Calls Tryd.prog 9 #[PT g 0, N a] w fun e w' => e = .returned (N r) ∧ Below w.heap.size w w' := by
  have H0 : Hid (_ ∧ _) := ⟨hm, Below.refl w.heap.size w⟩
  clear hm
  have C0 : Hid _ := c0
  have C1 : Hid _ := c1
  have C2 : Hid _ := c2
  have C3 : Hid _ := c3
  clear c0 c1 c2 c3
  go_enter Tryd.func9, Tryd.ntmps9
  refine wp_seq ?_
  refine walk_seqA 2 [.made (cells6 a) 24, .made zero6 24] (sB H0) ?ho1 ?he1
  case ho1 => exact ak (fun γ => ⟨rfl, fun w' => ex_box6 rfl rfl⟩) (ak (fun γ => ⟨rfl, fun w' => exec_made6 rfl⟩) trivial)
  intro γ w1 l hM hl
  have M1 : Mm w1 [(γ 0, cells6 a), (γ 1, zero6), (g, modx n o s)] := H0.out.1.grow hM (Nat.le_refl _) hl [0, 1] rfl (by decide)
  have B1 : Below w.heap.size w w1 := H0.out.2.trans ((hM.below).mono H0.out.2.size)
  have o1_0 : Hid (w.heap.size ≤ γ 0) := Nat.le_trans H0.out.2.size (hM.fin (Nat.le_refl _) hl (i := 0) rfl).2.1
  have o1_1 : Hid (w.heap.size ≤ γ 1) := Nat.le_trans H0.out.2.size (hM.fin (Nat.le_refl _) hl (i := 1) rfl).2.1
  clear hM hl l
  generalize γ 0 = γ1_0 at M1 o1_0 ⊢
  generalize γ 1 = γ1_1 at M1 o1_1 ⊢
  clear γ
  have H1 : Hid (_ ∧ _) := ⟨M1, B1⟩
  clear M1 B1
  refine rest0 rfl (then_normal (wp_seq (wp_seq ?_)))
  refine walk_seqA 3 [.quiet (PT g 0), .call (.bool true), .quiet (.bool false)] (sB H1) ?ho2 ?he2
  case ho2 => exact ak (fun _ => ⟨rfl, fun _ _ => rfl⟩) (ak (fun γ => ⟨rfl, fun w' h => ⟨35, #[PT g 0], exec_call rfl call35 rfl (mpn rfl), C0.out w' (h.one 2 rfl)⟩⟩) (ak (by refine fun γ => ⟨rfl, fun w' h => ?_⟩; clear h; go_simp) trivial))
  intro γ w2 l hM hl
  have M2 : Mm w2 [(γ1_0, cells6 a), (γ1_1, zero6), (g, modx n o s)] := H1.out.1.grow hM (Nat.le_refl _) hl [] rfl (by decide)
  have B2 : Below w.heap.size w w2 := H1.out.2.trans ((hM.below).mono H1.out.2.size)
  clear hM hl l H1
  clear γ
  have H2 : Hid (_ ∧ _) := ⟨M2, B2⟩
  clear M2 B2
  refine rest0 rfl (then_normal (wp_cond_false rfl ?_))
  refine wp_skip (then_normal ?_)
  refine wp_seq (wp_seq ?_)
  refine walk_anyA 7 [.quiet (N a), .quiet (PT g 0), .quiet (PT g 0), .quiet (PT g 0), .quiet (N n), .call (.int .i64 c), .quiet (.bool false)] (sB H2) ?ho3 ?he3
  case ho3 => exact ak (fun γ => ⟨rfl, fun w' h => ex_load6 h 0 rfl rfl rfl rfl⟩) (ak (fun _ => ⟨rfl, fun _ _ => rfl⟩) (ak (by refine fun γ => ⟨rfl, fun w' h => ?_⟩; clear h; go_simp) (ak (by refine fun γ => ⟨rfl, fun w' h => ?_⟩; clear h; go_simp) (ak (fun γ => ⟨rfl, fun w' h => ex_load6 h 2 rfl rfl rfl rfl⟩) (ak (fun γ => ⟨rfl, fun w' h => ⟨41, #[N a, N n], exec_call rfl call41 rfl (mpn rfl), C1.out w'⟩⟩) (ak (by refine fun γ => ⟨rfl, fun w' h => ?_⟩; clear h; go_simp) trivial))))))
  intro γ w3 l hM hl
  have M3 : Mm w3 [(γ1_0, cells6 a), (γ1_1, zero6), (g, modx n o s)] := H2.out.1.grow hM (Nat.le_refl _) hl [] rfl (by decide)
  have B3 : Below w.heap.size w w3 := H2.out.2.trans ((hM.below).mono H2.out.2.size)
  clear hM hl l H2
  clear γ
  have H3 : Hid (_ ∧ _) := ⟨M3, B3⟩
  clear M3 B3
  refine rest0 rfl (then_normal (wp_cond_false rfl ?_))
  refine wp_skip (then_normal (wp_seq ?_))
  refine walk_anyA 12 [.quiet (N a), .quiet (PT g 0), .quiet (PT g 0), .quiet (PT g 0), .quiet (N n), .call (.tuple #[N r, .bool false]), .quiet (.tuple #[N r, .bool false]), .quiet (N r), .quiet (.bool false), .made zero6 24, .laid 9 zero6 (cells6 r), .quiet (.bool false)] (sB H3) ?ho4 ?he4 (hL := ?hL4)
  case hL4 => exact ⟨⟨_, rfl⟩, trivial⟩
  case ho4 => exact ak (fun γ => ⟨rfl, fun w' h => ex_load6 h 0 rfl rfl rfl rfl⟩) (ak (fun _ => ⟨rfl, fun _ _ => rfl⟩) (ak (by refine fun γ => ⟨rfl, fun w' h => ?_⟩; clear h; go_simp) (ak (by refine fun γ => ⟨rfl, fun w' h => ?_⟩; clear h; go_simp) (ak (fun γ => ⟨rfl, fun w' h => ex_load6 h 2 rfl rfl rfl rfl⟩) (ak (fun γ => ⟨rfl, fun w' h => ⟨42, #[N a, N n], exec_call rfl call42 rfl (mpn rfl), C2.out w'⟩⟩) (ak (fun _ => ⟨rfl, fun _ _ => rfl⟩) (ak (by refine fun γ => ⟨rfl, fun w' h => ?_⟩; clear h; go_simp) (ak (by refine fun γ => ⟨rfl, fun w' h => ?_⟩; clear h; go_simp) (ak (fun γ => ⟨rfl, fun w' => exec_made6 rfl⟩) (ak (fun γ => ⟨rfl, rfl, rfl, fun w' h => exec_laid6 h rfl rfl rfl⟩) (ak (fun _ => ⟨rfl, fun _ _ => rfl⟩) trivial)))))))))))
  intro γ w4 l hM hl
  have M4 : Mm w4 [(γ 9, cells6 r), (γ1_0, cells6 a), (γ1_1, zero6), (g, modx n o s)] := H3.out.1.grow hM (Nat.le_refl _) hl [9] rfl (by decide)
  have B4 : Below w.heap.size w w4 := H3.out.2.trans ((hM.below).mono H3.out.2.size)
  have o4_9 : Hid (w.heap.size ≤ γ 9) := Nat.le_trans H3.out.2.size (hM.fin (Nat.le_refl _) hl (i := 9) rfl).2.1
  clear hM hl l H3
  generalize γ 9 = γ4_9 at M4 o4_9 ⊢
  clear γ
  have H4 : Hid (_ ∧ _) := ⟨M4, B4⟩
  clear M4 B4
  refine rest0 rfl (then_normal (wp_seq (wp_seq ?_)))
  refine walk_anyA 7 [.quiet (N r), .quiet (PT g 0), .quiet (PT g 0), .quiet (PT g 0), .quiet (N n), .call (.int .i64 (-1)), .quiet (.bool true)] (sB H4) ?ho5 ?he5
  case ho5 => exact ak (fun γ => ⟨rfl, fun w' h => ex_load6 h 0 rfl rfl rfl rfl⟩) (ak (fun _ => ⟨rfl, fun _ _ => rfl⟩) (ak (by refine fun γ => ⟨rfl, fun w' h => ?_⟩; clear h; go_simp) (ak (by refine fun γ => ⟨rfl, fun w' h => ?_⟩; clear h; go_simp) (ak (fun γ => ⟨rfl, fun w' h => ex_load6 h 3 rfl rfl rfl rfl⟩) (ak (fun γ => ⟨rfl, fun w' h => ⟨41, #[N r, N n], exec_call rfl call41 rfl (mpn rfl), C3.out w'⟩⟩) (ak (by refine fun γ => ⟨rfl, fun w' h => ?_⟩; clear h; go_simp) trivial))))))
  intro γ w5 l hM hl
  have M5 : Mm w5 [(γ4_9, cells6 r), (γ1_0, cells6 a), (γ1_1, zero6), (g, modx n o s)] := H4.out.1.grow hM (Nat.le_refl _) hl [] rfl (by decide)
  have B5 : Below w.heap.size w w5 := H4.out.2.trans ((hM.below).mono H4.out.2.size)
  clear hM hl l H4
  clear γ
  have H5 : Hid (_ ∧ _) := ⟨M5, B5⟩
  clear M5 B5
  refine rest0 rfl (then_normal (wp_cond_true rfl (wp_seq ?_)))
  refine walk_seqA 1 [.quiet (N r)] (sB H5) ?ho6 ?he6
  case ho6 => exact ak (fun γ => ⟨rfl, fun w' h => ex_load6 h 0 rfl rfl rfl rfl⟩) trivial
  intro γ w6 l hM hl
  have M6 : Mm w6 [(γ4_9, cells6 r), (γ1_0, cells6 a), (γ1_1, zero6), (g, modx n o s)] := H5.out.1.grow hM (Nat.le_refl _) hl [] rfl (by decide)
  have B6 : Below w.heap.size w w6 := H5.out.2.trans ((hM.below).mono H5.out.2.size)
  clear hM hl l H5
  clear γ
  have H6 : Hid (_ ∧ _) := ⟨M6, B6⟩
  clear M6 B6
  refine rest_at (l := [1]) rfl ?_
  refine rest_store rfl rfl rfl (ex_store6 H6.out.1 2 rfl rfl rfl rfl (Nat.le_of_ble_eq_true rfl)) ?_
  have H7 : Hid (Mm (w6.setCells γ1_1 0 (cells6 r)) [(γ4_9, cells6 r), (γ1_0, cells6 a), (γ1_1, cells6 r), (g, modx n o s)] ∧ Below w.heap.size w (w6.setCells γ1_1 0 (cells6 r))) := ⟨H6.out.1.put 2 (off := 0) (vs := cells6 r) rfl (Nat.le_of_ble_eq_true rfl), below_setCells _ o1_1.out _ _ _ H6.out.2⟩
  clear H6
  generalize hgw : World.setCells _ _ _ _ = w7 at H7 ⊢
  clear hgw
  refine rest_nil (then_normal (wp_ret ?_))
  repeat (first | refine then_ret ?_ | refine block_ret ?_)
  have c0 := H7.out.1.get 2 rfl 0 rfl
  have c1 := H7.out.1.get 2 rfl 1 rfl
  have c2 := H7.out.1.get 2 rfl 2 rfl
  have c3 := H7.out.1.get 2 rfl 3 rfl
  have c4 := H7.out.1.get 2 rfl 4 rfl
  have c5 := H7.out.1.get 2 rfl 5 rfl
  refine bodyPost_ret (v := N r) (by simp [results, Tryd.results9, go_sem, *]) rfl ?_
  exact ⟨rfl, H7.out.2⟩
set_option maxRecDepth 100000 in
theorem reduce_3 (g n o s a r x : Nat) (c d : Int) (hc : ¬ c < 0) (hd : ¬ d < 0)
    (c0 : ∀ w, Mm w [(g, modx n o s)] → Calls Tryd.prog 35 #[PT g 0] w fun e w' => e = .returned (.bool true) ∧ Below w.heap.size w w')
    (c1 : ∀ w, Calls Tryd.prog 41 #[N a, N n] w fun e w' => e = .returned (.int .i64 c) ∧ Below w.heap.size w w')
    (c2 : ∀ w, Calls Tryd.prog 42 #[N a, N n] w fun e w' => e = .returned (.tuple #[N r, .bool false]) ∧ Below w.heap.size w w')
    (c3 : ∀ w, Calls Tryd.prog 41 #[N r, N n] w fun e w' => e = .returned (.int .i64 d) ∧ Below w.heap.size w w')
    (c4 : ∀ w, Mm w [(g, modx n o s)] → Calls Tryd.prog 43 #[PT g 0, N r, N o] w fun e w' => e = .returned (N x) ∧ Below w.heap.size w w') (w : World) (hm : Mm w [(g, modx n o s)]) :
    Calls Tryd.prog 9 #[PT g 0, N a] w fun e w' => e = .returned (N x) ∧ Below w.heap.size w w' := by
  have H0 : Hid (_ ∧ _) := ⟨hm, Below.refl w.heap.size w⟩
  clear hm
  have C0 : Hid _ := c0
  have C1 : Hid _ := c1
  have C2 : Hid _ := c2
  have C3 : Hid _ := c3
  have C4 : Hid _ := c4
  clear c0 c1 c2 c3 c4
  go_enter Tryd.func9, Tryd.ntmps9
  refine wp_seq ?_
  refine walk_seqA 2 [.made (cells6 a) 24, .made zero6 24] (sB H0) ?ho1 ?he1
  case ho1 => exact ak (fun γ => ⟨rfl, fun w' => ex_box6 rfl rfl⟩) (ak (fun γ => ⟨rfl, fun w' => exec_made6 rfl⟩) trivial)
  intro γ w1 l hM hl
  have M1 : Mm w1 [(γ 0, cells6 a), (γ 1, zero6), (g, modx n o s)] := H0.out.1.grow hM (Nat.le_refl _) hl [0, 1] rfl (by decide)
  have B1 : Below w.heap.size w w1 := H0.out.2.trans ((hM.below).mono H0.out.2.size)
  have o1_0 : Hid (w.heap.size ≤ γ 0) := Nat.le_trans H0.out.2.size (hM.fin (Nat.le_refl _) hl (i := 0) rfl).2.1
  have o1_1 : Hid (w.heap.size ≤ γ 1) := Nat.le_trans H0.out.2.size (hM.fin (Nat.le_refl _) hl (i := 1) rfl).2.1
  clear hM hl l
  generalize γ 0 = γ1_0 at M1 o1_0 ⊢
  generalize γ 1 = γ1_1 at M1 o1_1 ⊢
  clear γ
  have H1 : Hid (_ ∧ _) := ⟨M1, B1⟩
  clear M1 B1
  refine rest0 rfl (then_normal (wp_seq (wp_seq ?_)))
  refine walk_seqA 3 [.quiet (PT g 0), .call (.bool true), .quiet (.bool false)] (sB H1) ?ho2 ?he2
  case ho2 => exact ak (fun _ => ⟨rfl, fun _ _ => rfl⟩) (ak (fun γ => ⟨rfl, fun w' h => ⟨35, #[PT g 0], exec_call rfl call35 rfl (mpn rfl), C0.out w' (h.one 2 rfl)⟩⟩) (ak (by refine fun γ => ⟨rfl, fun w' h => ?_⟩; clear h; go_simp) trivial))
  intro γ w2 l hM hl
  have M2 : Mm w2 [(γ1_0, cells6 a), (γ1_1, zero6), (g, modx n o s)] := H1.out.1.grow hM (Nat.le_refl _) hl [] rfl (by decide)
  have B2 : Below w.heap.size w w2 := H1.out.2.trans ((hM.below).mono H1.out.2.size)
  clear hM hl l H1
  clear γ
  have H2 : Hid (_ ∧ _) := ⟨M2, B2⟩
  clear M2 B2
  refine rest0 rfl (then_normal (wp_cond_false rfl ?_))
  refine wp_skip (then_normal ?_)
  refine wp_seq (wp_seq ?_)
  refine walk_anyA 7 [.quiet (N a), .quiet (PT g 0), .quiet (PT g 0), .quiet (PT g 0), .quiet (N n), .call (.int .i64 c), .quiet (.bool false)] (sB H2) ?ho3 ?he3
  case ho3 => exact ak (fun γ => ⟨rfl, fun w' h => ex_load6 h 0 rfl rfl rfl rfl⟩) (ak (fun _ => ⟨rfl, fun _ _ => rfl⟩) (ak (by refine fun γ => ⟨rfl, fun w' h => ?_⟩; clear h; go_simp) (ak (by refine fun γ => ⟨rfl, fun w' h => ?_⟩; clear h; go_simp) (ak (fun γ => ⟨rfl, fun w' h => ex_load6 h 2 rfl rfl rfl rfl⟩) (ak (fun γ => ⟨rfl, fun w' h => ⟨41, #[N a, N n], exec_call rfl call41 rfl (mpn rfl), C1.out w'⟩⟩) (ak (by refine fun γ => ⟨rfl, fun w' h => ?_⟩; clear h; go_simp) trivial))))))
  intro γ w3 l hM hl
  have M3 : Mm w3 [(γ1_0, cells6 a), (γ1_1, zero6), (g, modx n o s)] := H2.out.1.grow hM (Nat.le_refl _) hl [] rfl (by decide)
  have B3 : Below w.heap.size w w3 := H2.out.2.trans ((hM.below).mono H2.out.2.size)
  clear hM hl l H2
  clear γ
  have H3 : Hid (_ ∧ _) := ⟨M3, B3⟩
  clear M3 B3
  refine rest0 rfl (then_normal (wp_cond_false rfl ?_))
  refine wp_skip (then_normal (wp_seq ?_))
  refine walk_anyA 12 [.quiet (N a), .quiet (PT g 0), .quiet (PT g 0), .quiet (PT g 0), .quiet (N n), .call (.tuple #[N r, .bool false]), .quiet (.tuple #[N r, .bool false]), .quiet (N r), .quiet (.bool false), .made zero6 24, .laid 9 zero6 (cells6 r), .quiet (.bool false)] (sB H3) ?ho4 ?he4 (hL := ?hL4)
  case hL4 => exact ⟨⟨_, rfl⟩, trivial⟩
  case ho4 => exact ak (fun γ => ⟨rfl, fun w' h => ex_load6 h 0 rfl rfl rfl rfl⟩) (ak (fun _ => ⟨rfl, fun _ _ => rfl⟩) (ak (by refine fun γ => ⟨rfl, fun w' h => ?_⟩; clear h; go_simp) (ak (by refine fun γ => ⟨rfl, fun w' h => ?_⟩; clear h; go_simp) (ak (fun γ => ⟨rfl, fun w' h => ex_load6 h 2 rfl rfl rfl rfl⟩) (ak (fun γ => ⟨rfl, fun w' h => ⟨42, #[N a, N n], exec_call rfl call42 rfl (mpn rfl), C2.out w'⟩⟩) (ak (fun _ => ⟨rfl, fun _ _ => rfl⟩) (ak (by refine fun γ => ⟨rfl, fun w' h => ?_⟩; clear h; go_simp) (ak (by refine fun γ => ⟨rfl, fun w' h => ?_⟩; clear h; go_simp) (ak (fun γ => ⟨rfl, fun w' => exec_made6 rfl⟩) (ak (fun γ => ⟨rfl, rfl, rfl, fun w' h => exec_laid6 h rfl rfl rfl⟩) (ak (fun _ => ⟨rfl, fun _ _ => rfl⟩) trivial)))))))))))
  intro γ w4 l hM hl
  have M4 : Mm w4 [(γ 9, cells6 r), (γ1_0, cells6 a), (γ1_1, zero6), (g, modx n o s)] := H3.out.1.grow hM (Nat.le_refl _) hl [9] rfl (by decide)
  have B4 : Below w.heap.size w w4 := H3.out.2.trans ((hM.below).mono H3.out.2.size)
  have o4_9 : Hid (w.heap.size ≤ γ 9) := Nat.le_trans H3.out.2.size (hM.fin (Nat.le_refl _) hl (i := 9) rfl).2.1
  clear hM hl l H3
  generalize γ 9 = γ4_9 at M4 o4_9 ⊢
  clear γ
  have H4 : Hid (_ ∧ _) := ⟨M4, B4⟩
  clear M4 B4
  refine rest0 rfl (then_normal (wp_seq (wp_seq ?_)))
  refine walk_anyA 7 [.quiet (N r), .quiet (PT g 0), .quiet (PT g 0), .quiet (PT g 0), .quiet (N n), .call (.int .i64 d), .quiet (.bool false)] (sB H4) ?ho5 ?he5
  case ho5 => exact ak (fun γ => ⟨rfl, fun w' h => ex_load6 h 0 rfl rfl rfl rfl⟩) (ak (fun _ => ⟨rfl, fun _ _ => rfl⟩) (ak (by refine fun γ => ⟨rfl, fun w' h => ?_⟩; clear h; go_simp) (ak (by refine fun γ => ⟨rfl, fun w' h => ?_⟩; clear h; go_simp) (ak (fun γ => ⟨rfl, fun w' h => ex_load6 h 3 rfl rfl rfl rfl⟩) (ak (fun γ => ⟨rfl, fun w' h => ⟨41, #[N r, N n], exec_call rfl call41 rfl (mpn rfl), C3.out w'⟩⟩) (ak (by refine fun γ => ⟨rfl, fun w' h => ?_⟩; clear h; go_simp) trivial))))))
  intro γ w5 l hM hl
  have M5 : Mm w5 [(γ4_9, cells6 r), (γ1_0, cells6 a), (γ1_1, zero6), (g, modx n o s)] := H4.out.1.grow hM (Nat.le_refl _) hl [] rfl (by decide)
  have B5 : Below w.heap.size w w5 := H4.out.2.trans ((hM.below).mono H4.out.2.size)
  clear hM hl l H4
  clear γ
  have H5 : Hid (_ ∧ _) := ⟨M5, B5⟩
  clear M5 B5
  refine rest0 rfl (then_normal (wp_cond_false rfl ?_))
  refine wp_skip (then_normal (wp_seq ?_))
  refine walk_anyA 7 [.quiet (PT g 0), .quiet (N r), .quiet (PT g 0), .quiet (PT g 0), .quiet (PT g 7), .quiet (N o), .call (N x)] (sB H5) ?ho6 ?he6
  case ho6 => exact ak (fun _ => ⟨rfl, fun _ _ => rfl⟩) (ak (fun γ => ⟨rfl, fun w' h => ex_load6 h 0 rfl rfl rfl rfl⟩) (ak (fun _ => ⟨rfl, fun _ _ => rfl⟩) (ak (by refine fun γ => ⟨rfl, fun w' h => ?_⟩; clear h; go_simp) (ak (by refine fun γ => ⟨rfl, fun w' h => ?_⟩; clear h; go_simp) (ak (fun γ => ⟨rfl, fun w' h => ex_load6 h 3 rfl rfl rfl rfl⟩) (ak (fun γ => ⟨rfl, fun w' h => ⟨43, #[PT g 0, N r, N o], exec_call rfl call43 rfl (mpn rfl), C4.out w' (h.one 3 rfl)⟩⟩) trivial))))))
  intro γ w6 l hM hl
  have M6 : Mm w6 [(γ4_9, cells6 r), (γ1_0, cells6 a), (γ1_1, zero6), (g, modx n o s)] := H5.out.1.grow hM (Nat.le_refl _) hl [] rfl (by decide)
  have B6 : Below w.heap.size w w6 := H5.out.2.trans ((hM.below).mono H5.out.2.size)
  clear hM hl l H5
  clear γ
  have H6 : Hid (_ ∧ _) := ⟨M6, B6⟩
  clear M6 B6
  refine rest_at (l := [7]) rfl ?_
  refine rest_store rfl rfl rfl (ex_store6 H6.out.1 2 rfl rfl rfl rfl (Nat.le_of_ble_eq_true rfl)) ?_
  have H7 : Hid (Mm (w6.setCells γ1_1 0 (cells6 x)) [(γ4_9, cells6 r), (γ1_0, cells6 a), (γ1_1, cells6 x), (g, modx n o s)] ∧ Below w.heap.size w (w6.setCells γ1_1 0 (cells6 x))) := ⟨H6.out.1.put 2 (off := 0) (vs := cells6 x) rfl (Nat.le_of_ble_eq_true rfl), below_setCells _ o1_1.out _ _ _ H6.out.2⟩
  clear H6
  generalize hgw : World.setCells _ _ _ _ = w7 at H7 ⊢
  clear hgw
  refine rest_nil (then_normal (wp_ret ?_))
  repeat (first | refine then_ret ?_ | refine block_ret ?_)
  have c0 := H7.out.1.get 2 rfl 0 rfl
  have c1 := H7.out.1.get 2 rfl 1 rfl
  have c2 := H7.out.1.get 2 rfl 2 rfl
  have c3 := H7.out.1.get 2 rfl 3 rfl
  have c4 := H7.out.1.get 2 rfl 4 rfl
  have c5 := H7.out.1.get 2 rfl 5 rfl
  refine bodyPost_ret (v := N x) (by simp [results, Tryd.results9, go_sem, *]) rfl ?_
  exact ⟨rfl, H7.out.2⟩
set_option maxRecDepth 100000 in
theorem add_1 (g n o s a b u r : Nat)
    (c0 : ∀ w, Mm w [(g, modx n o s)] → Calls Tryd.prog 35 #[PT g 0] w fun e w' => e = .returned (.bool true) ∧ Below w.heap.size w w')
    (c1 : ∀ w, Calls Tryd.prog 39 #[N a, N b] w fun e w' => e = .returned (.tuple #[N u, .bool false]) ∧ Below w.heap.size w w')
    (c2 : ∀ w, Mm w [(g, modx n o s)] → Calls Tryd.prog 9 #[PT g 0, N u] w fun e w' => e = .returned (N r) ∧ Below w.heap.size w w') (w : World) (hm : Mm w [(g, modx n o s)]) :
    Calls Tryd.prog 11 #[PT g 0, N a, N b] w fun e w' => e = .returned (N r) ∧ Below w.heap.size w w' := by
  have H0 : Hid (_ ∧ _) := ⟨hm, Below.refl w.heap.size w⟩
  clear hm
  have C0 : Hid _ := c0
  have C1 : Hid _ := c1
  have C2 : Hid _ := c2
  clear c0 c1 c2
  go_enter Tryd.func11, Tryd.ntmps11
  refine wp_seq ?_
  refine walk_seqA 3 [.made (cells6 a) 24, .made (cells6 b) 24, .made zero6 24] (sB H0) ?ho1 ?he1
  case ho1 => exact ak (fun γ => ⟨rfl, fun w' => ex_box6 rfl rfl⟩) (ak (fun γ => ⟨rfl, fun w' => ex_box6 rfl rfl⟩) (ak (fun γ => ⟨rfl, fun w' => exec_made6 rfl⟩) trivial))
  intro γ w1 l hM hl
  have M1 : Mm w1 [(γ 0, cells6 a), (γ 1, cells6 b), (γ 2, zero6), (g, modx n o s)] := H0.out.1.grow hM (Nat.le_refl _) hl [0, 1, 2] rfl (by decide)
  have B1 : Below w.heap.size w w1 := H0.out.2.trans ((hM.below).mono H0.out.2.size)
  have o1_0 : Hid (w.heap.size ≤ γ 0) := Nat.le_trans H0.out.2.size (hM.fin (Nat.le_refl _) hl (i := 0) rfl).2.1
  have o1_1 : Hid (w.heap.size ≤ γ 1) := Nat.le_trans H0.out.2.size (hM.fin (Nat.le_refl _) hl (i := 1) rfl).2.1
  have o1_2 : Hid (w.heap.size ≤ γ 2) := Nat.le_trans H0.out.2.size (hM.fin (Nat.le_refl _) hl (i := 2) rfl).2.1
  clear hM hl l
  generalize γ 0 = γ1_0 at M1 o1_0 ⊢
  generalize γ 1 = γ1_1 at M1 o1_1 ⊢
  generalize γ 2 = γ1_2 at M1 o1_2 ⊢
  clear γ
  have H1 : Hid (_ ∧ _) := ⟨M1, B1⟩
  clear M1 B1
  refine rest0 rfl (then_normal (wp_seq (wp_seq ?_)))
  refine walk_seqA 3 [.quiet (PT g 0), .call (.bool true), .quiet (.bool false)] (sB H1) ?ho2 ?he2
  case ho2 => exact ak (fun _ => ⟨rfl, fun _ _ => rfl⟩) (ak (fun γ => ⟨rfl, fun w' h => ⟨35, #[PT g 0], exec_call rfl call35 rfl (mpn rfl), C0.out w' (h.one 3 rfl)⟩⟩) (ak (by refine fun γ => ⟨rfl, fun w' h => ?_⟩; clear h; go_simp) trivial))
  intro γ w2 l hM hl
  have M2 : Mm w2 [(γ1_0, cells6 a), (γ1_1, cells6 b), (γ1_2, zero6), (g, modx n o s)] := H1.out.1.grow hM (Nat.le_refl _) hl [] rfl (by decide)
  have B2 : Below w.heap.size w w2 := H1.out.2.trans ((hM.below).mono H1.out.2.size)
  clear hM hl l H1
  clear γ
  have H2 : Hid (_ ∧ _) := ⟨M2, B2⟩
  clear M2 B2
  refine rest0 rfl (then_normal (wp_cond_false rfl ?_))
  refine wp_skip (then_normal (wp_seq ?_))
  refine walk_seqA 9 [.quiet (N a), .quiet (N b), .call (.tuple #[N u, .bool false]), .quiet (.tuple #[N u, .bool false]), .quiet (N u), .quiet (.bool false), .made zero6 24, .laid 6 zero6 (cells6 u), .quiet (.bool false)] (sB H2) ?ho3 ?he3 (hL := ?hL3)
  case hL3 => exact ⟨⟨_, rfl⟩, trivial⟩
  case ho3 => exact ak (fun γ => ⟨rfl, fun w' h => ex_load6 h 0 rfl rfl rfl rfl⟩) (ak (fun γ => ⟨rfl, fun w' h => ex_load6 h 1 rfl rfl rfl rfl⟩) (ak (fun γ => ⟨rfl, fun w' h => ⟨39, #[N a, N b], exec_call rfl call39 rfl (mpn rfl), C1.out w'⟩⟩) (ak (fun _ => ⟨rfl, fun _ _ => rfl⟩) (ak (by refine fun γ => ⟨rfl, fun w' h => ?_⟩; clear h; go_simp) (ak (by refine fun γ => ⟨rfl, fun w' h => ?_⟩; clear h; go_simp) (ak (fun γ => ⟨rfl, fun w' => exec_made6 rfl⟩) (ak (fun γ => ⟨rfl, rfl, rfl, fun w' h => exec_laid6 h rfl rfl rfl⟩) (ak (fun _ => ⟨rfl, fun _ _ => rfl⟩) trivial))))))))
  intro γ w3 l hM hl
  have M3 : Mm w3 [(γ 6, cells6 u), (γ1_0, cells6 a), (γ1_1, cells6 b), (γ1_2, zero6), (g, modx n o s)] := H2.out.1.grow hM (Nat.le_refl _) hl [6] rfl (by decide)
  have B3 : Below w.heap.size w w3 := H2.out.2.trans ((hM.below).mono H2.out.2.size)
  have o3_6 : Hid (w.heap.size ≤ γ 6) := Nat.le_trans H2.out.2.size (hM.fin (Nat.le_refl _) hl (i := 6) rfl).2.1
  clear hM hl l H2
  generalize γ 6 = γ3_6 at M3 o3_6 ⊢
  clear γ
  have H3 : Hid (_ ∧ _) := ⟨M3, B3⟩
  clear M3 B3
  refine rest0 rfl (then_normal (wp_seq (wp_seq ?_)))
  refine walk_seqA 1 [.quiet (.bool false)] (sB H3) ?ho4 ?he4
  case ho4 => exact ak (fun _ => ⟨rfl, fun _ _ => rfl⟩) trivial
  intro γ w4 l hM hl
  have M4 : Mm w4 [(γ3_6, cells6 u), (γ1_0, cells6 a), (γ1_1, cells6 b), (γ1_2, zero6), (g, modx n o s)] := H3.out.1.grow hM (Nat.le_refl _) hl [] rfl (by decide)
  have B4 : Below w.heap.size w w4 := H3.out.2.trans ((hM.below).mono H3.out.2.size)
  clear hM hl l H3
  clear γ
  have H4 : Hid (_ ∧ _) := ⟨M4, B4⟩
  clear M4 B4
  refine rest0 rfl (then_normal (wp_cond_false rfl ?_))
  refine wp_skip (then_normal (wp_seq ?_))
  refine walk_seqA 3 [.quiet (PT g 0), .quiet (N u), .call (N r)] (sB H4) ?ho5 ?he5
  case ho5 => exact ak (fun _ => ⟨rfl, fun _ _ => rfl⟩) (ak (fun γ => ⟨rfl, fun w' h => ex_load6 h 0 rfl rfl rfl rfl⟩) (ak (fun γ => ⟨rfl, fun w' h => ⟨9, #[PT g 0, N u], exec_call rfl call9 rfl (mpn rfl), C2.out w' (h.one 4 rfl)⟩⟩) trivial))
  intro γ w5 l hM hl
  have M5 : Mm w5 [(γ3_6, cells6 u), (γ1_0, cells6 a), (γ1_1, cells6 b), (γ1_2, zero6), (g, modx n o s)] := H4.out.1.grow hM (Nat.le_refl _) hl [] rfl (by decide)
  have B5 : Below w.heap.size w w5 := H4.out.2.trans ((hM.below).mono H4.out.2.size)
  clear hM hl l H4
  clear γ
  have H5 : Hid (_ ∧ _) := ⟨M5, B5⟩
  clear M5 B5
  refine rest_at (l := [3]) rfl ?_
  refine rest_store rfl rfl rfl (ex_store6 H5.out.1 3 rfl rfl rfl rfl (Nat.le_of_ble_eq_true rfl)) ?_
  have H6 : Hid (Mm (w5.setCells γ1_2 0 (cells6 r)) [(γ3_6, cells6 u), (γ1_0, cells6 a), (γ1_1, cells6 b), (γ1_2, cells6 r), (g, modx n o s)] ∧ Below w.heap.size w (w5.setCells γ1_2 0 (cells6 r))) := ⟨H5.out.1.put 3 (off := 0) (vs := cells6 r) rfl (Nat.le_of_ble_eq_true rfl), below_setCells _ o1_2.out _ _ _ H5.out.2⟩
  clear H5
  generalize hgw : World.setCells _ _ _ _ = w6 at H6 ⊢
  clear hgw
  refine rest_nil (then_normal (wp_ret ?_))
  repeat (first | refine then_ret ?_ | refine block_ret ?_)
  have c0 := H6.out.1.get 3 rfl 0 rfl
  have c1 := H6.out.1.get 3 rfl 1 rfl
  have c2 := H6.out.1.get 3 rfl 2 rfl
  have c3 := H6.out.1.get 3 rfl 3 rfl
  have c4 := H6.out.1.get 3 rfl 4 rfl
  have c5 := H6.out.1.get 3 rfl 5 rfl
  refine bodyPost_ret (v := N r) (by simp [results, Tryd.results11, go_sem, *]) rfl ?_
  exact ⟨rfl, H6.out.2⟩
set_option maxRecDepth 100000 in
theorem add_2 (g n o s a b u x y v r : Nat)
    (c0 : ∀ w, Mm w [(g, modx n o s)] → Calls Tryd.prog 35 #[PT g 0] w fun e w' => e = .returned (.bool true) ∧ Below w.heap.size w w')
    (c1 : ∀ w, Calls Tryd.prog 39 #[N a, N b] w fun e w' => e = .returned (.tuple #[N u, .bool true]) ∧ Below w.heap.size w w')
    (c2 : ∀ w, Mm w [(g, modx n o s)] → Calls Tryd.prog 9 #[PT g 0, N a] w fun e w' => e = .returned (N x) ∧ Below w.heap.size w w')
    (c3 : ∀ w, Mm w [(g, modx n o s)] → Calls Tryd.prog 9 #[PT g 0, N b] w fun e w' => e = .returned (N y) ∧ Below w.heap.size w w')
    (c4 : ∀ w, Calls Tryd.prog 39 #[N x, N y] w fun e w' => e = .returned (.tuple #[N v, .bool false]) ∧ Below w.heap.size w w')
    (c5 : ∀ w, Mm w [(g, modx n o s)] → Calls Tryd.prog 9 #[PT g 0, N v] w fun e w' => e = .returned (N r) ∧ Below w.heap.size w w') (w : World) (hm : Mm w [(g, modx n o s)]) :
    Calls Tryd.prog 11 #[PT g 0, N a, N b] w fun e w' => e = .returned (N r) ∧ Below w.heap.size w w' := by
  have H0 : Hid (_ ∧ _) := ⟨hm, Below.refl w.heap.size w⟩
  clear hm
  have C0 : Hid _ := c0
  have C1 : Hid _ := c1
  have C2 : Hid _ := c2
  have C3 : Hid _ := c3
  have C4 : Hid _ := c4
  have C5 : Hid _ := c5
  clear c0 c1 c2 c3 c4 c5
  go_enter Tryd.func11, Tryd.ntmps11
  refine wp_seq ?_
  refine walk_seqA 3 [.made (cells6 a) 24, .made (cells6 b) 24, .made zero6 24] (sB H0) ?ho1 ?he1
  case ho1 => exact ak (fun γ => ⟨rfl, fun w' => ex_box6 rfl rfl⟩) (ak (fun γ => ⟨rfl, fun w' => ex_box6 rfl rfl⟩) (ak (fun γ => ⟨rfl, fun w' => exec_made6 rfl⟩) trivial))
  intro γ w1 l hM hl
  have M1 : Mm w1 [(γ 0, cells6 a), (γ 1, cells6 b), (γ 2, zero6), (g, modx n o s)] := H0.out.1.grow hM (Nat.le_refl _) hl [0, 1, 2] rfl (by decide)
  have B1 : Below w.heap.size w w1 := H0.out.2.trans ((hM.below).mono H0.out.2.size)
  have o1_0 : Hid (w.heap.size ≤ γ 0) := Nat.le_trans H0.out.2.size (hM.fin (Nat.le_refl _) hl (i := 0) rfl).2.1
  have o1_1 : Hid (w.heap.size ≤ γ 1) := Nat.le_trans H0.out.2.size (hM.fin (Nat.le_refl _) hl (i := 1) rfl).2.1
  have o1_2 : Hid (w.heap.size ≤ γ 2) := Nat.le_trans H0.out.2.size (hM.fin (Nat.le_refl _) hl (i := 2) rfl).2.1
  clear hM hl l
  generalize γ 0 = γ1_0 at M1 o1_0 ⊢
  generalize γ 1 = γ1_1 at M1 o1_1 ⊢
  generalize γ 2 = γ1_2 at M1 o1_2 ⊢
  clear γ
  have H1 : Hid (_ ∧ _) := ⟨M1, B1⟩
  clear M1 B1
  refine rest0 rfl (then_normal (wp_seq (wp_seq ?_)))
  refine walk_seqA 3 [.quiet (PT g 0), .call (.bool true), .quiet (.bool false)] (sB H1) ?ho2 ?he2
  case ho2 => exact ak (fun _ => ⟨rfl, fun _ _ => rfl⟩) (ak (fun γ => ⟨rfl, fun w' h => ⟨35, #[PT g 0], exec_call rfl call35 rfl (mpn rfl), C0.out w' (h.one 3 rfl)⟩⟩) (ak (by refine fun γ => ⟨rfl, fun w' h => ?_⟩; clear h; go_simp) trivial))
  intro γ w2 l hM hl
  have M2 : Mm w2 [(γ1_0, cells6 a), (γ1_1, cells6 b), (γ1_2, zero6), (g, modx n o s)] := H1.out.1.grow hM (Nat.le_refl _) hl [] rfl (by decide)
  have B2 : Below w.heap.size w w2 := H1.out.2.trans ((hM.below).mono H1.out.2.size)
  clear hM hl l H1
  clear γ
  have H2 : Hid (_ ∧ _) := ⟨M2, B2⟩
  clear M2 B2
  refine rest0 rfl (then_normal (wp_cond_false rfl ?_))
  refine wp_skip (then_normal (wp_seq ?_))
  refine walk_seqA 9 [.quiet (N a), .quiet (N b), .call (.tuple #[N u, .bool true]), .quiet (.tuple #[N u, .bool true]), .quiet (N u), .quiet (.bool true), .made zero6 24, .laid 6 zero6 (cells6 u), .quiet (.bool true)] (sB H2) ?ho3 ?he3 (hL := ?hL3)
  case hL3 => exact ⟨⟨_, rfl⟩, trivial⟩
  case ho3 => exact ak (fun γ => ⟨rfl, fun w' h => ex_load6 h 0 rfl rfl rfl rfl⟩) (ak (fun γ => ⟨rfl, fun w' h => ex_load6 h 1 rfl rfl rfl rfl⟩) (ak (fun γ => ⟨rfl, fun w' h => ⟨39, #[N a, N b], exec_call rfl call39 rfl (mpn rfl), C1.out w'⟩⟩) (ak (fun _ => ⟨rfl, fun _ _ => rfl⟩) (ak (by refine fun γ => ⟨rfl, fun w' h => ?_⟩; clear h; go_simp) (ak (by refine fun γ => ⟨rfl, fun w' h => ?_⟩; clear h; go_simp) (ak (fun γ => ⟨rfl, fun w' => exec_made6 rfl⟩) (ak (fun γ => ⟨rfl, rfl, rfl, fun w' h => exec_laid6 h rfl rfl rfl⟩) (ak (fun _ => ⟨rfl, fun _ _ => rfl⟩) trivial))))))))
  intro γ w3 l hM hl
  have M3 : Mm w3 [(γ 6, cells6 u), (γ1_0, cells6 a), (γ1_1, cells6 b), (γ1_2, zero6), (g, modx n o s)] := H2.out.1.grow hM (Nat.le_refl _) hl [6] rfl (by decide)
  have B3 : Below w.heap.size w w3 := H2.out.2.trans ((hM.below).mono H2.out.2.size)
  have o3_6 : Hid (w.heap.size ≤ γ 6) := Nat.le_trans H2.out.2.size (hM.fin (Nat.le_refl _) hl (i := 6) rfl).2.1
  clear hM hl l H2
  generalize γ 6 = γ3_6 at M3 o3_6 ⊢
  clear γ
  have H3 : Hid (_ ∧ _) := ⟨M3, B3⟩
  clear M3 B3
  refine rest0 rfl (then_normal (wp_seq (wp_seq ?_)))
  refine walk_seqA 1 [.quiet (.bool true)] (sB H3) ?ho4 ?he4
  case ho4 => exact ak (fun _ => ⟨rfl, fun _ _ => rfl⟩) trivial
  intro γ w4 l hM hl
  have M4 : Mm w4 [(γ3_6, cells6 u), (γ1_0, cells6 a), (γ1_1, cells6 b), (γ1_2, zero6), (g, modx n o s)] := H3.out.1.grow hM (Nat.le_refl _) hl [] rfl (by decide)
  have B4 : Below w.heap.size w w4 := H3.out.2.trans ((hM.below).mono H3.out.2.size)
  clear hM hl l H3
  clear γ
  have H4 : Hid (_ ∧ _) := ⟨M4, B4⟩
  clear M4 B4
  refine rest0 rfl (then_normal (wp_cond_true rfl ?_))
  refine walk_put (by kernel_rfl) 10 [9] [.quiet (PT g 0), .quiet (N a), .call (N x), .quiet (PT g 0), .quiet (N b), .call (N y), .call (.tuple #[N v, .bool false]), .quiet (.tuple #[N v, .bool false]), .quiet (N v), .quiet (.bool false)] _ ?pre5 ?F5 _ ?hpre5 (fun γ => ?hF5) (by kernel_rfl) rfl trivial (sB H4) ?ho5 ?hla5 ?he5
  case hpre5 => simp only [tk, tz]; rfl
  case hF5 => simp only [fill, Kind.val, Act.put, sa, sz, ss]; rfl
  case ho5 =>
    refine ak (fun _ => ⟨rfl, fun _ _ => rfl⟩) ?_
    refine ak (fun γ => ⟨rfl, fun w' h => ex_load6 h 1 rfl rfl rfl rfl⟩) ?_
    refine ak (fun γ => ⟨rfl, fun w' h => ⟨9, #[PT g 0, N a], exec_call rfl call9 rfl (mpn rfl), C2.out w' (h.one 4 rfl)⟩⟩) ?_
    refine ak (fun _ => ⟨rfl, fun _ _ => rfl⟩) ?_
    refine ak (fun γ => ⟨rfl, fun w' h => ex_load6 h 2 rfl rfl rfl rfl⟩) ?_
    refine ak (fun γ => ⟨rfl, fun w' h => ⟨9, #[PT g 0, N b], exec_call rfl call9 rfl (mpn rfl), C3.out w' (h.one 4 rfl)⟩⟩) ?_
    refine ak (fun γ => ⟨rfl, fun w' h => ⟨39, #[N x, N y], exec_call rfl call39 rfl (mpn rfl), C4.out w'⟩⟩) ?_
    refine ak (fun _ => ⟨rfl, fun _ _ => rfl⟩) ?_
    refine ak (by refine fun γ => ⟨rfl, fun w' h => ?_⟩; clear h; go_simp) ?_
    refine ak (by refine fun γ => ⟨rfl, fun w' h => ?_⟩; clear h; go_simp) ?_
    exact trivial
  case hla5 => exact ⟨⟨_, _, rfl, rfl, fun γ => ⟨rfl, fun w' => by go_simp⟩⟩, trivial⟩
  intro γ w5 l hM hl
  have M5 : Mm w5 [(γ3_6, cells6 u), (γ1_0, cells6 a), (γ1_1, cells6 b), (γ1_2, zero6), (g, modx n o s)] := H4.out.1.grow hM (Nat.le_refl _) hl [] rfl (by decide)
  have B5 : Below w.heap.size w w5 := H4.out.2.trans ((hM.below).mono H4.out.2.size)
  clear hM hl l H4
  clear γ
  have H5 : Hid (_ ∧ _) := ⟨M5, B5⟩
  clear M5 B5
  refine ⟨_, ex_store6 H5.out.1 0 rfl rfl rfl rfl (Nat.le_of_ble_eq_true rfl), ?_⟩
  have H6 : Hid (Mm (w5.setCells γ3_6 0 (cells6 v)) [(γ3_6, cells6 v), (γ1_0, cells6 a), (γ1_1, cells6 b), (γ1_2, zero6), (g, modx n o s)] ∧ Below w.heap.size w (w5.setCells γ3_6 0 (cells6 v))) := ⟨H5.out.1.put 0 (off := 0) (vs := cells6 v) rfl (Nat.le_of_ble_eq_true rfl), below_setCells _ o3_6.out _ _ _ H5.out.2⟩
  clear H5
  generalize hgw : World.setCells _ _ _ _ = w6 at H6 ⊢
  clear hgw
  refine rest0 rfl (then_normal (wp_seq ?_))
  refine walk_seqA 3 [.quiet (PT g 0), .quiet (N v), .call (N r)] (sB H6) ?ho6 ?he6
  case ho6 => exact ak (fun _ => ⟨rfl, fun _ _ => rfl⟩) (ak (fun γ => ⟨rfl, fun w' h => ex_load6 h 0 rfl rfl rfl rfl⟩) (ak (fun γ => ⟨rfl, fun w' h => ⟨9, #[PT g 0, N v], exec_call rfl call9 rfl (mpn rfl), C5.out w' (h.one 4 rfl)⟩⟩) trivial))
  intro γ w7 l hM hl
  have M7 : Mm w7 [(γ3_6, cells6 v), (γ1_0, cells6 a), (γ1_1, cells6 b), (γ1_2, zero6), (g, modx n o s)] := H6.out.1.grow hM (Nat.le_refl _) hl [] rfl (by decide)
  have B7 : Below w.heap.size w w7 := H6.out.2.trans ((hM.below).mono H6.out.2.size)
  clear hM hl l H6
  clear γ
  have H7 : Hid (_ ∧ _) := ⟨M7, B7⟩
  clear M7 B7
  refine rest_at (l := [3]) rfl ?_
  refine rest_store rfl rfl rfl (ex_store6 H7.out.1 3 rfl rfl rfl rfl (Nat.le_of_ble_eq_true rfl)) ?_
  have H8 : Hid (Mm (w7.setCells γ1_2 0 (cells6 r)) [(γ3_6, cells6 v), (γ1_0, cells6 a), (γ1_1, cells6 b), (γ1_2, cells6 r), (g, modx n o s)] ∧ Below w.heap.size w (w7.setCells γ1_2 0 (cells6 r))) := ⟨H7.out.1.put 3 (off := 0) (vs := cells6 r) rfl (Nat.le_of_ble_eq_true rfl), below_setCells _ o1_2.out _ _ _ H7.out.2⟩
  clear H7
  generalize hgw : World.setCells _ _ _ _ = w8 at H8 ⊢
  clear hgw
  refine rest_nil (then_normal (wp_ret ?_))
  repeat (first | refine then_ret ?_ | refine block_ret ?_)
  have c0 := H8.out.1.get 3 rfl 0 rfl
  have c1 := H8.out.1.get 3 rfl 1 rfl
  have c2 := H8.out.1.get 3 rfl 2 rfl
  have c3 := H8.out.1.get 3 rfl 3 rfl
  have c4 := H8.out.1.get 3 rfl 4 rfl
  have c5 := H8.out.1.get 3 rfl 5 rfl
  refine bodyPost_ret (v := N r) (by simp [results, Tryd.results11, go_sem, *]) rfl ?_
  exact ⟨rfl, H8.out.2⟩
set_option maxRecDepth 100000 in
theorem sub_1 (g n o s a b u r : Nat)
    (c0 : ∀ w, Mm w [(g, modx n o s)] → Calls Tryd.prog 35 #[PT g 0] w fun e w' => e = .returned (.bool true) ∧ Below w.heap.size w w')
    (c1 : ∀ w, Calls Tryd.prog 42 #[N a, N b] w fun e w' => e = .returned (.tuple #[N u, .bool false]) ∧ Below w.heap.size w w')
    (c2 : ∀ w, Mm w [(g, modx n o s)] → Calls Tryd.prog 9 #[PT g 0, N u] w fun e w' => e = .returned (N r) ∧ Below w.heap.size w w') (w : World) (hm : Mm w [(g, modx n o s)]) :
    Calls Tryd.prog 12 #[PT g 0, N a, N b] w fun e w' => e = .returned (N r) ∧ Below w.heap.size w w' := by
  have H0 : Hid (_ ∧ _) := ⟨hm, Below.refl w.heap.size w⟩
  clear hm
  have C0 : Hid _ := c0
  have C1 : Hid _ := c1
  have C2 : Hid _ := c2
  clear c0 c1 c2
  go_enter Tryd.func12, Tryd.ntmps12
  refine wp_seq ?_
  refine walk_seqA 3 [.made (cells6 a) 24, .made (cells6 b) 24, .made zero6 24] (sB H0) ?ho1 ?he1
  case ho1 => exact ak (fun γ => ⟨rfl, fun w' => ex_box6 rfl rfl⟩) (ak (fun γ => ⟨rfl, fun w' => ex_box6 rfl rfl⟩) (ak (fun γ => ⟨rfl, fun w' => exec_made6 rfl⟩) trivial))
  intro γ w1 l hM hl
  have M1 : Mm w1 [(γ 0, cells6 a), (γ 1, cells6 b), (γ 2, zero6), (g, modx n o s)] := H0.out.1.grow hM (Nat.le_refl _) hl [0, 1, 2] rfl (by decide)
  have B1 : Below w.heap.size w w1 := H0.out.2.trans ((hM.below).mono H0.out.2.size)
  have o1_0 : Hid (w.heap.size ≤ γ 0) := Nat.le_trans H0.out.2.size (hM.fin (Nat.le_refl _) hl (i := 0) rfl).2.1
  have o1_1 : Hid (w.heap.size ≤ γ 1) := Nat.le_trans H0.out.2.size (hM.fin (Nat.le_refl _) hl (i := 1) rfl).2.1
  have o1_2 : Hid (w.heap.size ≤ γ 2) := Nat.le_trans H0.out.2.size (hM.fin (Nat.le_refl _) hl (i := 2) rfl).2.1
  clear hM hl l
  generalize γ 0 = γ1_0 at M1 o1_0 ⊢
  generalize γ 1 = γ1_1 at M1 o1_1 ⊢
  generalize γ 2 = γ1_2 at M1 o1_2 ⊢
  clear γ
  have H1 : Hid (_ ∧ _) := ⟨M1, B1⟩
  clear M1 B1
  refine rest0 rfl (then_normal (wp_seq (wp_seq ?_)))
  refine walk_seqA 3 [.quiet (PT g 0), .call (.bool true), .quiet (.bool false)] (sB H1) ?ho2 ?he2
  case ho2 => exact ak (fun _ => ⟨rfl, fun _ _ => rfl⟩) (ak (fun γ => ⟨rfl, fun w' h => ⟨35, #[PT g 0], exec_call rfl call35 rfl (mpn rfl), C0.out w' (h.one 3 rfl)⟩⟩) (ak (by refine fun γ => ⟨rfl, fun w' h => ?_⟩; clear h; go_simp) trivial))
  intro γ w2 l hM hl
  have M2 : Mm w2 [(γ1_0, cells6 a), (γ1_1, cells6 b), (γ1_2, zero6), (g, modx n o s)] := H1.out.1.grow hM (Nat.le_refl _) hl [] rfl (by decide)
  have B2 : Below w.heap.size w w2 := H1.out.2.trans ((hM.below).mono H1.out.2.size)
  clear hM hl l H1
  clear γ
  have H2 : Hid (_ ∧ _) := ⟨M2, B2⟩
  clear M2 B2
  refine rest0 rfl (then_normal (wp_cond_false rfl ?_))
  refine wp_skip (then_normal (wp_seq ?_))
  refine walk_seqA 9 [.quiet (N a), .quiet (N b), .call (.tuple #[N u, .bool false]), .quiet (.tuple #[N u, .bool false]), .quiet (N u), .quiet (.bool false), .made zero6 24, .laid 6 zero6 (cells6 u), .quiet (.bool false)] (sB H2) ?ho3 ?he3 (hL := ?hL3)
  case hL3 => exact ⟨⟨_, rfl⟩, trivial⟩
  case ho3 => exact ak (fun γ => ⟨rfl, fun w' h => ex_load6 h 0 rfl rfl rfl rfl⟩) (ak (fun γ => ⟨rfl, fun w' h => ex_load6 h 1 rfl rfl rfl rfl⟩) (ak (fun γ => ⟨rfl, fun w' h => ⟨42, #[N a, N b], exec_call rfl call42 rfl (mpn rfl), C1.out w'⟩⟩) (ak (fun _ => ⟨rfl, fun _ _ => rfl⟩) (ak (by refine fun γ => ⟨rfl, fun w' h => ?_⟩; clear h; go_simp) (ak (by refine fun γ => ⟨rfl, fun w' h => ?_⟩; clear h; go_simp) (ak (fun γ => ⟨rfl, fun w' => exec_made6 rfl⟩) (ak (fun γ => ⟨rfl, rfl, rfl, fun w' h => exec_laid6 h rfl rfl rfl⟩) (ak (fun _ => ⟨rfl, fun _ _ => rfl⟩) trivial))))))))
  intro γ w3 l hM hl
  have M3 : Mm w3 [(γ 6, cells6 u), (γ1_0, cells6 a), (γ1_1, cells6 b), (γ1_2, zero6), (g, modx n o s)] := H2.out.1.grow hM (Nat.le_refl _) hl [6] rfl (by decide)
  have B3 : Below w.heap.size w w3 := H2.out.2.trans ((hM.below).mono H2.out.2.size)
  have o3_6 : Hid (w.heap.size ≤ γ 6) := Nat.le_trans H2.out.2.size (hM.fin (Nat.le_refl _) hl (i := 6) rfl).2.1
  clear hM hl l H2
  generalize γ 6 = γ3_6 at M3 o3_6 ⊢
  clear γ
  have H3 : Hid (_ ∧ _) := ⟨M3, B3⟩
  clear M3 B3
  refine rest0 rfl (then_normal (wp_seq (wp_seq ?_)))
  refine walk_seqA 2 [.quiet (.bool false), .quiet (.bool true)] (sB H3) ?ho4 ?he4
  case ho4 => exact ak (fun _ => ⟨rfl, fun _ _ => rfl⟩) (ak (by refine fun γ => ⟨rfl, fun w' h => ?_⟩; clear h; go_simp) trivial)
  intro γ w4 l hM hl
  have M4 : Mm w4 [(γ3_6, cells6 u), (γ1_0, cells6 a), (γ1_1, cells6 b), (γ1_2, zero6), (g, modx n o s)] := H3.out.1.grow hM (Nat.le_refl _) hl [] rfl (by decide)
  have B4 : Below w.heap.size w w4 := H3.out.2.trans ((hM.below).mono H3.out.2.size)
  clear hM hl l H3
  clear γ
  have H4 : Hid (_ ∧ _) := ⟨M4, B4⟩
  clear M4 B4
  refine rest0 rfl (then_normal (wp_cond_true rfl (wp_seq ?_)))
  refine walk_seqA 3 [.quiet (PT g 0), .quiet (N u), .call (N r)] (sB H4) ?ho5 ?he5
  case ho5 => exact ak (fun _ => ⟨rfl, fun _ _ => rfl⟩) (ak (fun γ => ⟨rfl, fun w' h => ex_load6 h 0 rfl rfl rfl rfl⟩) (ak (fun γ => ⟨rfl, fun w' h => ⟨9, #[PT g 0, N u], exec_call rfl call9 rfl (mpn rfl), C2.out w' (h.one 4 rfl)⟩⟩) trivial))
  intro γ w5 l hM hl
  have M5 : Mm w5 [(γ3_6, cells6 u), (γ1_0, cells6 a), (γ1_1, cells6 b), (γ1_2, zero6), (g, modx n o s)] := H4.out.1.grow hM (Nat.le_refl _) hl [] rfl (by decide)
  have B5 : Below w.heap.size w w5 := H4.out.2.trans ((hM.below).mono H4.out.2.size)
  clear hM hl l H4
  clear γ
  have H5 : Hid (_ ∧ _) := ⟨M5, B5⟩
  clear M5 B5
  refine rest_at (l := [3]) rfl ?_
  refine rest_store rfl rfl rfl (ex_store6 H5.out.1 3 rfl rfl rfl rfl (Nat.le_of_ble_eq_true rfl)) ?_
  have H6 : Hid (Mm (w5.setCells γ1_2 0 (cells6 r)) [(γ3_6, cells6 u), (γ1_0, cells6 a), (γ1_1, cells6 b), (γ1_2, cells6 r), (g, modx n o s)] ∧ Below w.heap.size w (w5.setCells γ1_2 0 (cells6 r))) := ⟨H5.out.1.put 3 (off := 0) (vs := cells6 r) rfl (Nat.le_of_ble_eq_true rfl), below_setCells _ o1_2.out _ _ _ H5.out.2⟩
  clear H5
  generalize hgw : World.setCells _ _ _ _ = w6 at H6 ⊢
  clear hgw
  refine rest_nil (then_normal (wp_ret ?_))
  repeat (first | refine then_ret ?_ | refine block_ret ?_)
  have c0 := H6.out.1.get 3 rfl 0 rfl
  have c1 := H6.out.1.get 3 rfl 1 rfl
  have c2 := H6.out.1.get 3 rfl 2 rfl
  have c3 := H6.out.1.get 3 rfl 3 rfl
  have c4 := H6.out.1.get 3 rfl 4 rfl
  have c5 := H6.out.1.get 3 rfl 5 rfl
  refine bodyPost_ret (v := N r) (by simp [results, Tryd.results12, go_sem, *]) rfl ?_
  exact ⟨rfl, H6.out.2⟩
set_option maxRecDepth 100000 in
theorem sub_2 (g n o s a b u r : Nat)
    (c0 : ∀ w, Mm w [(g, modx n o s)] → Calls Tryd.prog 35 #[PT g 0] w fun e w' => e = .returned (.bool true) ∧ Below w.heap.size w w')
    (c1 : ∀ w, Calls Tryd.prog 42 #[N a, N b] w fun e w' => e = .returned (.tuple #[N u, .bool true]) ∧ Below w.heap.size w w')
    (c2 : ∀ w, Calls Tryd.prog 39 #[N u, N n] w fun e w' => e = .returned (.tuple #[N r, .bool true]) ∧ Below w.heap.size w w') (w : World) (hm : Mm w [(g, modx n o s)]) :
    Calls Tryd.prog 12 #[PT g 0, N a, N b] w fun e w' => e = .returned (N r) ∧ Below w.heap.size w w' := by
  have H0 : Hid (_ ∧ _) := ⟨hm, Below.refl w.heap.size w⟩
  clear hm
  have C0 : Hid _ := c0
  have C1 : Hid _ := c1
  have C2 : Hid _ := c2
  clear c0 c1 c2
  go_enter Tryd.func12, Tryd.ntmps12
  refine wp_seq ?_
  refine walk_seqA 3 [.made (cells6 a) 24, .made (cells6 b) 24, .made zero6 24] (sB H0) ?ho1 ?he1
  case ho1 => exact ak (fun γ => ⟨rfl, fun w' => ex_box6 rfl rfl⟩) (ak (fun γ => ⟨rfl, fun w' => ex_box6 rfl rfl⟩) (ak (fun γ => ⟨rfl, fun w' => exec_made6 rfl⟩) trivial))
  intro γ w1 l hM hl
  have M1 : Mm w1 [(γ 0, cells6 a), (γ 1, cells6 b), (γ 2, zero6), (g, modx n o s)] := H0.out.1.grow hM (Nat.le_refl _) hl [0, 1, 2] rfl (by decide)
  have B1 : Below w.heap.size w w1 := H0.out.2.trans ((hM.below).mono H0.out.2.size)
  have o1_0 : Hid (w.heap.size ≤ γ 0) := Nat.le_trans H0.out.2.size (hM.fin (Nat.le_refl _) hl (i := 0) rfl).2.1
  have o1_1 : Hid (w.heap.size ≤ γ 1) := Nat.le_trans H0.out.2.size (hM.fin (Nat.le_refl _) hl (i := 1) rfl).2.1
  have o1_2 : Hid (w.heap.size ≤ γ 2) := Nat.le_trans H0.out.2.size (hM.fin (Nat.le_refl _) hl (i := 2) rfl).2.1
  clear hM hl l
  generalize γ 0 = γ1_0 at M1 o1_0 ⊢
  generalize γ 1 = γ1_1 at M1 o1_1 ⊢
  generalize γ 2 = γ1_2 at M1 o1_2 ⊢
  clear γ
  have H1 : Hid (_ ∧ _) := ⟨M1, B1⟩
  clear M1 B1
  refine rest0 rfl (then_normal (wp_seq (wp_seq ?_)))
  refine walk_seqA 3 [.quiet (PT g 0), .call (.bool true), .quiet (.bool false)] (sB H1) ?ho2 ?he2
  case ho2 => exact ak (fun _ => ⟨rfl, fun _ _ => rfl⟩) (ak (fun γ => ⟨rfl, fun w' h => ⟨35, #[PT g 0], exec_call rfl call35 rfl (mpn rfl), C0.out w' (h.one 3 rfl)⟩⟩) (ak (by refine fun γ => ⟨rfl, fun w' h => ?_⟩; clear h; go_simp) trivial))
  intro γ w2 l hM hl
  have M2 : Mm w2 [(γ1_0, cells6 a), (γ1_1, cells6 b), (γ1_2, zero6), (g, modx n o s)] := H1.out.1.grow hM (Nat.le_refl _) hl [] rfl (by decide)
  have B2 : Below w.heap.size w w2 := H1.out.2.trans ((hM.below).mono H1.out.2.size)
  clear hM hl l H1
  clear γ
  have H2 : Hid (_ ∧ _) := ⟨M2, B2⟩
  clear M2 B2
  refine rest0 rfl (then_normal (wp_cond_false rfl ?_))
  refine wp_skip (then_normal (wp_seq ?_))
  refine walk_seqA 9 [.quiet (N a), .quiet (N b), .call (.tuple #[N u, .bool true]), .quiet (.tuple #[N u, .bool true]), .quiet (N u), .quiet (.bool true), .made zero6 24, .laid 6 zero6 (cells6 u), .quiet (.bool true)] (sB H2) ?ho3 ?he3 (hL := ?hL3)
  case hL3 => exact ⟨⟨_, rfl⟩, trivial⟩
  case ho3 => exact ak (fun γ => ⟨rfl, fun w' h => ex_load6 h 0 rfl rfl rfl rfl⟩) (ak (fun γ => ⟨rfl, fun w' h => ex_load6 h 1 rfl rfl rfl rfl⟩) (ak (fun γ => ⟨rfl, fun w' h => ⟨42, #[N a, N b], exec_call rfl call42 rfl (mpn rfl), C1.out w'⟩⟩) (ak (fun _ => ⟨rfl, fun _ _ => rfl⟩) (ak (by refine fun γ => ⟨rfl, fun w' h => ?_⟩; clear h; go_simp) (ak (by refine fun γ => ⟨rfl, fun w' h => ?_⟩; clear h; go_simp) (ak (fun γ => ⟨rfl, fun w' => exec_made6 rfl⟩) (ak (fun γ => ⟨rfl, rfl, rfl, fun w' h => exec_laid6 h rfl rfl rfl⟩) (ak (fun _ => ⟨rfl, fun _ _ => rfl⟩) trivial))))))))
  intro γ w3 l hM hl
  have M3 : Mm w3 [(γ 6, cells6 u), (γ1_0, cells6 a), (γ1_1, cells6 b), (γ1_2, zero6), (g, modx n o s)] := H2.out.1.grow hM (Nat.le_refl _) hl [6] rfl (by decide)
  have B3 : Below w.heap.size w w3 := H2.out.2.trans ((hM.below).mono H2.out.2.size)
  have o3_6 : Hid (w.heap.size ≤ γ 6) := Nat.le_trans H2.out.2.size (hM.fin (Nat.le_refl _) hl (i := 6) rfl).2.1
  clear hM hl l H2
  generalize γ 6 = γ3_6 at M3 o3_6 ⊢
  clear γ
  have H3 : Hid (_ ∧ _) := ⟨M3, B3⟩
  clear M3 B3
  refine rest0 rfl (then_normal (wp_seq (wp_seq ?_)))
  refine walk_seqA 2 [.quiet (.bool true), .quiet (.bool false)] (sB H3) ?ho4 ?he4
  case ho4 => exact ak (fun _ => ⟨rfl, fun _ _ => rfl⟩) (ak (by refine fun γ => ⟨rfl, fun w' h => ?_⟩; clear h; go_simp) trivial)
  intro γ w4 l hM hl
  have M4 : Mm w4 [(γ3_6, cells6 u), (γ1_0, cells6 a), (γ1_1, cells6 b), (γ1_2, zero6), (g, modx n o s)] := H3.out.1.grow hM (Nat.le_refl _) hl [] rfl (by decide)
  have B4 : Below w.heap.size w w4 := H3.out.2.trans ((hM.below).mono H3.out.2.size)
  clear hM hl l H3
  clear γ
  have H4 : Hid (_ ∧ _) := ⟨M4, B4⟩
  clear M4 B4
  refine rest0 rfl (then_normal (wp_cond_false rfl ?_))
  refine wp_skip (then_normal (wp_seq ?_))
  refine walk_anyA 12 [.quiet (N u), .quiet (PT g 0), .quiet (PT g 0), .quiet (PT g 0), .quiet (N n), .call (.tuple #[N r, .bool true]), .quiet (.tuple #[N r, .bool true]), .quiet (N r), .quiet (.bool true), .made zero6 24, .laid 9 zero6 (cells6 r), .quiet (.bool true)] (sB H4) ?ho5 ?he5 (hL := ?hL5)
  case hL5 => exact ⟨⟨_, rfl⟩, trivial⟩
  case ho5 => exact ak (fun γ => ⟨rfl, fun w' h => ex_load6 h 0 rfl rfl rfl rfl⟩) (ak (fun _ => ⟨rfl, fun _ _ => rfl⟩) (ak (by refine fun γ => ⟨rfl, fun w' h => ?_⟩; clear h; go_simp) (ak (by refine fun γ => ⟨rfl, fun w' h => ?_⟩; clear h; go_simp) (ak (fun γ => ⟨rfl, fun w' h => ex_load6 h 4 rfl rfl rfl rfl⟩) (ak (fun γ => ⟨rfl, fun w' h => ⟨39, #[N u, N n], exec_call rfl call39 rfl (mpn rfl), C2.out w'⟩⟩) (ak (fun _ => ⟨rfl, fun _ _ => rfl⟩) (ak (by refine fun γ => ⟨rfl, fun w' h => ?_⟩; clear h; go_simp) (ak (by refine fun γ => ⟨rfl, fun w' h => ?_⟩; clear h; go_simp) (ak (fun γ => ⟨rfl, fun w' => exec_made6 rfl⟩) (ak (fun γ => ⟨rfl, rfl, rfl, fun w' h => exec_laid6 h rfl rfl rfl⟩) (ak (fun _ => ⟨rfl, fun _ _ => rfl⟩) trivial)))))))))))
  intro γ w5 l hM hl
  have M5 : Mm w5 [(γ 9, cells6 r), (γ3_6, cells6 u), (γ1_0, cells6 a), (γ1_1, cells6 b), (γ1_2, zero6), (g, modx n o s)] := H4.out.1.grow hM (Nat.le_refl _) hl [9] rfl (by decide)
  have B5 : Below w.heap.size w w5 := H4.out.2.trans ((hM.below).mono H4.out.2.size)
  have o5_9 : Hid (w.heap.size ≤ γ 9) := Nat.le_trans H4.out.2.size (hM.fin (Nat.le_refl _) hl (i := 9) rfl).2.1
  clear hM hl l H4
  generalize γ 9 = γ5_9 at M5 o5_9 ⊢
  clear γ
  have H5 : Hid (_ ∧ _) := ⟨M5, B5⟩
  clear M5 B5
  refine rest0 rfl (then_normal (wp_seq (wp_seq ?_)))
  refine walk_seqA 1 [.quiet (.bool true)] (sB H5) ?ho6 ?he6
  case ho6 => exact ak (fun _ => ⟨rfl, fun _ _ => rfl⟩) trivial
  intro γ w6 l hM hl
  have M6 : Mm w6 [(γ5_9, cells6 r), (γ3_6, cells6 u), (γ1_0, cells6 a), (γ1_1, cells6 b), (γ1_2, zero6), (g, modx n o s)] := H5.out.1.grow hM (Nat.le_refl _) hl [] rfl (by decide)
  have B6 : Below w.heap.size w w6 := H5.out.2.trans ((hM.below).mono H5.out.2.size)
  clear hM hl l H5
  clear γ
  have H6 : Hid (_ ∧ _) := ⟨M6, B6⟩
  clear M6 B6
  refine rest0 rfl (then_normal (wp_cond_true rfl (wp_seq ?_)))
  refine walk_seqA 1 [.quiet (N r)] (sB H6) ?ho7 ?he7
  case ho7 => exact ak (fun γ => ⟨rfl, fun w' h => ex_load6 h 0 rfl rfl rfl rfl⟩) trivial
  intro γ w7 l hM hl
  have M7 : Mm w7 [(γ5_9, cells6 r), (γ3_6, cells6 u), (γ1_0, cells6 a), (γ1_1, cells6 b), (γ1_2, zero6), (g, modx n o s)] := H6.out.1.grow hM (Nat.le_refl _) hl [] rfl (by decide)
  have B7 : Below w.heap.size w w7 := H6.out.2.trans ((hM.below).mono H6.out.2.size)
  clear hM hl l H6
  clear γ
  have H7 : Hid (_ ∧ _) := ⟨M7, B7⟩
  clear M7 B7
  refine rest_at (l := [1]) rfl ?_
  refine rest_store rfl rfl rfl (ex_store6 H7.out.1 4 rfl rfl rfl rfl (Nat.le_of_ble_eq_true rfl)) ?_
  have H8 : Hid (Mm (w7.setCells γ1_2 0 (cells6 r)) [(γ5_9, cells6 r), (γ3_6, cells6 u), (γ1_0, cells6 a), (γ1_1, cells6 b), (γ1_2, cells6 r), (g, modx n o s)] ∧ Below w.heap.size w (w7.setCells γ1_2 0 (cells6 r))) := ⟨H7.out.1.put 4 (off := 0) (vs := cells6 r) rfl (Nat.le_of_ble_eq_true rfl), below_setCells _ o1_2.out _ _ _ H7.out.2⟩
  clear H7
  generalize hgw : World.setCells _ _ _ _ = w8 at H8 ⊢
  clear hgw
  refine rest_nil (then_normal (wp_ret ?_))
  repeat (first | refine then_ret ?_ | refine block_ret ?_)
  have c0 := H8.out.1.get 4 rfl 0 rfl
  have c1 := H8.out.1.get 4 rfl 1 rfl
  have c2 := H8.out.1.get 4 rfl 2 rfl
  have c3 := H8.out.1.get 4 rfl 3 rfl
  have c4 := H8.out.1.get 4 rfl 4 rfl
  have c5 := H8.out.1.get 4 rfl 5 rfl
  refine bodyPost_ret (v := N r) (by simp [results, Tryd.results12, go_sem, *]) rfl ?_
  exact ⟨rfl, H8.out.2⟩
set_option maxRecDepth 100000 in
theorem sub_3 (g n o s a b u v x y r : Nat)
    (c0 : ∀ w, Mm w [(g, modx n o s)] → Calls Tryd.prog 35 #[PT g 0] w fun e w' => e = .returned (.bool true) ∧ Below w.heap.size w w')
    (c1 : ∀ w, Calls Tryd.prog 42 #[N a, N b] w fun e w' => e = .returned (.tuple #[N u, .bool true]) ∧ Below w.heap.size w w')
    (c2 : ∀ w, Calls Tryd.prog 39 #[N u, N n] w fun e w' => e = .returned (.tuple #[N v, .bool false]) ∧ Below w.heap.size w w')
    (c3 : ∀ w, Mm w [(g, modx n o s)] → Calls Tryd.prog 9 #[PT g 0, N b] w fun e w' => e = .returned (N x) ∧ Below w.heap.size w w')
    (c4 : ∀ w, Calls Tryd.prog 42 #[N n, N x] w fun e w' => e = .returned (.tuple #[N y, .bool false]) ∧ Below w.heap.size w w')
    (c5 : ∀ w, Mm w [(g, modx n o s)] → Calls Tryd.prog 11 #[PT g 0, N a, N y] w fun e w' => e = .returned (N r) ∧ Below w.heap.size w w') (w : World) (hm : Mm w [(g, modx n o s)]) :
    Calls Tryd.prog 12 #[PT g 0, N a, N b] w fun e w' => e = .returned (N r) ∧ Below w.heap.size w w' := by
  have H0 : Hid (_ ∧ _) := ⟨hm, Below.refl w.heap.size w⟩
  clear hm
  have C0 : Hid _ := c0
  have C1 : Hid _ := c1
  have C2 : Hid _ := c2
  have C3 : Hid _ := c3
  have C4 : Hid _ := c4
  have C5 : Hid _ := c5
  clear c0 c1 c2 c3 c4 c5
  go_enter Tryd.func12, Tryd.ntmps12
  refine wp_seq ?_
  refine walk_seqA 3 [.made (cells6 a) 24, .made (cells6 b) 24, .made zero6 24] (sB H0) ?ho1 ?he1
  case ho1 => exact ak (fun γ => ⟨rfl, fun w' => ex_box6 rfl rfl⟩) (ak (fun γ => ⟨rfl, fun w' => ex_box6 rfl rfl⟩) (ak (fun γ => ⟨rfl, fun w' => exec_made6 rfl⟩) trivial))
  intro γ w1 l hM hl
  have M1 : Mm w1 [(γ 0, cells6 a), (γ 1, cells6 b), (γ 2, zero6), (g, modx n o s)] := H0.out.1.grow hM (Nat.le_refl _) hl [0, 1, 2] rfl (by decide)
  have B1 : Below w.heap.size w w1 := H0.out.2.trans ((hM.below).mono H0.out.2.size)
  have o1_0 : Hid (w.heap.size ≤ γ 0) := Nat.le_trans H0.out.2.size (hM.fin (Nat.le_refl _) hl (i := 0) rfl).2.1
  have o1_1 : Hid (w.heap.size ≤ γ 1) := Nat.le_trans H0.out.2.size (hM.fin (Nat.le_refl _) hl (i := 1) rfl).2.1
  have o1_2 : Hid (w.heap.size ≤ γ 2) := Nat.le_trans H0.out.2.size (hM.fin (Nat.le_refl _) hl (i := 2) rfl).2.1
  clear hM hl l
  generalize γ 0 = γ1_0 at M1 o1_0 ⊢
  generalize γ 1 = γ1_1 at M1 o1_1 ⊢
  generalize γ 2 = γ1_2 at M1 o1_2 ⊢
  clear γ
  have H1 : Hid (_ ∧ _) := ⟨M1, B1⟩
  clear M1 B1
  refine rest0 rfl (then_normal (wp_seq (wp_seq ?_)))
  refine walk_seqA 3 [.quiet (PT g 0), .call (.bool true), .quiet (.bool false)] (sB H1) ?ho2 ?he2
  case ho2 => exact ak (fun _ => ⟨rfl, fun _ _ => rfl⟩) (ak (fun γ => ⟨rfl, fun w' h => ⟨35, #[PT g 0], exec_call rfl call35 rfl (mpn rfl), C0.out w' (h.one 3 rfl)⟩⟩) (ak (by refine fun γ => ⟨rfl, fun w' h => ?_⟩; clear h; go_simp) trivial))
  intro γ w2 l hM hl
  have M2 : Mm w2 [(γ1_0, cells6 a), (γ1_1, cells6 b), (γ1_2, zero6), (g, modx n o s)] := H1.out.1.grow hM (Nat.le_refl _) hl [] rfl (by decide)
  have B2 : Below w.heap.size w w2 := H1.out.2.trans ((hM.below).mono H1.out.2.size)
  clear hM hl l H1
  clear γ
  have H2 : Hid (_ ∧ _) := ⟨M2, B2⟩
  clear M2 B2
  refine rest0 rfl (then_normal (wp_cond_false rfl ?_))
  refine wp_skip (then_normal (wp_seq ?_))
  refine walk_seqA 9 [.quiet (N a), .quiet (N b), .call (.tuple #[N u, .bool true]), .quiet (.tuple #[N u, .bool true]), .quiet (N u), .quiet (.bool true), .made zero6 24, .laid 6 zero6 (cells6 u), .quiet (.bool true)] (sB H2) ?ho3 ?he3 (hL := ?hL3)
  case hL3 => exact ⟨⟨_, rfl⟩, trivial⟩
  case ho3 => exact ak (fun γ => ⟨rfl, fun w' h => ex_load6 h 0 rfl rfl rfl rfl⟩) (ak (fun γ => ⟨rfl, fun w' h => ex_load6 h 1 rfl rfl rfl rfl⟩) (ak (fun γ => ⟨rfl, fun w' h => ⟨42, #[N a, N b], exec_call rfl call42 rfl (mpn rfl), C1.out w'⟩⟩) (ak (fun _ => ⟨rfl, fun _ _ => rfl⟩) (ak (by refine fun γ => ⟨rfl, fun w' h => ?_⟩; clear h; go_simp) (ak (by refine fun γ => ⟨rfl, fun w' h => ?_⟩; clear h; go_simp) (ak (fun γ => ⟨rfl, fun w' => exec_made6 rfl⟩) (ak (fun γ => ⟨rfl, rfl, rfl, fun w' h => exec_laid6 h rfl rfl rfl⟩) (ak (fun _ => ⟨rfl, fun _ _ => rfl⟩) trivial))))))))
  intro γ w3 l hM hl
  have M3 : Mm w3 [(γ 6, cells6 u), (γ1_0, cells6 a), (γ1_1, cells6 b), (γ1_2, zero6), (g, modx n o s)] := H2.out.1.grow hM (Nat.le_refl _) hl [6] rfl (by decide)
  have B3 : Below w.heap.size w w3 := H2.out.2.trans ((hM.below).mono H2.out.2.size)
  have o3_6 : Hid (w.heap.size ≤ γ 6) := Nat.le_trans H2.out.2.size (hM.fin (Nat.le_refl _) hl (i := 6) rfl).2.1
  clear hM hl l H2
  generalize γ 6 = γ3_6 at M3 o3_6 ⊢
  clear γ
  have H3 : Hid (_ ∧ _) := ⟨M3, B3⟩
  clear M3 B3
  refine rest0 rfl (then_normal (wp_seq (wp_seq ?_)))
  refine walk_seqA 2 [.quiet (.bool true), .quiet (.bool false)] (sB H3) ?ho4 ?he4
  case ho4 => exact ak (fun _ => ⟨rfl, fun _ _ => rfl⟩) (ak (by refine fun γ => ⟨rfl, fun w' h => ?_⟩; clear h; go_simp) trivial)
  intro γ w4 l hM hl
  have M4 : Mm w4 [(γ3_6, cells6 u), (γ1_0, cells6 a), (γ1_1, cells6 b), (γ1_2, zero6), (g, modx n o s)] := H3.out.1.grow hM (Nat.le_refl _) hl [] rfl (by decide)
  have B4 : Below w.heap.size w w4 := H3.out.2.trans ((hM.below).mono H3.out.2.size)
  clear hM hl l H3
  clear γ
  have H4 : Hid (_ ∧ _) := ⟨M4, B4⟩
  clear M4 B4
  refine rest0 rfl (then_normal (wp_cond_false rfl ?_))
  refine wp_skip (then_normal (wp_seq ?_))
  refine walk_anyA 12 [.quiet (N u), .quiet (PT g 0), .quiet (PT g 0), .quiet (PT g 0), .quiet (N n), .call (.tuple #[N v, .bool false]), .quiet (.tuple #[N v, .bool false]), .quiet (N v), .quiet (.bool false), .made zero6 24, .laid 9 zero6 (cells6 v), .quiet (.bool false)] (sB H4) ?ho5 ?he5 (hL := ?hL5)
  case hL5 => exact ⟨⟨_, rfl⟩, trivial⟩
  case ho5 => exact ak (fun γ => ⟨rfl, fun w' h => ex_load6 h 0 rfl rfl rfl rfl⟩) (ak (fun _ => ⟨rfl, fun _ _ => rfl⟩) (ak (by refine fun γ => ⟨rfl, fun w' h => ?_⟩; clear h; go_simp) (ak (by refine fun γ => ⟨rfl, fun w' h => ?_⟩; clear h; go_simp) (ak (fun γ => ⟨rfl, fun w' h => ex_load6 h 4 rfl rfl rfl rfl⟩) (ak (fun γ => ⟨rfl, fun w' h => ⟨39, #[N u, N n], exec_call rfl call39 rfl (mpn rfl), C2.out w'⟩⟩) (ak (fun _ => ⟨rfl, fun _ _ => rfl⟩) (ak (by refine fun γ => ⟨rfl, fun w' h => ?_⟩; clear h; go_simp) (ak (by refine fun γ => ⟨rfl, fun w' h => ?_⟩; clear h; go_simp) (ak (fun γ => ⟨rfl, fun w' => exec_made6 rfl⟩) (ak (fun γ => ⟨rfl, rfl, rfl, fun w' h => exec_laid6 h rfl rfl rfl⟩) (ak (fun _ => ⟨rfl, fun _ _ => rfl⟩) trivial)))))))))))
  intro γ w5 l hM hl
  have M5 : Mm w5 [(γ 9, cells6 v), (γ3_6, cells6 u), (γ1_0, cells6 a), (γ1_1, cells6 b), (γ1_2, zero6), (g, modx n o s)] := H4.out.1.grow hM (Nat.le_refl _) hl [9] rfl (by decide)
  have B5 : Below w.heap.size w w5 := H4.out.2.trans ((hM.below).mono H4.out.2.size)
  have o5_9 : Hid (w.heap.size ≤ γ 9) := Nat.le_trans H4.out.2.size (hM.fin (Nat.le_refl _) hl (i := 9) rfl).2.1
  clear hM hl l H4
  generalize γ 9 = γ5_9 at M5 o5_9 ⊢
  clear γ
  have H5 : Hid (_ ∧ _) := ⟨M5, B5⟩
  clear M5 B5
  refine rest0 rfl (then_normal (wp_seq (wp_seq ?_)))
  refine walk_seqA 1 [.quiet (.bool false)] (sB H5) ?ho6 ?he6
  case ho6 => exact ak (fun _ => ⟨rfl, fun _ _ => rfl⟩) trivial
  intro γ w6 l hM hl
  have M6 : Mm w6 [(γ5_9, cells6 v), (γ3_6, cells6 u), (γ1_0, cells6 a), (γ1_1, cells6 b), (γ1_2, zero6), (g, modx n o s)] := H5.out.1.grow hM (Nat.le_refl _) hl [] rfl (by decide)
  have B6 : Below w.heap.size w w6 := H5.out.2.trans ((hM.below).mono H5.out.2.size)
  clear hM hl l H5
  clear γ
  have H6 : Hid (_ ∧ _) := ⟨M6, B6⟩
  clear M6 B6
  refine rest0 rfl (then_normal (wp_cond_false rfl ?_))
  refine wp_skip (then_normal (wp_seq ?_))
  refine walk_anyA 14 [.quiet (PT g 0), .quiet (PT g 0), .quiet (PT g 0), .quiet (N n), .quiet (PT g 0), .quiet (N b), .call (N x), .call (.tuple #[N y, .bool false]), .quiet (.tuple #[N y, .bool false]), .quiet (N y), .quiet (.bool false), .made zero6 24, .laid 11 zero6 (cells6 y), .quiet (.bool false)] (sB H6) ?ho7 ?he7 (hL := ?hL7)
  case hL7 => exact ⟨⟨_, rfl⟩, trivial⟩
  case ho7 => exact ak (fun _ => ⟨rfl, fun _ _ => rfl⟩) (ak (by refine fun γ => ⟨rfl, fun w' h => ?_⟩; clear h; go_simp) (ak (by refine fun γ => ⟨rfl, fun w' h => ?_⟩; clear h; go_simp) (ak (fun γ => ⟨rfl, fun w' h => ex_load6 h 5 rfl rfl rfl rfl⟩) (ak (fun _ => ⟨rfl, fun _ _ => rfl⟩) (ak (fun γ => ⟨rfl, fun w' h => ex_load6 h 3 rfl rfl rfl rfl⟩) (ak (fun γ => ⟨rfl, fun w' h => ⟨9, #[PT g 0, N b], exec_call rfl call9 rfl (mpn rfl), C3.out w' (h.one 5 rfl)⟩⟩) (ak (fun γ => ⟨rfl, fun w' h => ⟨42, #[N n, N x], exec_call rfl call42 rfl (mpn rfl), C4.out w'⟩⟩) (ak (fun _ => ⟨rfl, fun _ _ => rfl⟩) (ak (by refine fun γ => ⟨rfl, fun w' h => ?_⟩; clear h; go_simp) (ak (by refine fun γ => ⟨rfl, fun w' h => ?_⟩; clear h; go_simp) (ak (fun γ => ⟨rfl, fun w' => exec_made6 rfl⟩) (ak (fun γ => ⟨rfl, rfl, rfl, fun w' h => exec_laid6 h rfl rfl rfl⟩) (ak (fun _ => ⟨rfl, fun _ _ => rfl⟩) trivial)))))))))))))
  intro γ w7 l hM hl
  have M7 : Mm w7 [(γ 11, cells6 y), (γ5_9, cells6 v), (γ3_6, cells6 u), (γ1_0, cells6 a), (γ1_1, cells6 b), (γ1_2, zero6), (g, modx n o s)] := H6.out.1.grow hM (Nat.le_refl _) hl [11] rfl (by decide)
  have B7 : Below w.heap.size w w7 := H6.out.2.trans ((hM.below).mono H6.out.2.size)
  have o7_11 : Hid (w.heap.size ≤ γ 11) := Nat.le_trans H6.out.2.size (hM.fin (Nat.le_refl _) hl (i := 11) rfl).2.1
  clear hM hl l H6
  generalize γ 11 = γ7_11 at M7 o7_11 ⊢
  clear γ
  have H7 : Hid (_ ∧ _) := ⟨M7, B7⟩
  clear M7 B7
  refine rest0 rfl (then_normal (wp_seq ?_))
  refine walk_seqA 4 [.quiet (PT g 0), .quiet (N a), .quiet (N y), .call (N r)] (sB H7) ?ho8 ?he8
  case ho8 => exact ak (fun _ => ⟨rfl, fun _ _ => rfl⟩) (ak (fun γ => ⟨rfl, fun w' h => ex_load6 h 3 rfl rfl rfl rfl⟩) (ak (fun γ => ⟨rfl, fun w' h => ex_load6 h 0 rfl rfl rfl rfl⟩) (ak (fun γ => ⟨rfl, fun w' h => ⟨11, #[PT g 0, N a, N y], exec_call rfl call11 rfl (mpn rfl), C5.out w' (h.one 6 rfl)⟩⟩) trivial)))
  intro γ w8 l hM hl
  have M8 : Mm w8 [(γ7_11, cells6 y), (γ5_9, cells6 v), (γ3_6, cells6 u), (γ1_0, cells6 a), (γ1_1, cells6 b), (γ1_2, zero6), (g, modx n o s)] := H7.out.1.grow hM (Nat.le_refl _) hl [] rfl (by decide)
  have B8 : Below w.heap.size w w8 := H7.out.2.trans ((hM.below).mono H7.out.2.size)
  clear hM hl l H7
  clear γ
  have H8 : Hid (_ ∧ _) := ⟨M8, B8⟩
  clear M8 B8
  refine rest_at (l := [4]) rfl ?_
  refine rest_store rfl rfl rfl (ex_store6 H8.out.1 5 rfl rfl rfl rfl (Nat.le_of_ble_eq_true rfl)) ?_
  have H9 : Hid (Mm (w8.setCells γ1_2 0 (cells6 r)) [(γ7_11, cells6 y), (γ5_9, cells6 v), (γ3_6, cells6 u), (γ1_0, cells6 a), (γ1_1, cells6 b), (γ1_2, cells6 r), (g, modx n o s)] ∧ Below w.heap.size w (w8.setCells γ1_2 0 (cells6 r))) := ⟨H8.out.1.put 5 (off := 0) (vs := cells6 r) rfl (Nat.le_of_ble_eq_true rfl), below_setCells _ o1_2.out _ _ _ H8.out.2⟩
  clear H8
  generalize hgw : World.setCells _ _ _ _ = w9 at H9 ⊢
  clear hgw
  refine rest_nil (then_normal (wp_ret ?_))
  repeat (first | refine then_ret ?_ | refine block_ret ?_)
  have c0 := H9.out.1.get 5 rfl 0 rfl
  have c1 := H9.out.1.get 5 rfl 1 rfl
  have c2 := H9.out.1.get 5 rfl 2 rfl
  have c3 := H9.out.1.get 5 rfl 3 rfl
  have c4 := H9.out.1.get 5 rfl 4 rfl
  have c5 := H9.out.1.get 5 rfl 5 rfl
  refine bodyPost_ret (v := N r) (by simp [results, Tryd.results12, go_sem, *]) rfl ?_
  exact ⟨rfl, H9.out.2⟩
set_option maxRecDepth 100000 in
theorem neg_gen (g n o s a r : Nat)
    (c0 : ∀ w, Mm w [(g, modx n o s)] → Calls Tryd.prog 12 #[PT g 0, N 0, N a] w fun e w' => e = .returned (N r) ∧ Below w.heap.size w w') (w : World) (hm : Mm w [(g, modx n o s)]) :
    Calls Tryd.prog 13 #[PT g 0, N a] w fun e w' => e = .returned (N r) ∧ Below w.heap.size w w' := by
  have H0 : Hid (_ ∧ _) := ⟨hm, Below.refl w.heap.size w⟩
  clear hm
  have C0 : Hid _ := c0
  clear c0
  go_enter Tryd.func13, Tryd.ntmps13
  refine wp_seq ?_
  refine walk_seqA 2 [.made (cells6 a) 24, .made zero6 24] (sB H0) ?ho1 ?he1
  case ho1 => exact ak (fun γ => ⟨rfl, fun w' => ex_box6 rfl rfl⟩) (ak (fun γ => ⟨rfl, fun w' => exec_made6 rfl⟩) trivial)
  intro γ w1 l hM hl
  have M1 : Mm w1 [(γ 0, cells6 a), (γ 1, zero6), (g, modx n o s)] := H0.out.1.grow hM (Nat.le_refl _) hl [0, 1] rfl (by decide)
  have B1 : Below w.heap.size w w1 := H0.out.2.trans ((hM.below).mono H0.out.2.size)
  have o1_0 : Hid (w.heap.size ≤ γ 0) := Nat.le_trans H0.out.2.size (hM.fin (Nat.le_refl _) hl (i := 0) rfl).2.1
  have o1_1 : Hid (w.heap.size ≤ γ 1) := Nat.le_trans H0.out.2.size (hM.fin (Nat.le_refl _) hl (i := 1) rfl).2.1
  clear hM hl l
  generalize γ 0 = γ1_0 at M1 o1_0 ⊢
  generalize γ 1 = γ1_1 at M1 o1_1 ⊢
  clear γ
  have H1 : Hid (_ ∧ _) := ⟨M1, B1⟩
  clear M1 B1
  refine rest0 rfl (then_normal (wp_seq ?_))
  refine walk_seqA 4 [.quiet (PT g 0), .quiet (N 0), .quiet (N a), .call (N r)] (sB H1) ?ho2 ?he2
  case ho2 => exact ak (fun _ => ⟨rfl, fun _ _ => rfl⟩) (ak (by refine fun γ => ⟨rfl, fun w' h => ?_⟩; clear h; exact ex_zero6 rfl) (ak (fun γ => ⟨rfl, fun w' h => ex_load6 h 0 rfl rfl rfl rfl⟩) (ak (fun γ => ⟨rfl, fun w' h => ⟨12, #[PT g 0, N 0, N a], exec_call rfl call12 rfl (mpn rfl), C0.out w' (h.one 2 rfl)⟩⟩) trivial)))
  intro γ w2 l hM hl
  have M2 : Mm w2 [(γ1_0, cells6 a), (γ1_1, zero6), (g, modx n o s)] := H1.out.1.grow hM (Nat.le_refl _) hl [] rfl (by decide)
  have B2 : Below w.heap.size w w2 := H1.out.2.trans ((hM.below).mono H1.out.2.size)
  clear hM hl l H1
  clear γ
  have H2 : Hid (_ ∧ _) := ⟨M2, B2⟩
  clear M2 B2
  refine rest_at (l := [4]) rfl ?_
  refine rest_store rfl rfl rfl (ex_store6 H2.out.1 1 rfl rfl rfl rfl (Nat.le_of_ble_eq_true rfl)) ?_
  have H3 : Hid (Mm (w2.setCells γ1_1 0 (cells6 r)) [(γ1_0, cells6 a), (γ1_1, cells6 r), (g, modx n o s)] ∧ Below w.heap.size w (w2.setCells γ1_1 0 (cells6 r))) := ⟨H2.out.1.put 1 (off := 0) (vs := cells6 r) rfl (Nat.le_of_ble_eq_true rfl), below_setCells _ o1_1.out _ _ _ H2.out.2⟩
  clear H2
  generalize hgw : World.setCells _ _ _ _ = w3 at H3 ⊢
  clear hgw
  refine rest_nil (then_normal (wp_ret ?_))
  repeat (first | refine then_ret ?_ | refine block_ret ?_)
  have c0 := H3.out.1.get 1 rfl 0 rfl
  have c1 := H3.out.1.get 1 rfl 1 rfl
  have c2 := H3.out.1.get 1 rfl 2 rfl
  have c3 := H3.out.1.get 1 rfl 3 rfl
  have c4 := H3.out.1.get 1 rfl 4 rfl
  have c5 := H3.out.1.get 1 rfl 5 rfl
  refine bodyPost_ret (v := N r) (by simp [results, Tryd.results13, go_sem, *]) rfl ?_
  exact ⟨rfl, H3.out.2⟩
set_option maxRecDepth 100000 in
theorem mul_gen (g n o s a b p r : Nat)
    (c0 : ∀ w, Mm w [(g, modx n o s)] → Calls Tryd.prog 35 #[PT g 0] w fun e w' => e = .returned (.bool true) ∧ Below w.heap.size w w')
    (c1 : ∀ w, Mm w [(g, modx n o s)] → Calls Tryd.prog 43 #[PT g 0, N a, N s] w fun e w' => e = .returned (N p) ∧ Below w.heap.size w w')
    (c2 : ∀ w, Mm w [(g, modx n o s)] → Calls Tryd.prog 43 #[PT g 0, N b, N p] w fun e w' => e = .returned (N r) ∧ Below w.heap.size w w') (w : World) (hm : Mm w [(g, modx n o s)]) :
    Calls Tryd.prog 14 #[PT g 0, N a, N b] w fun e w' => e = .returned (N r) ∧ Below w.heap.size w w' := by
  have H0 : Hid (_ ∧ _) := ⟨hm, Below.refl w.heap.size w⟩
  clear hm
  have C0 : Hid _ := c0
  have C1 : Hid _ := c1
  have C2 : Hid _ := c2
  clear c0 c1 c2
  go_enter Tryd.func14, Tryd.ntmps14
  refine wp_seq ?_
  refine walk_seqA 3 [.made (cells6 a) 24, .made (cells6 b) 24, .made zero6 24] (sB H0) ?ho1 ?he1
  case ho1 => exact ak (fun γ => ⟨rfl, fun w' => ex_box6 rfl rfl⟩) (ak (fun γ => ⟨rfl, fun w' => ex_box6 rfl rfl⟩) (ak (fun γ => ⟨rfl, fun w' => exec_made6 rfl⟩) trivial))
  intro γ w1 l hM hl
  have M1 : Mm w1 [(γ 0, cells6 a), (γ 1, cells6 b), (γ 2, zero6), (g, modx n o s)] := H0.out.1.grow hM (Nat.le_refl _) hl [0, 1, 2] rfl (by decide)
  have B1 : Below w.heap.size w w1 := H0.out.2.trans ((hM.below).mono H0.out.2.size)
  have o1_0 : Hid (w.heap.size ≤ γ 0) := Nat.le_trans H0.out.2.size (hM.fin (Nat.le_refl _) hl (i := 0) rfl).2.1
  have o1_1 : Hid (w.heap.size ≤ γ 1) := Nat.le_trans H0.out.2.size (hM.fin (Nat.le_refl _) hl (i := 1) rfl).2.1
  have o1_2 : Hid (w.heap.size ≤ γ 2) := Nat.le_trans H0.out.2.size (hM.fin (Nat.le_refl _) hl (i := 2) rfl).2.1
  clear hM hl l
  generalize γ 0 = γ1_0 at M1 o1_0 ⊢
  generalize γ 1 = γ1_1 at M1 o1_1 ⊢
  generalize γ 2 = γ1_2 at M1 o1_2 ⊢
  clear γ
  have H1 : Hid (_ ∧ _) := ⟨M1, B1⟩
  clear M1 B1
  refine rest0 rfl (then_normal (wp_seq (wp_seq ?_)))
  refine walk_seqA 3 [.quiet (PT g 0), .call (.bool true), .quiet (.bool false)] (sB H1) ?ho2 ?he2
  case ho2 => exact ak (fun _ => ⟨rfl, fun _ _ => rfl⟩) (ak (fun γ => ⟨rfl, fun w' h => ⟨35, #[PT g 0], exec_call rfl call35 rfl (mpn rfl), C0.out w' (h.one 3 rfl)⟩⟩) (ak (by refine fun γ => ⟨rfl, fun w' h => ?_⟩; clear h; go_simp) trivial))
  intro γ w2 l hM hl
  have M2 : Mm w2 [(γ1_0, cells6 a), (γ1_1, cells6 b), (γ1_2, zero6), (g, modx n o s)] := H1.out.1.grow hM (Nat.le_refl _) hl [] rfl (by decide)
  have B2 : Below w.heap.size w w2 := H1.out.2.trans ((hM.below).mono H1.out.2.size)
  clear hM hl l H1
  clear γ
  have H2 : Hid (_ ∧ _) := ⟨M2, B2⟩
  clear M2 B2
  refine rest0 rfl (then_normal (wp_cond_false rfl ?_))
  refine wp_skip (then_normal (wp_seq ?_))
  refine walk_anyA 10 [.quiet (PT g 0), .quiet (N b), .quiet (PT g 0), .quiet (N a), .quiet (PT g 0), .quiet (PT g 0), .quiet (PT g 13), .quiet (N s), .call (N p), .call (N r)] (sB H2) ?ho3 ?he3
  case ho3 => exact ak (fun _ => ⟨rfl, fun _ _ => rfl⟩) (ak (fun γ => ⟨rfl, fun w' h => ex_load6 h 1 rfl rfl rfl rfl⟩) (ak (fun _ => ⟨rfl, fun _ _ => rfl⟩) (ak (fun γ => ⟨rfl, fun w' h => ex_load6 h 0 rfl rfl rfl rfl⟩) (ak (fun _ => ⟨rfl, fun _ _ => rfl⟩) (ak (by refine fun γ => ⟨rfl, fun w' h => ?_⟩; clear h; go_simp) (ak (by refine fun γ => ⟨rfl, fun w' h => ?_⟩; clear h; go_simp) (ak (fun γ => ⟨rfl, fun w' h => ex_load6 h 3 rfl rfl rfl rfl⟩) (ak (fun γ => ⟨rfl, fun w' h => ⟨43, #[PT g 0, N a, N s], exec_call rfl call43 rfl (mpn rfl), C1.out w' (h.one 3 rfl)⟩⟩) (ak (fun γ => ⟨rfl, fun w' h => ⟨43, #[PT g 0, N b, N p], exec_call rfl call43 rfl (mpn rfl), C2.out w' (h.one 3 rfl)⟩⟩) trivial)))))))))
  intro γ w3 l hM hl
  have M3 : Mm w3 [(γ1_0, cells6 a), (γ1_1, cells6 b), (γ1_2, zero6), (g, modx n o s)] := H2.out.1.grow hM (Nat.le_refl _) hl [] rfl (by decide)
  have B3 : Below w.heap.size w w3 := H2.out.2.trans ((hM.below).mono H2.out.2.size)
  clear hM hl l H2
  clear γ
  have H3 : Hid (_ ∧ _) := ⟨M3, B3⟩
  clear M3 B3
  refine rest_at (l := [10]) rfl ?_
  refine rest_store rfl rfl rfl (ex_store6 H3.out.1 2 rfl rfl rfl rfl (Nat.le_of_ble_eq_true rfl)) ?_
  have H4 : Hid (Mm (w3.setCells γ1_2 0 (cells6 r)) [(γ1_0, cells6 a), (γ1_1, cells6 b), (γ1_2, cells6 r), (g, modx n o s)] ∧ Below w.heap.size w (w3.setCells γ1_2 0 (cells6 r))) := ⟨H3.out.1.put 2 (off := 0) (vs := cells6 r) rfl (Nat.le_of_ble_eq_true rfl), below_setCells _ o1_2.out _ _ _ H3.out.2⟩
  clear H3
  generalize hgw : World.setCells _ _ _ _ = w4 at H4 ⊢
  clear hgw
  refine rest_nil (then_normal (wp_ret ?_))
  repeat (first | refine then_ret ?_ | refine block_ret ?_)
  have c0 := H4.out.1.get 2 rfl 0 rfl
  have c1 := H4.out.1.get 2 rfl 1 rfl
  have c2 := H4.out.1.get 2 rfl 2 rfl
  have c3 := H4.out.1.get 2 rfl 3 rfl
  have c4 := H4.out.1.get 2 rfl 4 rfl
  have c5 := H4.out.1.get 2 rfl 5 rfl
  refine bodyPost_ret (v := N r) (by simp [results, Tryd.results14, go_sem, *]) rfl ?_
  exact ⟨rfl, H4.out.2⟩
end Rg
end Go.Proofs.YtfnmahjdkmgdkaaDoor
end
section
namespace Go.Proofs.YtfnmahjdkmgdkaaDoor
open Go.RowKit
namespace Rg
theorem mont_one {n : Nat} (ok : Ok n) (x : Nat) : mont n x (big % n) = x % n := by
  refine Cg.eq_mod (n := n) ((mont_cg n _ _).trans ?_) (mont_lt _ _ _ ok.pos)
  have h1 := ((Cg.mod n big).mulL x).mulR (ri n)
  refine h1.trans ?_
  have h2 := (ri_big n ok.odd).mulL x
  rw [Nat.mul_one, ← Nat.mul_assoc] at h2
  exact h2
theorem mont_big {n : Nat} (ok : Ok n) (x y : Nat) : mont n x (y * big % n) = x * y % n := by
  refine Cg.eq_mod (n := n) ((mont_cg n _ _).trans ?_) (mont_lt _ _ _ ok.pos)
  have h1 := ((Cg.mod n (y * big)).mulL x).mulR (ri n)
  refine h1.trans ?_
  have h2 := (ri_big n ok.odd).mulL (x * y)
  rw [Nat.mul_one] at h2
  have e : x * (y * big) * ri n = x * y * (big * ri n) := by simp only [Nat.mul_assoc]
  rw [e]
  exact h2
/-- What is left of a difference. -/
def subm (n a b : Nat) : Nat := (a + (n - b % n)) % n
theorem subm_ge {n a b : Nat} (hn : 0 < n) (h : b ≤ a) : (a - b) % n = subm n a b := by
  unfold subm
  have h1 := Nat.div_add_mod b n
  have h2 := Nat.mod_lt b hn
  have e : a + (n - b % n) = (a - b) + n * (b / n + 1) := by rw [Nat.mul_add]; omega
  rw [e, Nat.add_mul_mod_self_left]
theorem subm_lt {n a b : Nat} (hn : 0 < n) (h : a < b) (h2 : b ≤ a + n) : a + n - b = subm n a b := by
  unfold subm
  have h1 := Nat.div_add_mod b n
  have h3 := Nat.mod_lt b hn
  have e : a + (n - b % n) = (a + n - b) + n * (b / n) := by omega
  rw [e, Nat.add_mul_mod_self_left, Nat.mod_eq_of_lt (by omega)]
theorem subm_lt_n {n : Nat} (hn : 0 < n) (a b : Nat) : subm n a b < n := Nat.mod_lt _ hn
theorem cmp_ge {a n : Nat} (h : ¬ a < n) : ¬ cmpv a n < 0 := by unfold cmpv; rw [if_neg h]; split <;> omega
theorem cmp_lt {a n : Nat} (h : a < n) : cmpv a n = -1 := by unfold cmpv; rw [if_neg (by omega), if_pos h]
theorem madeC {g n : Nat} (ok : Ok n) (w : World) (hm : Mm w [(g, modc n)]) : Calls Tryd.prog 35 #[PT g 0] w fun e w' => e = .returned (.bool true) ∧ Below w.heap.size w w' := made_any g n _ _ ok w hm
theorem reduce_any {g n : Nat} (ok : Ok n) {a : Nat} (ha : a < big) (w : World) (hm : Mm w [(g, modc n)]) : Calls Tryd.prog 9 #[PT g 0, N a] w fun e w' => e = .returned (N (a % n)) ∧ Below w.heap.size w w' := by
  have hn := ok.big
  by_cases h : a < n
  · have c := fun w => compare_any a n ha hn w
    rw [cmp_lt h] at c
    rw [Nat.mod_eq_of_lt h]
    exact reduce_1 g n _ _ a (fun w hm => madeC ok w hm) c w hm
  · have c := fun w => compare_any a n ha hn w
    have cs := fun w => sub_any a n ha hn w
    rw [decide_eq_false h, show a + big - n = a - n + big by omega, Nat.add_mod_right, Nat.mod_eq_of_lt (show a - n < big by omega)] at cs
    have e : a % n = (a - n) % n := Nat.mod_eq_sub_mod (by omega)
    have c2 := fun w => compare_any (a - n) n (by omega) hn w
    by_cases h2 : a - n < n
    · rw [cmp_lt h2] at c2
      rw [e, Nat.mod_eq_of_lt h2]
      exact reduce_2 g n _ _ a _ _ (cmp_ge h) (fun w hm => madeC ok w hm) c cs c2 w hm
    · have cp := fun w hm => product_any g n (big % n) (big * big % n) (a - n) (big % n) ok (by omega) (Nat.mod_lt _ ok.pos) w hm
      rw [mont_one ok] at cp
      rw [e]
      exact reduce_3 g n _ _ a _ _ _ _ (cmp_ge h) (cmp_ge h2) (fun w hm => madeC ok w hm) c cs c2 cp w hm
theorem addm_any {g n : Nat} (ok : Ok n) {a b : Nat} (ha : a < big) (hb : b < big) (w : World) (hm : Mm w [(g, modc n)]) : Calls Tryd.prog 11 #[PT g 0, N a, N b] w fun e w' => e = .returned (N ((a + b) % n)) ∧ Below w.heap.size w w' := by
  have c := fun w => add_any a b ha hb w
  by_cases h : big ≤ a + b
  · rw [decide_eq_true h] at c
    have h1 := Nat.mod_lt a ok.pos
    have h2 := Nat.mod_lt b ok.pos
    have h3 := ok.top
    have c2 := fun w => add_any (a % n) (b % n) (okLt ok a) (okLt ok b) w
    rw [decide_eq_false (by omega), Nat.mod_eq_of_lt (show a % n + b % n < big by omega)] at c2
    have c3 := fun w hm => reduce_any (g := g) ok (show a % n + b % n < big by omega) w hm
    rw [← Nat.add_mod] at c3
    exact add_2 g n _ _ a b _ _ _ _ _ (fun w hm => madeC ok w hm) c (fun w hm => reduce_any ok ha w hm) (fun w hm => reduce_any ok hb w hm) c2 c3 w hm
  · rw [decide_eq_false h, Nat.mod_eq_of_lt (show a + b < big by omega)] at c
    exact add_1 g n _ _ a b _ _ (fun w hm => madeC ok w hm) c (fun w hm => reduce_any ok (by omega) w hm) w hm
theorem mulm_any {g n : Nat} (ok : Ok n) {a b : Nat} (ha : a < big) (hb : b < big) (w : World) (hm : Mm w [(g, modc n)]) : Calls Tryd.prog 14 #[PT g 0, N a, N b] w fun e w' => e = .returned (N (a * b % n)) ∧ Below w.heap.size w w' := by
  have cp := fun w hm => product_any g n (big % n) (big * big % n) a (big * big % n) ok ha (Nat.mod_lt _ ok.pos) w hm
  rw [mont_big ok] at cp
  have c := fun w hm => product_any g n (big % n) (big * big % n) b (a * big % n) ok hb (Nat.mod_lt _ ok.pos) w hm
  rw [mont_big ok, Nat.mul_comm b a] at c
  exact mul_gen g n _ _ a b _ _ (fun w hm => madeC ok w hm) cp c w hm
theorem subm_any {g n : Nat} (ok : Ok n) {a b : Nat} (ha : a < big) (hb : b < big) (w : World) (hm : Mm w [(g, modc n)]) : Calls Tryd.prog 12 #[PT g 0, N a, N b] w fun e w' => e = .returned (N (subm n a b)) ∧ Below w.heap.size w w' := by
  have c := fun w => sub_any a b ha hb w
  have hn := ok.big
  have h3 := ok.top
  by_cases h : a < b
  · rw [decide_eq_true h, Nat.mod_eq_of_lt (show a + big - b < big by omega)] at c
    have c2 := fun w => add_any (a + big - b) n (by omega) hn w
    by_cases h2 : b ≤ a + n
    · rw [decide_eq_true (show big ≤ a + big - b + n by omega), show a + big - b + n = (a + n - b) + big by omega, Nat.add_mod_right, Nat.mod_eq_of_lt (show a + n - b < big by omega), subm_lt ok.pos h h2] at c2
      exact sub_2 g n _ _ a b _ _ (fun w hm => madeC ok w hm) c c2 w hm
    · rw [decide_eq_false (show ¬ big ≤ a + big - b + n by omega)] at c2
      have h1 := Nat.mod_lt b ok.pos
      have c3 := fun w => sub_any n (b % n) hn (okLt ok b) w
      rw [decide_eq_false (by omega), show n + big - b % n = n - b % n + big by omega, Nat.add_mod_right, Nat.mod_eq_of_lt (show n - b % n < big by omega)] at c3
      exact sub_3 g n _ _ a b _ _ _ _ _ (fun w hm => madeC ok w hm) c c2 (fun w hm => reduce_any ok hb w hm) c3 (fun w hm => addm_any ok ha (by omega) w hm) w hm
  · rw [decide_eq_false h, show a + big - b = a - b + big by omega, Nat.add_mod_right, Nat.mod_eq_of_lt (show a - b < big by omega)] at c
    have c2 := fun w hm => reduce_any (g := g) ok (show a - b < big by omega) w hm
    rw [subm_ge ok.pos (by omega)] at c2
    exact sub_1 g n _ _ a b _ _ (fun w hm => madeC ok w hm) c c2 w hm
theorem negm_any {g n : Nat} (ok : Ok n) {a : Nat} (ha : a < big) (w : World) (hm : Mm w [(g, modc n)]) : Calls Tryd.prog 13 #[PT g 0, N a] w fun e w' => e = .returned (N (subm n 0 a)) ∧ Below w.heap.size w w' :=
  neg_gen g n _ _ a _ (fun w hm => subm_any ok big_pos ha w hm) w hm
end Rg
end Go.Proofs.YtfnmahjdkmgdkaaDoor
end
section
namespace Go.Proofs.YtfnmahjdkmgdkaaDoor
open Go.RowKit
namespace Rg
theorem call90 : ∀ args w, (callFunc 90 args).run Tryd.prog w = .ok (.enter 90 args) w := by intro args w; go_simp
abbrev modv (n o s : Nat) : Value := .agg (modx n o s).toArray
theorem ex_build39 {ρ : Operand → Value} {o : Oper} {x y : Operand} {n : Nat} {w : World} (ho : o.op = .build 27 #[(0, x), (1, y)]) (hx : ρ x = N n) (hy : ρ y = .int .u64 (wrapZ (wd n 0))) : (execOp ρ o).run Tryd.prog w = .ok (.value (modv n 0 0)) w := by
  simp only [execOp, ho]
  go_simp
  simp [wd_zero]
theorem ex_box39 {ρ : Operand → Value} {o : Oper} {x : Operand} {n : Nat} {w : World} (ho : o.op = .box 27 x) (hx : ρ x = modv n 0 0) :
    (execOp ρ o).run Tryd.prog w = .ok (.value (.pointer (some ⟨w.heap.size, 0, none⟩))) (w.alloc (.cells (modx n 0 0).toArray 27)) := by
  simp only [execOp, ho, hx]
  go_simp
theorem word_mod (n : Nat) : (wd n 0).tmod 2 = ((n % 2 : Nat) : Int) := by
  have h0 : wd n 0 = ((n % 18446744073709551616 : Nat) : Int) := by unfold wd; rw [Nat.mul_zero, Nat.pow_zero, Nat.div_one]
  rw [h0]
  rw [Int.tmod_eq_emod_of_nonneg (by omega)]; omega
theorem len_ok {n : Nat} (ok : Ok n) : ¬ (382 : Int) < (bl n : Nat) := by
  have h := ok.top
  obtain ⟨m, hm, e⟩ := big_pow
  have h5 : big = 4 * 2 ^ (64 * m - 2) := by
    rw [e]
    have : 64 * m = 2 + (64 * m - 2) := by omega
    rw [this, Nat.pow_add, show 2 + (64 * m - 2) - 2 = 64 * m - 2 by omega]
  have := bl_le_of n (64 * m - 2) (by omega)
  omega
end Rg
end Go.Proofs.YtfnmahjdkmgdkaaDoor
end
section
namespace Go.Proofs.YtfnmahjdkmgdkaaDoor
open Go.RowKit
/-- Bit i of a number. -/
def bitv (a i : Nat) : Int := ((a / 2 ^ i % 2 : Nat) : Int)
theorem bitv_bits (a i : Nat) : ((a >>> (64 * (i / 64)) % 2 ^ 64) >>> (i % 64)) &&& 1 = a / 2 ^ i % 2 := by
  rw [show (1 : Nat) = 2 ^ 1 - 1 from rfl, Nat.and_two_pow_sub_one_eq_mod, ← Nat.shiftRight_eq_div_pow, show a >>> i % 2 = a >>> i % 2 ^ 1 from rfl]
  apply Nat.eq_of_testBit_eq
  intro m
  simp only [Nat.testBit_mod_two_pow, Nat.testBit_shiftRight]
  by_cases hm : m < 1
  · have e1 : i % 64 + m < 64 := by omega
    have e2 : 64 * (i / 64) + (i % 64 + m) = i + m := by omega
    simp [hm, e1, e2]
  · simp [hm]
theorem bitv_word (a i : Nat) : bits .and .u64 (wd a (i / 64) / 2 ^ (i % 64)) 1 = bitv a i := by
  unfold bitv
  rw [wd_shr, div_shr, ← bitv_bits]
  exact bits_and_u64_nat _ 1 (by rw [Nat.shiftRight_eq_div_pow (n := i % 64)]; exact Nat.lt_of_le_of_lt (Nat.div_le_self _ _) (Nat.mod_lt _ (by decide))) (by decide)
theorem bitv_bd (a i : Nat) : 0 ≤ bitv a i ∧ bitv a i < 2 := by unfold bitv; omega
set_option maxHeartbeats 400000 in
set_option maxRecDepth 100000 in
theorem bit_in (a i : Nat) (hi : i < 384) (w : World) :
    Calls Tryd.prog 46 #[N a, .int .i64 i] w fun e w' => e = .returned (.int .i64 (bitv a i)) ∧ Below w.heap.size w w' := by
  have d0 : decide ((i : Int) < 0) = false := decide_eq_false (by omega)
  have d1 : decide ((384 : Int) ≤ i) = false := decide_eq_false (by omega)
  have hA : Row (w.alloc (.cells #[.int .u64 (wd a 0), .int .u64 (wd a 1), .int .u64 (wd a 2), .int .u64 (wd a 3), .int .u64 (wd a 4), .int .u64 (wd a 5)] 24)) w.heap.size 6 (wd a) := Row.new w _ 24 rfl (six_lt rfl)
  have hA1 := (hA (i / 64) (by omega)).1
  clear hA
  go_enter Tryd.func46, Tryd.ntmps46
  go_wp2
  rw [bitv_word, show wrap64 (bitv a i) = bitv a i by have := bitv_bd a i; unfold wrap64; omega]
  go_ret
  exact ⟨rfl, (Below.refl _ _).alloc (Nat.le_refl _) _⟩
end Go.Proofs.YtfnmahjdkmgdkaaDoor
end
section
namespace Go.Proofs.YtfnmahjdkmgdkaaDoor
open Go.RowKit
namespace Rg
end Rg
end Go.Proofs.YtfnmahjdkmgdkaaDoor
end
section
namespace Go.Proofs.YtfnmahjdkmgdkaaDoor
open Go.RowKit
namespace Rg
theorem call63 : ∀ args w, (callFunc 63 args).run Tryd.prog w = .ok (.enter 63 args) w := by intro args w; go_simp
theorem call89 : ∀ args w, (callFunc 89 args).run Tryd.prog w = .ok (.enter 89 args) w := by intro args w; go_simp
theorem ex_loadI {ρ : Operand → Value} {o : Oper} {x : Operand} {g off : Nat} {v : Value} {cs : List Value} {w : World} {l : List (Nat × List Value)} (h : Mm w l) (k : Nat) (hk : l[k]? = some (g, cs)) (ho : o.op = .load 3 x) (hx : ρ x = PT g off) (hc : cs[off]? = some v) :
    (execOp ρ o).run Tryd.prog w = .ok (.value v) w := by
  have c0 := h.cell (List.mem_of_getElem? hk) hc
  clear h hk hc
  simp only [execOp, ho, hx]
  go_simp
theorem ex_loadB {ρ : Operand → Value} {o : Oper} {x : Operand} {g off : Nat} {v : Value} {cs : List Value} {w : World} {l : List (Nat × List Value)} (h : Mm w l) (k : Nat) (hk : l[k]? = some (g, cs)) (ho : o.op = .load 4 x) (hx : ρ x = PT g off) (hc : cs[off]? = some v) :
    (execOp ρ o).run Tryd.prog w = .ok (.value v) w := by
  have c0 := h.cell (List.mem_of_getElem? hk) hc
  clear h hk hc
  simp only [execOp, ho, hx]
  go_simp
/-- The table of math/bits. -/
def dtab : List Value := Lib.deBruijn64tab.map fun k => .int .u8 ((k : Nat) : Int)
theorem tab_at {w : World} (h : Mm w [(0, dtab)]) : TabAt 0 Lib.deBruijn64tab w := fun j hj => by
  refine h.get 0 rfl j ?_
  unfold dtab
  rw [List.getElem?_map, List.getElem?_eq_getElem hj, Option.map_some, List.getD_eq_getElem?_getD, List.getElem?_eq_getElem hj, Option.getD_some]
theorem tz_word (x : Nat) (hx : x < 18446744073709551616) (w : World) (ht : Mm w [(0, dtab)]) : Calls Tryd.prog 89 #[.int .u64 x] w fun e w' => e = .returned (.int .i64 (Lib.ctz 64 x)) ∧ Below w.heap.size w w' :=
  (Any7.bits_TrailingZeros64 Tryd.lays29 x hx w (fun _ => tab_at ht)).mono fun _ _ ⟨h1, h2⟩ => ⟨h1, h2 ▸ Below.refl _ _⟩
/-- What stands in memory of a walk. -/
abbrev wkc (o r u v : Nat) (h : Int) (t : Bool) : List Value := [.int .u64 (wd o 0), .int .u64 (wd o 1), .int .u64 (wd o 2), .int .u64 (wd o 3), .int .u64 (wd o 4), .int .u64 (wd o 5), .int .u64 (wd r 0), .int .u64 (wd r 1), .int .u64 (wd r 2), .int .u64 (wd r 3), .int .u64 (wd r 4), .int .u64 (wd r 5), .int .u64 (wd u 0), .int .u64 (wd u 1), .int .u64 (wd u 2), .int .u64 (wd u 3), .int .u64 (wd u 4), .int .u64 (wd u 5), .int .u64 (wd v 0), .int .u64 (wd v 1), .int .u64 (wd v 2), .int .u64 (wd v 3), .int .u64 (wd v 4), .int .u64 (wd v 5), .int .i64 h, .bool t]
set_option maxRecDepth 100000 in
theorem trailing_gen (r m c : Nat) (hm6 : m < 6) (hc64 : c ≤ 64) (hz0 : ∀ j, j < m → wd r j = 0) (hm0 : wd r m ≠ 0)
    (c72 : ∀ w, Mm w [(0, dtab)] → Calls Tryd.prog 89 #[.int .u64 (wd r m)] w fun e w' => e = .returned (.int .i64 ((c : Nat) : Int)) ∧ Below w.heap.size w w') (w : World) (hm : Mm w [(0, dtab)]) :
    Calls Tryd.prog 63 #[N r] w fun e w' => e = .returned (.int .i64 ((64 * m + c : Nat) : Int)) ∧ Below w.heap.size w w' := by
  have H0 : Hid (_ ∧ _) := ⟨hm, Below.refl w.heap.size w⟩
  clear hm
  have C72 : Hid _ := c72
  have HZ : Hid _ := hz0
  have HM : Hid _ := hm0
  clear c72 hz0 hm0
  go_enter Tryd.func63, Tryd.ntmps63
  refine wp_seq ?_
  refine walk_seqA 2 [.made (cells6 r) 24, .quiet (.int .i64 0)] (sB H0) ?ho1 ?he1
  case ho1 => exact ak (fun γ => ⟨rfl, fun w' => ex_box6 rfl rfl⟩) (ak (fun _ => ⟨rfl, fun _ _ => rfl⟩) trivial)
  intro γ w1 l hM hl
  have H1 : Hid (Mm w1 [(γ 0, cells6 r), (0, dtab)] ∧ _) := growB H0 hM (Nat.le_refl _) hl [0] rfl (by decide)
  have o1_0 := ownB H0 hM (Nat.le_refl _) hl (i := 0) rfl
  clear hM hl l
  generalize γ 0 = γ1_0 at H1 o1_0 ⊢
  clear γ
  refine rest0 rfl (then_normal (wp_seq (wp_seq ?_)))
  refine walk_seqB 2 [.quiet (N r), .quiet (.int .i64 0)] H1 ?ho2 ?he2
  case ho2 => exact ak (fun γ => ⟨rfl, fun w' h => ex_load6 h 0 rfl rfl rfl rfl⟩) (ak (fun _ => ⟨rfl, fun _ _ => rfl⟩) trivial)
  intro _ w2 H2
  clear H1
  refine rest0 rfl (then_normal (wp_block ?_))
  refine loop_ghost (α := Nat) (fun i a' w' => ∃ s0 : Nat → Value, a' = ⟨#[N r, PT γ1_0 0, s0 2, s0 3, s0 4, N r, .int .i64 ((i : Nat) : Int), s0 7, s0 8, s0 9, s0 10, s0 11, s0 12, s0 13, s0 14, s0 15, s0 16, s0 17], []⟩ ∧ (Mm w' [(γ1_0, cells6 r), (0, dtab)] ∧ Below w.heap.size w w') ∧ i ≤ m) (fun i => m - i) 0 ?st0 ?rd0
  case st0 => exact ⟨(slotfn [undef, undef, .int .i64 0, undef, undef, undef, undef, undef, undef, undef, undef, undef, undef, undef, undef, undef, undef, undef]), rfl, ⟨H2.out.1, H2.out.2⟩, by omega⟩
  intro i a' w3 hI
  obtain ⟨s0, rfl, hMB, hk0⟩ := hI
  have H3 : Hid (_ ∧ _) := hMB
  clear hMB H2
  have hi6 : i < 6 := by omega
  by_cases hz : wd r i = 0
  · have hrd : True := trivial
    clear hrd
    have hz' : wd r i = 0 := hz
    refine wp_seq ?_
    refine walk_seqB 1 [.quiet (.bool true)] H3 ?ho3 ?he3
    case ho3 => exact ak (by refine fun γ => ⟨rfl, fun w' h => ?_⟩; clear h; go_simp <;> omega) trivial
    intro _ w4 H4
    clear H3
    refine rest0 rfl (then_normal (wp_seq ?_))
    refine wp_cond_true rfl (wp_skip ?_)
    refine then_normal (wp_seq ?_)
    refine wp_block (wp_seq ?_)
    refine walk_seqB 4 [.quiet (.int .i64 ((i : Nat) : Int)), .quiet (.int .u64 (wd r i)), .quiet (.int .i64 ((i : Nat) : Int)), .quiet (.int .u64 (wd r i))] H4 ?ho4 ?he4
    case ho4 => exact ak (fun _ => ⟨rfl, fun _ _ => rfl⟩) (ak (fun γ => ⟨rfl, fun w' _ => ex_index6 rfl rfl rfl hi6⟩) (ak (fun _ => ⟨rfl, fun _ _ => rfl⟩) (ak (fun _ => ⟨rfl, fun _ _ => rfl⟩) trivial)))
    intro _ w5 H5
    clear H4
    refine rest0 rfl (then_normal (wp_seq ?_))
    refine walk_seqB 2 [.quiet (.int .u64 (wd r i)), .quiet (.bool false)] H5 ?ho5 ?he5
    case ho5 => exact ak (fun _ => ⟨rfl, fun _ _ => rfl⟩) (ak (by refine fun γ => ⟨rfl, fun w' h => ?_⟩; clear h; go_simp <;> omega) trivial)
    intro _ w6 H6
    clear H5
    refine rest0 rfl (then_normal (wp_cond_false rfl ?_))
    refine wp_skip (block_normal (then_normal ?_))
    refine walk_seqB 1 [.quiet (.int .i64 ((i + 1 : Nat) : Int))] H6 ?ho6 ?he6
    case ho6 => exact ak (by refine fun γ => ⟨rfl, fun w' h => ?_⟩; clear h; go_simp; rw [IntKind.wrap_i64]; omega) trivial
    intro _ w7 H7
    clear H6
    refine rest_at (l := [1]) rfl ?_
    refine rest_set (d := 6) rfl rfl rfl rfl ?_
    simp only [Act.put, sa, sz, ss]
    refine rest_nil (then_normal ?_)
    exact ⟨i + 1, ⟨(slotfn [undef, undef, s0 2, .int .i64 ((i : Nat) : Int), .int .u64 (wd r i), undef, undef, .bool true, .int .i64 ((i : Nat) : Int), .int .u64 (wd r i), .int .u64 (wd r i), .bool false, s0 12, s0 13, s0 14, s0 15, s0 16, .int .i64 ((i + 1 : Nat) : Int)]), rfl, ⟨H7.out.1, H7.out.2⟩, by have h1 : i ≠ m := fun e => HM.out (e ▸ hz'); omega⟩, by have h1 : i ≠ m := fun e => HM.out (e ▸ hz'); omega⟩
  · have hrd : True := trivial
    clear hrd
    have hij : i = m := by
      apply Classical.byContradiction
      intro hne
      exact hz (HZ.out i (by omega))
    subst hij
    refine wp_seq ?_
    refine walk_seqB 1 [.quiet (.bool true)] H3 ?ho7 ?he7
    case ho7 => exact ak (by refine fun γ => ⟨rfl, fun w' h => ?_⟩; clear h; go_simp <;> omega) trivial
    intro _ w8 H8
    clear H3
    refine rest0 rfl (then_normal (wp_seq ?_))
    refine wp_cond_true rfl (wp_skip ?_)
    refine then_normal (wp_seq ?_)
    refine wp_block (wp_seq ?_)
    refine walk_seqB 4 [.quiet (.int .i64 ((i : Nat) : Int)), .quiet (.int .u64 (wd r i)), .quiet (.int .i64 ((i : Nat) : Int)), .quiet (.int .u64 (wd r i))] H8 ?ho8 ?he8
    case ho8 => exact ak (fun _ => ⟨rfl, fun _ _ => rfl⟩) (ak (fun γ => ⟨rfl, fun w' _ => ex_index6 rfl rfl rfl hi6⟩) (ak (fun _ => ⟨rfl, fun _ _ => rfl⟩) (ak (fun _ => ⟨rfl, fun _ _ => rfl⟩) trivial)))
    intro _ w9 H9
    clear H8
    refine rest0 rfl (then_normal (wp_seq ?_))
    refine walk_seqB 2 [.quiet (.int .u64 (wd r i)), .quiet (.bool true)] H9 ?ho9 ?he9
    case ho9 => exact ak (fun _ => ⟨rfl, fun _ _ => rfl⟩) (ak (by refine fun γ => ⟨rfl, fun w' h => ?_⟩; clear h; go_simp <;> omega) trivial)
    intro _ w10 H10
    clear H9
    refine rest0 rfl (then_normal (wp_cond_true rfl (wp_seq ?_)))
    refine walk_seqB 6 [.quiet (.int .i64 ((i : Nat) : Int)), .quiet (.int .i64 ((64 * i : Nat) : Int)), .quiet (.int .u64 (wd r i)), .call (.int .i64 ((c : Nat) : Int)), .quiet (.int .i64 ((64 * i + c : Nat) : Int)), .quiet (.int .i64 ((64 * i + c : Nat) : Int))] H10 ?ho10 ?he10
    case ho10 => exact ak (fun _ => ⟨rfl, fun _ _ => rfl⟩) (ak (by refine fun γ => ⟨rfl, fun w' h => ?_⟩; clear h; go_simp; rw [IntKind.wrap_i64]; omega) (ak (fun _ => ⟨rfl, fun _ _ => rfl⟩) (ak (fun γ => ⟨rfl, fun w' h => ⟨89, #[.int .u64 (wd r i)], exec_call rfl call89 rfl (mpn rfl), C72.out w' (h.one 1 rfl)⟩⟩) (ak (by refine fun γ => ⟨rfl, fun w' h => ?_⟩; clear h; go_simp; rw [IntKind.wrap_i64]; omega) (ak (fun _ => ⟨rfl, fun _ _ => rfl⟩) trivial)))))
    intro _ w11 H11
    clear H10
    refine rest0 rfl (then_normal (wp_ret ?_))
    repeat (first | refine then_ret ?_ | refine block_ret ?_)
    refine bodyPost_ret (v := .int .i64 ((64 * i + c : Nat) : Int)) (by simp [results, Tryd.results63, go_sem, *]) rfl ?_
    exact ⟨rfl, H11.out.2⟩
set_option maxRecDepth 100000 in
theorem halve_gen (g o r u v k r' u' : Nat) (h : Int) (t : Bool) (hk : k < 384) (h0 : 0 ≤ h) (h1 : h < 10000)
    (c66 : ∀ w, Mm w [(0, dtab)] → Calls Tryd.prog 63 #[N r] w fun e w' => e = .returned (.int .i64 ((k : Nat) : Int)) ∧ Below w.heap.size w w')
    (c53 : ∀ w, Calls Tryd.prog 40 #[N r, .int .i64 (-((k : Nat) : Int))] w fun e w' => e = .returned (N r') ∧ Below w.heap.size w w')
    (d53 : ∀ w, Calls Tryd.prog 40 #[N u, .int .i64 ((k : Nat) : Int)] w fun e w' => e = .returned (N u') ∧ Below w.heap.size w w') (w : World) (hm : Mm w [(g, wkc o r u v h t), (0, dtab)]) :
    Calls Tryd.prog 36 #[PT g 0] w fun e w' => e = .returned (.tuple #[]) ∧ Mm w' [(g, wkc o r' u' v (h + ((k : Nat) : Int)) t)] ∧ Kp g w w' := by
  have H0 : Hid (_ ∧ _) := ⟨hm, Kp.refl g w⟩
  clear hm
  have C66 : Hid _ := c66
  have C53 : Hid _ := c53
  have D53 : Hid _ := d53
  clear c66 c53 d53
  go_enter Tryd.func36, Tryd.ntmps36
  refine wp_seq ?_
  refine walk_seqA 6 [.quiet (PT g 0), .quiet (PT g 0), .quiet (PT g 6), .quiet (N r), .call (.int .i64 ((k : Nat) : Int)), .quiet (.int .i64 ((k : Nat) : Int))] (sB H0) ?ho1 ?he1
  case ho1 => exact ak (fun _ => ⟨rfl, fun _ _ => rfl⟩) (ak (by refine fun γ => ⟨rfl, fun w' hh => ?_⟩; clear hh; go_simp) (ak (by refine fun γ => ⟨rfl, fun w' hh => ?_⟩; clear hh; go_simp) (ak (fun γ => ⟨rfl, fun w' hh => ex_load6 hh 0 rfl rfl rfl rfl⟩) (ak (fun γ => ⟨rfl, fun w' hh => ⟨63, #[N r], exec_call rfl call63 rfl (mpn rfl), C66.out w' (hh.one 1 rfl)⟩⟩) (ak (fun _ => ⟨rfl, fun _ _ => rfl⟩) trivial)))))
  intro γ w1 l hM hl
  have H1 := keepK H0 hM.below
  clear hM hl l γ
  refine rest0 rfl (then_normal (wp_seq ?_))
  refine walk_seqA 10 [.quiet (PT g 0), .quiet (PT g 0), .quiet (PT g 0), .quiet (PT g 6), .quiet (N r), .quiet (.int .i64 ((k : Nat) : Int)), .quiet (.int .i64 (-((k : Nat) : Int))), .call (N r'), .quiet (PT g 0), .quiet (PT g 6)] (sB H1) ?ho2 ?he2
  case ho2 => exact ak (fun _ => ⟨rfl, fun _ _ => rfl⟩) (ak (fun _ => ⟨rfl, fun _ _ => rfl⟩) (ak (by refine fun γ => ⟨rfl, fun w' hh => ?_⟩; clear hh; go_simp) (ak (by refine fun γ => ⟨rfl, fun w' hh => ?_⟩; clear hh; go_simp) (ak (fun γ => ⟨rfl, fun w' hh => ex_load6 hh 0 rfl rfl rfl rfl⟩) (ak (fun _ => ⟨rfl, fun _ _ => rfl⟩) (ak (by refine fun γ => ⟨rfl, fun w' hh => ?_⟩; clear hh; go_simp; rw [IntKind.wrap_i64]; omega) (ak (fun γ => ⟨rfl, fun w' hh => ⟨40, #[N r, .int .i64 (-((k : Nat) : Int))], exec_call rfl call40 rfl (mpn rfl), C53.out w'⟩⟩) (ak (by refine fun γ => ⟨rfl, fun w' hh => ?_⟩; clear hh; go_simp) (ak (by refine fun γ => ⟨rfl, fun w' hh => ?_⟩; clear hh; go_simp) trivial)))))))))
  intro γ w2 l hM hl
  have H2 := keepK H1 hM.below
  clear hM hl l H1 γ
  refine rest_at (l := [10]) rfl ?_
  refine rest_store rfl rfl rfl (ex_store6 H2.out.1 0 rfl rfl rfl rfl (Nat.le_of_ble_eq_true rfl)) ?_
  have H3 : Hid (Mm (w2.setCells g 6 (cells6 r')) [(g, wkc o r' u v h t), (0, dtab)] ∧ Kp g w (w2.setCells g 6 (cells6 r'))) := ⟨H2.out.1.put 0 (off := 6) (vs := cells6 r') rfl (Nat.le_of_ble_eq_true rfl), H2.out.2.put (Or.inl rfl)⟩
  clear H2
  generalize hgw : World.setCells _ _ _ _ = w3 at H3 ⊢
  clear hgw
  refine rest_nil (then_normal (wp_seq ?_))
  refine walk_seqA 9 [.quiet (PT g 0), .quiet (PT g 0), .quiet (PT g 0), .quiet (PT g 12), .quiet (N u), .quiet (.int .i64 ((k : Nat) : Int)), .call (N u'), .quiet (PT g 0), .quiet (PT g 12)] (sB H3) ?ho3 ?he3
  case ho3 => exact ak (fun _ => ⟨rfl, fun _ _ => rfl⟩) (ak (fun _ => ⟨rfl, fun _ _ => rfl⟩) (ak (by refine fun γ => ⟨rfl, fun w' hh => ?_⟩; clear hh; go_simp) (ak (by refine fun γ => ⟨rfl, fun w' hh => ?_⟩; clear hh; go_simp) (ak (fun γ => ⟨rfl, fun w' hh => ex_load6 hh 0 rfl rfl rfl rfl⟩) (ak (fun _ => ⟨rfl, fun _ _ => rfl⟩) (ak (fun γ => ⟨rfl, fun w' hh => ⟨40, #[N u, .int .i64 ((k : Nat) : Int)], exec_call rfl call40 rfl (mpn rfl), D53.out w'⟩⟩) (ak (by refine fun γ => ⟨rfl, fun w' hh => ?_⟩; clear hh; go_simp) (ak (by refine fun γ => ⟨rfl, fun w' hh => ?_⟩; clear hh; go_simp) trivial))))))))
  intro γ w4 l hM hl
  have H4 := keepK H3 hM.below
  clear hM hl l H3 γ
  refine rest_at (l := [9]) rfl ?_
  refine rest_store rfl rfl rfl (ex_store6 H4.out.1 0 rfl rfl rfl rfl (Nat.le_of_ble_eq_true rfl)) ?_
  have H5 : Hid (Mm (w4.setCells g 12 (cells6 u')) [(g, wkc o r' u' v h t), (0, dtab)] ∧ Kp g w (w4.setCells g 12 (cells6 u'))) := ⟨H4.out.1.put 0 (off := 12) (vs := cells6 u') rfl (Nat.le_of_ble_eq_true rfl), H4.out.2.put (Or.inl rfl)⟩
  clear H4
  generalize hgw : World.setCells _ _ _ _ = w5 at H5 ⊢
  clear hgw
  refine rest_nil (then_normal ?_)
  refine walk_seqA 8 [.quiet (PT g 0), .quiet (PT g 0), .quiet (PT g 24), .quiet (.int .i64 h), .quiet (.int .i64 ((k : Nat) : Int)), .quiet (.int .i64 (h + ((k : Nat) : Int))), .quiet (PT g 0), .quiet (PT g 24)] (sB H5) ?ho4 ?he4
  case ho4 => exact ak (fun _ => ⟨rfl, fun _ _ => rfl⟩) (ak (by refine fun γ => ⟨rfl, fun w' hh => ?_⟩; clear hh; go_simp) (ak (by refine fun γ => ⟨rfl, fun w' hh => ?_⟩; clear hh; go_simp) (ak (fun γ => ⟨rfl, fun w' hh => ex_loadI hh 0 rfl rfl rfl rfl⟩) (ak (fun _ => ⟨rfl, fun _ _ => rfl⟩) (ak (by refine fun γ => ⟨rfl, fun w' hh => ?_⟩; clear hh; go_simp; rw [IntKind.wrap_i64]; omega) (ak (by refine fun γ => ⟨rfl, fun w' hh => ?_⟩; clear hh; go_simp) (ak (by refine fun γ => ⟨rfl, fun w' hh => ?_⟩; clear hh; go_simp) trivial)))))))
  intro γ w6 l hM hl
  have H6 := keepK H5 hM.below
  clear hM hl l H5 γ
  refine rest_at (l := [8]) rfl ?_
  refine rest_store rfl rfl rfl (ex_storeI H6.out.1 0 rfl rfl Tryd.sizeOf3 rfl rfl (Nat.le_of_ble_eq_true rfl)) ?_
  have H7 : Hid (Mm (w6.setCells g 24 ([.int .i64 (h + ((k : Nat) : Int))])) [(g, wkc o r' u' v (h + ((k : Nat) : Int)) t), (0, dtab)] ∧ Kp g w (w6.setCells g 24 ([.int .i64 (h + ((k : Nat) : Int))]))) := ⟨H6.out.1.put 0 (off := 24) (vs := [.int .i64 (h + ((k : Nat) : Int))]) rfl (Nat.le_of_ble_eq_true rfl), H6.out.2.put (Or.inl rfl)⟩
  clear H6
  generalize hgw : World.setCells _ _ _ _ = w7 at H7 ⊢
  clear hgw
  refine rest_nil ?_
  refine bodyPost_end (v := .tuple #[]) (by simp [results, Tryd.results36, go_sem]) rfl ?_
  exact ⟨rfl, H7.out.1.one 0 rfl, H7.out.2⟩
set_option maxRecDepth 100000 in
theorem subtract_1 (g o r u v x y : Nat) (h : Int) (t : Bool)
    (c31 : ∀ w, Calls Tryd.prog 41 #[N r, N o] w fun e w' => e = .returned (.int .i64 (-1)) ∧ Below w.heap.size w w')
    (c40 : ∀ w, Calls Tryd.prog 42 #[N o, N r] w fun e w' => e = .returned (.tuple #[N x, .bool false]) ∧ Below w.heap.size w w')
    (c45 : ∀ w, Calls Tryd.prog 39 #[N u, N v] w fun e w' => e = .returned (.tuple #[N y, .bool false]) ∧ Below w.heap.size w w') (w : World) (hm : Mm w [(g, wkc o r u v h t)]) :
    Calls Tryd.prog 37 #[PT g 0] w fun e w' => e = .returned (.tuple #[]) ∧ Mm w' [(g, wkc r x v y h (!t))] ∧ Kp g w w' := by
  have H0 : Hid (_ ∧ _) := ⟨hm, Kp.refl g w⟩
  clear hm
  have C31 : Hid _ := c31
  have C40 : Hid _ := c40
  have C45 : Hid _ := c45
  clear c31 c40 c45
  go_enter Tryd.func37, Tryd.ntmps37
  refine wp_seq (wp_seq ?_)
  refine walk_anyA 10 [.quiet (PT g 0), .quiet (PT g 0), .quiet (PT g 6), .quiet (N r), .quiet (PT g 0), .quiet (PT g 0), .quiet (PT g 0), .quiet (N o), .call (.int .i64 (-1)), .quiet (.bool true)] (sB H0) ?ho1 ?he1
  case ho1 => exact ak (fun _ => ⟨rfl, fun _ _ => rfl⟩) (ak (by refine fun γ => ⟨rfl, fun w' hh => ?_⟩; clear hh; go_simp) (ak (by refine fun γ => ⟨rfl, fun w' hh => ?_⟩; clear hh; go_simp) (ak (fun γ => ⟨rfl, fun w' hh => ex_load6 hh 0 rfl rfl rfl rfl⟩) (ak (fun _ => ⟨rfl, fun _ _ => rfl⟩) (ak (by refine fun γ => ⟨rfl, fun w' hh => ?_⟩; clear hh; go_simp) (ak (by refine fun γ => ⟨rfl, fun w' hh => ?_⟩; clear hh; go_simp) (ak (fun γ => ⟨rfl, fun w' hh => ex_load6 hh 0 rfl rfl rfl rfl⟩) (ak (fun γ => ⟨rfl, fun w' hh => ⟨41, #[N r, N o], exec_call rfl call41 rfl (mpn rfl), C31.out w'⟩⟩) (ak (by refine fun γ => ⟨rfl, fun w' hh => ?_⟩; clear hh; go_simp) trivial)))))))))
  intro γ w1 l hM hl
  have H1 := keepK H0 hM.below
  clear hM hl l γ
  refine rest0 rfl (then_normal (wp_cond_true rfl (wp_seq ?_)))
  refine walk_put (by kernel_rfl) 12 [1] [.quiet (PT g 0), .quiet (PT g 0), .quiet (PT g 0), .quiet (PT g 0), .quiet (PT g 6), .quiet (N r), .quiet (PT g 0), .quiet (PT g 0), .quiet (PT g 0), .quiet (N o), .quiet (PT g 0), .quiet (PT g 0)] _ ?pre2 ?F2 _ ?hpre2 (fun γ => ?hF2) (by kernel_rfl) rfl trivial (sB H1) ?ho2 ?hla2 ?he2
  case hpre2 => simp only [tk, tz]; rfl
  case hF2 => simp only [fill, Kind.val, Act.put, sa, sz, ss]; rfl
  case ho2 =>
    refine ak (fun _ => ⟨rfl, fun _ _ => rfl⟩) ?_
    refine ak (fun _ => ⟨rfl, fun _ _ => rfl⟩) ?_
    refine ak (fun _ => ⟨rfl, fun _ _ => rfl⟩) ?_
    refine ak (by refine fun γ => ⟨rfl, fun w' hh => ?_⟩; clear hh; go_simp) ?_
    refine ak (by refine fun γ => ⟨rfl, fun w' hh => ?_⟩; clear hh; go_simp) ?_
    refine ak (fun γ => ⟨rfl, fun w' hh => ex_load6 hh 0 rfl rfl rfl rfl⟩) ?_
    refine ak (fun _ => ⟨rfl, fun _ _ => rfl⟩) ?_
    refine ak (by refine fun γ => ⟨rfl, fun w' hh => ?_⟩; clear hh; go_simp) ?_
    refine ak (by refine fun γ => ⟨rfl, fun w' hh => ?_⟩; clear hh; go_simp) ?_
    refine ak (fun γ => ⟨rfl, fun w' hh => ex_load6 hh 0 rfl rfl rfl rfl⟩) ?_
    refine ak (by refine fun γ => ⟨rfl, fun w' hh => ?_⟩; clear hh; go_simp) ?_
    refine ak (by refine fun γ => ⟨rfl, fun w' hh => ?_⟩; clear hh; go_simp) ?_
    exact trivial
  case hla2 => exact ⟨⟨_, _, rfl, rfl, fun γ => ⟨rfl, fun w' => by first | rfl | go_simp⟩⟩, trivial⟩
  intro γ w2 l hM hl
  have H2 := keepK H1 hM.below
  clear hM hl l H1 γ
  refine ⟨_, ex_store6 H2.out.1 0 rfl rfl rfl rfl (Nat.le_of_ble_eq_true rfl), ?_⟩
  have H3 : Hid (Mm (w2.setCells g 0 (cells6 r)) [(g, wkc r r u v h t)] ∧ Kp g w (w2.setCells g 0 (cells6 r))) := ⟨H2.out.1.put 0 (off := 0) (vs := cells6 r) rfl (Nat.le_of_ble_eq_true rfl), H2.out.2.put (Or.inl rfl)⟩
  clear H2
  generalize hgw : World.setCells _ _ _ _ = w3 at H3 ⊢
  clear hgw
  refine rest_at (l := [13, 14, 15]) rfl ?_
  refine rest_set (d := 24) (v := PT g 0) (w' := w3) rfl rfl rfl (by go_simp) ?_
  simp only [Act.put, sa, sz, ss]
  refine rest_set (d := 25) (v := PT g 6) (w' := w3) rfl rfl rfl (by go_simp) ?_
  simp only [Act.put, sa, sz, ss]
  refine rest_store rfl rfl rfl (ex_store6 H3.out.1 0 rfl rfl rfl rfl (Nat.le_of_ble_eq_true rfl)) ?_
  have H4 : Hid (Mm (w3.setCells g 6 (cells6 o)) [(g, wkc r o u v h t)] ∧ Kp g w (w3.setCells g 6 (cells6 o))) := ⟨H3.out.1.put 0 (off := 6) (vs := cells6 o) rfl (Nat.le_of_ble_eq_true rfl), H3.out.2.put (Or.inl rfl)⟩
  clear H3
  generalize hgw : World.setCells _ _ _ _ = w4 at H4 ⊢
  clear hgw
  refine rest_nil (then_normal (wp_seq ?_))
  refine walk_put (by kernel_rfl) 12 [1] [.quiet (PT g 0), .quiet (PT g 0), .quiet (PT g 0), .quiet (PT g 0), .quiet (PT g 18), .quiet (N v), .quiet (PT g 0), .quiet (PT g 0), .quiet (PT g 12), .quiet (N u), .quiet (PT g 0), .quiet (PT g 12)] _ ?pre3 ?F3 _ ?hpre3 (fun γ => ?hF3) (by kernel_rfl) rfl trivial (sB H4) ?ho3 ?hla3 ?he3
  case hpre3 => simp only [tk, tz]; rfl
  case hF3 => simp only [fill, Kind.val, Act.put, sa, sz, ss]; rfl
  case ho3 =>
    refine ak (fun _ => ⟨rfl, fun _ _ => rfl⟩) ?_
    refine ak (fun _ => ⟨rfl, fun _ _ => rfl⟩) ?_
    refine ak (fun _ => ⟨rfl, fun _ _ => rfl⟩) ?_
    refine ak (by refine fun γ => ⟨rfl, fun w' hh => ?_⟩; clear hh; go_simp) ?_
    refine ak (by refine fun γ => ⟨rfl, fun w' hh => ?_⟩; clear hh; go_simp) ?_
    refine ak (fun γ => ⟨rfl, fun w' hh => ex_load6 hh 0 rfl rfl rfl rfl⟩) ?_
    refine ak (fun _ => ⟨rfl, fun _ _ => rfl⟩) ?_
    refine ak (by refine fun γ => ⟨rfl, fun w' hh => ?_⟩; clear hh; go_simp) ?_
    refine ak (by refine fun γ => ⟨rfl, fun w' hh => ?_⟩; clear hh; go_simp) ?_
    refine ak (fun γ => ⟨rfl, fun w' hh => ex_load6 hh 0 rfl rfl rfl rfl⟩) ?_
    refine ak (by refine fun γ => ⟨rfl, fun w' hh => ?_⟩; clear hh; go_simp) ?_
    refine ak (by refine fun γ => ⟨rfl, fun w' hh => ?_⟩; clear hh; go_simp) ?_
    exact trivial
  case hla3 => exact ⟨⟨_, _, rfl, rfl, fun γ => ⟨rfl, fun w' => by first | rfl | go_simp⟩⟩, trivial⟩
  intro γ w5 l hM hl
  have H5 := keepK H4 hM.below
  clear hM hl l H4 γ
  refine ⟨_, ex_store6 H5.out.1 0 rfl rfl rfl rfl (Nat.le_of_ble_eq_true rfl), ?_⟩
  have H6 : Hid (Mm (w5.setCells g 12 (cells6 v)) [(g, wkc r o v v h t)] ∧ Kp g w (w5.setCells g 12 (cells6 v))) := ⟨H5.out.1.put 0 (off := 12) (vs := cells6 v) rfl (Nat.le_of_ble_eq_true rfl), H5.out.2.put (Or.inl rfl)⟩
  clear H5
  generalize hgw : World.setCells _ _ _ _ = w6 at H6 ⊢
  clear hgw
  refine rest_at (l := [13, 14, 15]) rfl ?_
  refine rest_set (d := 38) (v := PT g 0) (w' := w6) rfl rfl rfl (by go_simp) ?_
  simp only [Act.put, sa, sz, ss]
  refine rest_set (d := 39) (v := PT g 18) (w' := w6) rfl rfl rfl (by go_simp) ?_
  simp only [Act.put, sa, sz, ss]
  refine rest_store rfl rfl rfl (ex_store6 H6.out.1 0 rfl rfl rfl rfl (Nat.le_of_ble_eq_true rfl)) ?_
  have H7 : Hid (Mm (w6.setCells g 18 (cells6 u)) [(g, wkc r o v u h t)] ∧ Kp g w (w6.setCells g 18 (cells6 u))) := ⟨H6.out.1.put 0 (off := 18) (vs := cells6 u) rfl (Nat.le_of_ble_eq_true rfl), H6.out.2.put (Or.inl rfl)⟩
  clear H6
  generalize hgw : World.setCells _ _ _ _ = w7 at H7 ⊢
  clear hgw
  refine rest_nil (then_normal ?_)
  refine walk_seqA 8 [.quiet (PT g 0), .quiet (PT g 0), .quiet (PT g 0), .quiet (PT g 25), .quiet (.bool t), .quiet (.bool (!t)), .quiet (PT g 0), .quiet (PT g 25)] (sB H7) ?ho4 ?he4
  case ho4 => exact ak (fun _ => ⟨rfl, fun _ _ => rfl⟩) (ak (fun _ => ⟨rfl, fun _ _ => rfl⟩) (ak (by refine fun γ => ⟨rfl, fun w' hh => ?_⟩; clear hh; go_simp) (ak (by refine fun γ => ⟨rfl, fun w' hh => ?_⟩; clear hh; go_simp) (ak (fun γ => ⟨rfl, fun w' hh => ex_loadB hh 0 rfl rfl rfl rfl⟩) (ak (by refine fun γ => ⟨rfl, fun w' hh => ?_⟩; clear hh; go_simp) (ak (by refine fun γ => ⟨rfl, fun w' hh => ?_⟩; clear hh; go_simp) (ak (by refine fun γ => ⟨rfl, fun w' hh => ?_⟩; clear hh; go_simp) trivial)))))))
  intro γ w8 l hM hl
  have H8 := keepK H7 hM.below
  clear hM hl l H7 γ
  refine rest_at (l := [8]) rfl ?_
  refine rest_store rfl rfl rfl (ex_storeB H8.out.1 0 rfl rfl Tryd.sizeOf4 rfl rfl (Nat.le_of_ble_eq_true rfl)) ?_
  have H9 : Hid (Mm (w8.setCells g 25 ([.bool (!t)])) [(g, wkc r o v u h (!t))] ∧ Kp g w (w8.setCells g 25 ([.bool (!t)]))) := ⟨H8.out.1.put 0 (off := 25) (vs := [.bool (!t)]) rfl (Nat.le_of_ble_eq_true rfl), H8.out.2.put (Or.inl rfl)⟩
  clear H8
  generalize hgw : World.setCells _ _ _ _ = w9 at H9 ⊢
  clear hgw
  refine rest_nil (then_normal (wp_seq ?_))
  refine walk_put (by kernel_rfl) 15 [12] [.quiet (PT g 0), .quiet (PT g 0), .quiet (PT g 0), .quiet (PT g 6), .quiet (N o), .quiet (PT g 0), .quiet (PT g 0), .quiet (PT g 0), .quiet (N r), .call (.tuple #[N x, .bool false]), .quiet (.tuple #[N x, .bool false]), .quiet (N x), .quiet (.bool false), .quiet (PT g 0), .quiet (PT g 6)] _ ?pre5 ?F5 _ ?hpre5 (fun γ => ?hF5) (by kernel_rfl) rfl trivial (sB H9) ?ho5 ?hla5 ?he5
  case hpre5 => simp only [tk, tz]; rfl
  case hF5 => simp only [fill, Kind.val, Act.put, sa, sz, ss]; rfl
  case ho5 =>
    refine ak (fun _ => ⟨rfl, fun _ _ => rfl⟩) ?_
    refine ak (fun _ => ⟨rfl, fun _ _ => rfl⟩) ?_
    refine ak (by refine fun γ => ⟨rfl, fun w' hh => ?_⟩; clear hh; go_simp) ?_
    refine ak (by refine fun γ => ⟨rfl, fun w' hh => ?_⟩; clear hh; go_simp) ?_
    refine ak (fun γ => ⟨rfl, fun w' hh => ex_load6 hh 0 rfl rfl rfl rfl⟩) ?_
    refine ak (fun _ => ⟨rfl, fun _ _ => rfl⟩) ?_
    refine ak (by refine fun γ => ⟨rfl, fun w' hh => ?_⟩; clear hh; go_simp) ?_
    refine ak (by refine fun γ => ⟨rfl, fun w' hh => ?_⟩; clear hh; go_simp) ?_
    refine ak (fun γ => ⟨rfl, fun w' hh => ex_load6 hh 0 rfl rfl rfl rfl⟩) ?_
    refine ak (fun γ => ⟨rfl, fun w' hh => ⟨42, #[N o, N r], exec_call rfl call42 rfl (mpn rfl), C40.out w'⟩⟩) ?_
    refine ak (fun _ => ⟨rfl, fun _ _ => rfl⟩) ?_
    refine ak (by refine fun γ => ⟨rfl, fun w' hh => ?_⟩; clear hh; go_simp) ?_
    refine ak (by refine fun γ => ⟨rfl, fun w' hh => ?_⟩; clear hh; go_simp) ?_
    refine ak (by refine fun γ => ⟨rfl, fun w' hh => ?_⟩; clear hh; go_simp) ?_
    refine ak (by refine fun γ => ⟨rfl, fun w' hh => ?_⟩; clear hh; go_simp) ?_
    exact trivial
  case hla5 => exact ⟨⟨_, _, rfl, rfl, fun γ => ⟨rfl, fun w' => by first | rfl | go_simp⟩⟩, trivial⟩
  intro γ w10 l hM hl
  have H10 := keepK H9 hM.below
  clear hM hl l H9 γ
  refine ⟨_, ex_store6 H10.out.1 0 rfl rfl rfl rfl (Nat.le_of_ble_eq_true rfl), ?_⟩
  have H11 : Hid (Mm (w10.setCells g 6 (cells6 x)) [(g, wkc r x v u h (!t))] ∧ Kp g w (w10.setCells g 6 (cells6 x))) := ⟨H10.out.1.put 0 (off := 6) (vs := cells6 x) rfl (Nat.le_of_ble_eq_true rfl), H10.out.2.put (Or.inl rfl)⟩
  clear H10
  generalize hgw : World.setCells _ _ _ _ = w11 at H11 ⊢
  clear hgw
  refine rest0 rfl (then_normal ?_)
  refine walk_put (by kernel_rfl) 15 [12] [.quiet (PT g 0), .quiet (PT g 0), .quiet (PT g 0), .quiet (PT g 18), .quiet (N u), .quiet (PT g 0), .quiet (PT g 0), .quiet (PT g 12), .quiet (N v), .call (.tuple #[N y, .bool false]), .quiet (.tuple #[N y, .bool false]), .quiet (N y), .quiet (.bool false), .quiet (PT g 0), .quiet (PT g 18)] _ ?pre6 ?F6 _ ?hpre6 (fun γ => ?hF6) (by kernel_rfl) rfl trivial (sB H11) ?ho6 ?hla6 ?he6
  case hpre6 => simp only [tk, tz]; rfl
  case hF6 => simp only [fill, Kind.val, Act.put, sa, sz, ss]; rfl
  case ho6 =>
    refine ak (fun _ => ⟨rfl, fun _ _ => rfl⟩) ?_
    refine ak (fun _ => ⟨rfl, fun _ _ => rfl⟩) ?_
    refine ak (by refine fun γ => ⟨rfl, fun w' hh => ?_⟩; clear hh; go_simp) ?_
    refine ak (by refine fun γ => ⟨rfl, fun w' hh => ?_⟩; clear hh; go_simp) ?_
    refine ak (fun γ => ⟨rfl, fun w' hh => ex_load6 hh 0 rfl rfl rfl rfl⟩) ?_
    refine ak (fun _ => ⟨rfl, fun _ _ => rfl⟩) ?_
    refine ak (by refine fun γ => ⟨rfl, fun w' hh => ?_⟩; clear hh; go_simp) ?_
    refine ak (by refine fun γ => ⟨rfl, fun w' hh => ?_⟩; clear hh; go_simp) ?_
    refine ak (fun γ => ⟨rfl, fun w' hh => ex_load6 hh 0 rfl rfl rfl rfl⟩) ?_
    refine ak (fun γ => ⟨rfl, fun w' hh => ⟨39, #[N u, N v], exec_call rfl call39 rfl (mpn rfl), C45.out w'⟩⟩) ?_
    refine ak (fun _ => ⟨rfl, fun _ _ => rfl⟩) ?_
    refine ak (by refine fun γ => ⟨rfl, fun w' hh => ?_⟩; clear hh; go_simp) ?_
    refine ak (by refine fun γ => ⟨rfl, fun w' hh => ?_⟩; clear hh; go_simp) ?_
    refine ak (by refine fun γ => ⟨rfl, fun w' hh => ?_⟩; clear hh; go_simp) ?_
    refine ak (by refine fun γ => ⟨rfl, fun w' hh => ?_⟩; clear hh; go_simp) ?_
    exact trivial
  case hla6 => exact ⟨⟨_, _, rfl, rfl, fun γ => ⟨rfl, fun w' => by first | rfl | go_simp⟩⟩, trivial⟩
  intro γ w12 l hM hl
  have H12 := keepK H11 hM.below
  clear hM hl l H11 γ
  refine ⟨_, ex_store6 H12.out.1 0 rfl rfl rfl rfl (Nat.le_of_ble_eq_true rfl), ?_⟩
  have H13 : Hid (Mm (w12.setCells g 18 (cells6 y)) [(g, wkc r x v y h (!t))] ∧ Kp g w (w12.setCells g 18 (cells6 y))) := ⟨H12.out.1.put 0 (off := 18) (vs := cells6 y) rfl (Nat.le_of_ble_eq_true rfl), H12.out.2.put (Or.inl rfl)⟩
  clear H12
  generalize hgw : World.setCells _ _ _ _ = w13 at H13 ⊢
  clear hgw
  refine rest0 rfl ?_
  refine bodyPost_end (v := .tuple #[]) (by simp [results, Tryd.results37, go_sem]) rfl ?_
  exact ⟨rfl, H13.out.1.one 0 rfl, H13.out.2⟩
set_option maxRecDepth 100000 in
theorem subtract_2 (g o r u v x y : Nat) (h : Int) (t : Bool) (c : Int) (hc : ¬ c < 0)
    (c31 : ∀ w, Calls Tryd.prog 41 #[N r, N o] w fun e w' => e = .returned (.int .i64 c) ∧ Below w.heap.size w w')
    (c40 : ∀ w, Calls Tryd.prog 42 #[N r, N o] w fun e w' => e = .returned (.tuple #[N x, .bool false]) ∧ Below w.heap.size w w')
    (c45 : ∀ w, Calls Tryd.prog 39 #[N v, N u] w fun e w' => e = .returned (.tuple #[N y, .bool false]) ∧ Below w.heap.size w w') (w : World) (hm : Mm w [(g, wkc o r u v h t)]) :
    Calls Tryd.prog 37 #[PT g 0] w fun e w' => e = .returned (.tuple #[]) ∧ Mm w' [(g, wkc o x u y h t)] ∧ Kp g w w' := by
  have H0 : Hid (_ ∧ _) := ⟨hm, Kp.refl g w⟩
  clear hm
  have C31 : Hid _ := c31
  have C40 : Hid _ := c40
  have C45 : Hid _ := c45
  clear c31 c40 c45
  go_enter Tryd.func37, Tryd.ntmps37
  refine wp_seq (wp_seq ?_)
  refine walk_anyA 10 [.quiet (PT g 0), .quiet (PT g 0), .quiet (PT g 6), .quiet (N r), .quiet (PT g 0), .quiet (PT g 0), .quiet (PT g 0), .quiet (N o), .call (.int .i64 c), .quiet (.bool false)] (sB H0) ?ho1 ?he1
  case ho1 => exact ak (fun _ => ⟨rfl, fun _ _ => rfl⟩) (ak (by refine fun γ => ⟨rfl, fun w' hh => ?_⟩; clear hh; go_simp) (ak (by refine fun γ => ⟨rfl, fun w' hh => ?_⟩; clear hh; go_simp) (ak (fun γ => ⟨rfl, fun w' hh => ex_load6 hh 0 rfl rfl rfl rfl⟩) (ak (fun _ => ⟨rfl, fun _ _ => rfl⟩) (ak (by refine fun γ => ⟨rfl, fun w' hh => ?_⟩; clear hh; go_simp) (ak (by refine fun γ => ⟨rfl, fun w' hh => ?_⟩; clear hh; go_simp) (ak (fun γ => ⟨rfl, fun w' hh => ex_load6 hh 0 rfl rfl rfl rfl⟩) (ak (fun γ => ⟨rfl, fun w' hh => ⟨41, #[N r, N o], exec_call rfl call41 rfl (mpn rfl), C31.out w'⟩⟩) (ak (by refine fun γ => ⟨rfl, fun w' hh => ?_⟩; clear hh; go_simp) trivial)))))))))
  intro γ w1 l hM hl
  have H1 := keepK H0 hM.below
  clear hM hl l γ
  refine rest0 rfl (then_normal (wp_cond_false rfl ?_))
  refine wp_skip (then_normal (wp_seq ?_))
  refine walk_put (by kernel_rfl) 15 [12] [.quiet (PT g 0), .quiet (PT g 0), .quiet (PT g 0), .quiet (PT g 6), .quiet (N r), .quiet (PT g 0), .quiet (PT g 0), .quiet (PT g 0), .quiet (N o), .call (.tuple #[N x, .bool false]), .quiet (.tuple #[N x, .bool false]), .quiet (N x), .quiet (.bool false), .quiet (PT g 0), .quiet (PT g 6)] _ ?pre2 ?F2 _ ?hpre2 (fun γ => ?hF2) (by kernel_rfl) rfl trivial (sB H1) ?ho2 ?hla2 ?he2
  case hpre2 => simp only [tk, tz]; rfl
  case hF2 => simp only [fill, Kind.val, Act.put, sa, sz, ss]; rfl
  case ho2 =>
    refine ak (fun _ => ⟨rfl, fun _ _ => rfl⟩) ?_
    refine ak (fun _ => ⟨rfl, fun _ _ => rfl⟩) ?_
    refine ak (by refine fun γ => ⟨rfl, fun w' hh => ?_⟩; clear hh; go_simp) ?_
    refine ak (by refine fun γ => ⟨rfl, fun w' hh => ?_⟩; clear hh; go_simp) ?_
    refine ak (fun γ => ⟨rfl, fun w' hh => ex_load6 hh 0 rfl rfl rfl rfl⟩) ?_
    refine ak (fun _ => ⟨rfl, fun _ _ => rfl⟩) ?_
    refine ak (by refine fun γ => ⟨rfl, fun w' hh => ?_⟩; clear hh; go_simp) ?_
    refine ak (by refine fun γ => ⟨rfl, fun w' hh => ?_⟩; clear hh; go_simp) ?_
    refine ak (fun γ => ⟨rfl, fun w' hh => ex_load6 hh 0 rfl rfl rfl rfl⟩) ?_
    refine ak (fun γ => ⟨rfl, fun w' hh => ⟨42, #[N r, N o], exec_call rfl call42 rfl (mpn rfl), C40.out w'⟩⟩) ?_
    refine ak (fun _ => ⟨rfl, fun _ _ => rfl⟩) ?_
    refine ak (by refine fun γ => ⟨rfl, fun w' hh => ?_⟩; clear hh; go_simp) ?_
    refine ak (by refine fun γ => ⟨rfl, fun w' hh => ?_⟩; clear hh; go_simp) ?_
    refine ak (by refine fun γ => ⟨rfl, fun w' hh => ?_⟩; clear hh; go_simp) ?_
    refine ak (by refine fun γ => ⟨rfl, fun w' hh => ?_⟩; clear hh; go_simp) ?_
    exact trivial
  case hla2 => exact ⟨⟨_, _, rfl, rfl, fun γ => ⟨rfl, fun w' => by first | rfl | go_simp⟩⟩, trivial⟩
  intro γ w2 l hM hl
  have H2 := keepK H1 hM.below
  clear hM hl l H1 γ
  refine ⟨_, ex_store6 H2.out.1 0 rfl rfl rfl rfl (Nat.le_of_ble_eq_true rfl), ?_⟩
  have H3 : Hid (Mm (w2.setCells g 6 (cells6 x)) [(g, wkc o x u v h t)] ∧ Kp g w (w2.setCells g 6 (cells6 x))) := ⟨H2.out.1.put 0 (off := 6) (vs := cells6 x) rfl (Nat.le_of_ble_eq_true rfl), H2.out.2.put (Or.inl rfl)⟩
  clear H2
  generalize hgw : World.setCells _ _ _ _ = w3 at H3 ⊢
  clear hgw
  refine rest0 rfl (then_normal ?_)
  refine walk_put (by kernel_rfl) 15 [12] [.quiet (PT g 0), .quiet (PT g 0), .quiet (PT g 0), .quiet (PT g 18), .quiet (N v), .quiet (PT g 0), .quiet (PT g 0), .quiet (PT g 12), .quiet (N u), .call (.tuple #[N y, .bool false]), .quiet (.tuple #[N y, .bool false]), .quiet (N y), .quiet (.bool false), .quiet (PT g 0), .quiet (PT g 18)] _ ?pre3 ?F3 _ ?hpre3 (fun γ => ?hF3) (by kernel_rfl) rfl trivial (sB H3) ?ho3 ?hla3 ?he3
  case hpre3 => simp only [tk, tz]; rfl
  case hF3 => simp only [fill, Kind.val, Act.put, sa, sz, ss]; rfl
  case ho3 =>
    refine ak (fun _ => ⟨rfl, fun _ _ => rfl⟩) ?_
    refine ak (fun _ => ⟨rfl, fun _ _ => rfl⟩) ?_
    refine ak (by refine fun γ => ⟨rfl, fun w' hh => ?_⟩; clear hh; go_simp) ?_
    refine ak (by refine fun γ => ⟨rfl, fun w' hh => ?_⟩; clear hh; go_simp) ?_
    refine ak (fun γ => ⟨rfl, fun w' hh => ex_load6 hh 0 rfl rfl rfl rfl⟩) ?_
    refine ak (fun _ => ⟨rfl, fun _ _ => rfl⟩) ?_
    refine ak (by refine fun γ => ⟨rfl, fun w' hh => ?_⟩; clear hh; go_simp) ?_
    refine ak (by refine fun γ => ⟨rfl, fun w' hh => ?_⟩; clear hh; go_simp) ?_
    refine ak (fun γ => ⟨rfl, fun w' hh => ex_load6 hh 0 rfl rfl rfl rfl⟩) ?_
    refine ak (fun γ => ⟨rfl, fun w' hh => ⟨39, #[N v, N u], exec_call rfl call39 rfl (mpn rfl), C45.out w'⟩⟩) ?_
    refine ak (fun _ => ⟨rfl, fun _ _ => rfl⟩) ?_
    refine ak (by refine fun γ => ⟨rfl, fun w' hh => ?_⟩; clear hh; go_simp) ?_
    refine ak (by refine fun γ => ⟨rfl, fun w' hh => ?_⟩; clear hh; go_simp) ?_
    refine ak (by refine fun γ => ⟨rfl, fun w' hh => ?_⟩; clear hh; go_simp) ?_
    refine ak (by refine fun γ => ⟨rfl, fun w' hh => ?_⟩; clear hh; go_simp) ?_
    exact trivial
  case hla3 => exact ⟨⟨_, _, rfl, rfl, fun γ => ⟨rfl, fun w' => by first | rfl | go_simp⟩⟩, trivial⟩
  intro γ w4 l hM hl
  have H4 := keepK H3 hM.below
  clear hM hl l H3 γ
  refine ⟨_, ex_store6 H4.out.1 0 rfl rfl rfl rfl (Nat.le_of_ble_eq_true rfl), ?_⟩
  have H5 : Hid (Mm (w4.setCells g 18 (cells6 y)) [(g, wkc o x u y h t)] ∧ Kp g w (w4.setCells g 18 (cells6 y))) := ⟨H4.out.1.put 0 (off := 18) (vs := cells6 y) rfl (Nat.le_of_ble_eq_true rfl), H4.out.2.put (Or.inl rfl)⟩
  clear H4
  generalize hgw : World.setCells _ _ _ _ = w5 at H5 ⊢
  clear hgw
  refine rest0 rfl ?_
  refine bodyPost_end (v := .tuple #[]) (by simp [results, Tryd.results37, go_sem]) rfl ?_
  exact ⟨rfl, H5.out.1.one 0 rfl, H5.out.2⟩
end Rg
end Go.Proofs.YtfnmahjdkmgdkaaDoor
end
