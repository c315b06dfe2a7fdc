/- Texts of the proof, joined. -/
import Derived.Test.YtidicdlfjdlpnaaP6
section
namespace Go.Proofs.Ytidicdlfjdlpnaa
open Go.RowKit
namespace Rg
set_option maxRecDepth 100000
def upd {α : Type} (f : Nat → α) (i : Nat) (x : α) : Nat → α := fun k => if k = i then x else f k
theorem upd_same {α : Type} (f : Nat → α) (i : Nat) (x : α) : upd f i x i = x := if_pos rfl
theorem upd_ne {α : Type} (f : Nat → α) {i k : Nat} (x : α) (h : k ≠ i) : upd f i x k = f k := if_neg h
/-- Operations that tell what is known ahead, and others that change the memory: what these tell is kept in ε, and what holds then in J. -/
structure Mix (P : Program) (full ops : Array Oper) (F : (Nat → Value) → Act) (p : Nat) (eff : Nat → Bool) (val : Nat → Value) (J : (Nat → Bool) → (Nat → Value) → World → Prop) : Prop where
  guard : ∀ (i : Nat) (o : Oper), ops[i]? = some o → ∀ d ε w, J d ε w → Region.wanted o (yielded ops (F ε).tmps) = true
  gp : ∀ (i : Nat) (o : Oper) (g : Nat) (b : Bool), ops[i]? = some o → o.guard = some (g, b) → g < p
  quiet : ∀ (i : Nat) (o : Oper), ops[i]? = some o → eff i = false → ∀ d ε w, J d ε w → (execOp (F ε).eval o).run P w = .ok (.value (val i)) w
  efft : ∀ (i : Nat) (o : Oper), ops[i]? = some o → eff i = true → ∀ d ε w, d i = false → (∀ j, eff j = true → waitsQ full 6 o j = true → d j = true) → J d ε w →
    (∃ v w1, (execOp (F ε).eval o).run P w = .ok (.value v) w1 ∧ J (upd d i true) (upd ε i v) w1) ∨
    ∃ f args, (execOp (F ε).eval o).run P w = .ok (.enter f args) w ∧ Calls P f args w fun x w1 => ∃ v, x = .returned v ∧ J (upd d i true) (upd ε i v) w1
section
variable {P : Program} {ops : Array Oper} {a₀ : Act} {Q : Exit → Act → World → Prop}
theorem agree_upd {n p : Nat} {ks : (Nat → Value) → List Kind} {eff : Nat → Bool} {val : Nat → Value} (hO : ∀ ε, Orderly ops (ks ε) n) (hn : n = a₀.tmps.size) (hp : ops.size = p) (hk : ∀ ε i, i < p → (ks ε)[i]? = some (.quiet (if eff i = true then ε i else val i))) {l : Array Bool} {a : Act} {ε : Nat → Value} {i : Nat} (hi : i < p) (hun : l.getD i false = false) (v : Value) (h : Agree ops (ks ε) a₀ l (fun _ => 0) a) : Agree ops (ks (upd ε i v)) a₀ l (fun _ => 0) a := by
  refine ⟨h.defers, h.size, fun d hd => (h.slots d hd).trans ?_⟩
  by_cases hw : ∃ (j : Nat) (oj : Oper), ops[j]? = some oj ∧ oj.dst = some d
  · obtain ⟨j, oj, hj, hdj⟩ := hw
    have hjp : j < p := by rw [← hp]; exact (Array.getElem?_eq_some_iff.1 hj).1
    have hne : j ≠ i := fun e => by
      subst e
      have := hd j oj hj hdj
      rw [hun] at this
      cases this
    rw [fill_one (hO ε) hn _ hj (hk ε j hjp) hdj, fill_one (hO _) hn _ hj (hk _ j hjp) hdj]
    show some _ = some _
    rw [upd_ne _ _ hne]
  · have hno : ∀ o' ∈ ops.toList, o'.dst ≠ some d := fun o' ho' hd' => by
      obtain ⟨j, hj, ej⟩ := List.getElem_of_mem ho'
      exact hw ⟨j, o', by rw [← Array.getElem?_toList, List.getElem?_eq_getElem hj, ej], hd'⟩
    rw [fill_other _ d 0 _ _ _ hno, fill_other _ d 0 _ _ _ hno]
/-- The flags of the operations that change the memory. -/
def efl (eff : Nat → Bool) (l : Array Bool) : Nat → Bool := fun k => eff k && l.getD k false
theorem efl_quiet {eff : Nat → Bool} {l : Array Bool} {i : Nat} (h : eff i = false) : efl eff (l.setIfInBounds i true) = efl eff l := by
  funext k
  unfold efl
  by_cases e : i = k
  · subst e; rw [h]; rfl
  · rw [getD_set_ne false e]
theorem efl_eff {eff : Nat → Bool} {l : Array Bool} {i : Nat} (h : eff i = true) (hun : l.getD i true = false) : efl eff (l.setIfInBounds i true) = upd (efl eff l) i true := by
  funext k
  unfold efl upd
  by_cases e : i = k
  · subst e; rw [if_pos rfl, h, (getD_same hun).2]; rfl
  · rw [getD_set_ne false e, if_neg (Ne.symm e)]
theorem first_mix {full : Array Oper} {n p : Nat} {ks : (Nat → Value) → List Kind} {eff : Nat → Bool} {val : Nat → Value} {J : (Nat → Bool) → (Nat → Value) → World → Prop} (hO : ∀ ε, Orderly ops (ks ε) n) (hn : n = a₀.tmps.size)
    (hp : ops.size = p) (hpf : p ≤ full.size) (hfull : ∀ i, i < p → full[i]? = ops[i]?)
    (hup : ∀ {i : Nat} {o : Oper}, full[i]? = some o → ∀ e ∈ o.after, Region.binds .any e = true → e.on < i)
    (hwt : ∀ {i : Nat} {o : Oper}, full[i]? = some o → p ≤ i → ∀ j, j < i → waitsQ full 6 o j = true)
    (hk : ∀ ε i, i < p → (ks ε)[i]? = some (.quiet (if eff i = true then ε i else val i)))
    (hD : Mix P full ops (fun ε => fill (fun _ => 0) 0 ops.toList (ks ε) a₀) p eff val J)
    (hend : ∀ d ε w, (∀ i, i < p → eff i = true → d i = true) → J d ε w → wpOps P full Q (List.range' p (full.size - p)) (fill (fun _ => 0) 0 ops.toList (ks ε) a₀) w) :
    ∀ (fuel : Nat) (l : Array Bool) (a : Act) (w : World), l.size = full.size → l.toList.count false ≤ fuel → full.size - p ≤ fuel → (∀ i, p ≤ i → i < full.size → l.getD i true = false) → Down full l → (∃ ε, Agree ops (ks ε) a₀ l (fun _ => 0) a ∧ J (efl eff l) ε w) → wpAny P .any full Q fuel l a w := by
  intro fuel
  induction fuel with
  | zero =>
    rintro l a w hsz hc hpl hu hdn ⟨ε, hA, hC⟩
    have hall : ∀ i, i < p → l.getD i false = true := fun i hi => by
      cases hb : l.getD i true with
      | false => have := count_set hb; omega
      | true =>
        have hi' : i < l.size := by omega
        simpa [hi'] using hb
    rw [whole_of hp hA hall]
    exact rest_any p hup hwt (full.size - p) 0 p l _ _ (by omega) (Nat.le_refl _) hsz (by omega) hall hu (hend _ ε _ (fun i hi he => by unfold efl; rw [he, hall i hi]; rfl) hC)
  | succ fuel ih =>
    rintro l a w hsz hc hpl hu hdn ⟨ε, hA, hC⟩
    by_cases hall : ∀ i, i < p → l.getD i false = true
    · rw [whole_of hp hA hall]
      exact rest_any p hup hwt (full.size - p) (fuel + 1) p l _ _ (by omega) (Nat.le_refl _) hsz (by omega) hall hu (hend _ ε _ (fun i hi he => by unfold efl; rw [he, hall i hi]; rfl) hC)
    · have hex : ∃ x, x < p ∧ l.getD x false = false := by
        apply Classical.byContradiction
        intro hno
        apply hall
        intro i hi
        cases hb : l.getD i false with
        | true => rfl
        | false => exact absurd ⟨i, hi, hb⟩ hno
      obtain ⟨x, hx, hxf⟩ := hex
      have hlow : ∀ i ∈ Region.ready .any full l, i < p := fun i hi => by
        obtain ⟨hun, o, ho, hedge⟩ := mem_ready.1 hi
        rcases Nat.lt_or_ge i p with h' | h'
        · exact h'
        · have := waitsQ_spec hdn 6 (hwt ho h' x (by omega)) hedge
          rw [hxf] at this
          cases this
      have hcnt : full.size - p + 1 ≤ l.toList.count false := by
        have h1 : l.getD x true = false := by
          have hx' : x < l.size := by omega
          simpa [hx'] using hxf
        have h2 := count_set h1
        have h3 : ∀ (m : Nat) (l : Array Bool), l.size = full.size → m ≤ full.size - p → (∀ i, full.size - m ≤ i → i < full.size → l.getD i true = false) → m ≤ l.toList.count false := by
          intro m
          induction m with
          | zero => intro l _ _ _; omega
          | succ m ih =>
            intro l hs hm hl
            have h4 := count_set (hl (full.size - (m + 1)) (Nat.le_refl _) (by omega))
            have h5 := ih (l.setIfInBounds (full.size - (m + 1)) true) (by simp [hs]) (by omega) (fun i hi1 hi2 => by rw [getD_set_ne true (by omega)]; exact hl i (by omega) hi2)
            omega
        have h6 := h3 (full.size - p) (l.setIfInBounds x true) (by simp [hsz]) (Nat.le_refl _) (fun i hi1 hi2 => by rw [getD_set_ne true (by omega)]; exact hu i (by omega) hi2)
        omega
      refine ⟨fun hr => ?_, fun i hi => ?_⟩
      · exfalso
        have : ∀ i, i < full.size → l.getD i false = true := by
          intro i
          induction i using Nat.strongRecOn with
          | _ i ih2 =>
            intro hi
            have hi' : i < l.size := by omega
            cases hl : l.getD i true with
            | true => simpa [hi'] using hl
            | false =>
              exfalso
              have : i ∈ Region.ready .any full l := mem_ready.2 ⟨hl, full[i], Array.getElem?_eq_getElem hi, fun e he hb => by
                have h1 := hup (Array.getElem?_eq_getElem hi) e he hb
                exact ih2 e.on h1 (by omega)⟩
              rw [hr] at this
              cases this
        rw [this x (by omega)] at hxf
        cases hxf
      · have hip := hlow i hi
        obtain ⟨hun, o, ho, hedge⟩ := mem_ready.1 hi
        have ho' : ops[i]? = some o := by rw [← hfull i hip]; exact ho
        have hc' := count_set hun
        have hun' : l.getD i false = false := (getD_same hun).1
        have hsee := hA.sees (hO ε) ho' hedge
        have hwn : Region.wanted o (yielded full a.tmps) = true := by
          have h6 : Region.wanted o (yielded full a.tmps) = Region.wanted o (yielded ops a.tmps) := by
            unfold Region.wanted
            cases hg : o.guard with
            | none => rfl
            | some gw =>
              obtain ⟨g, want⟩ := gw
              have hy : yielded full a.tmps g = yielded ops a.tmps g := by
                unfold yielded
                rw [hfull g (hD.gp i o g want ho' hg)]
              simp only [hy]
          rw [h6, hsee.2]
          exact hD.guard i o ho' _ ε w hC
        have fin : ∀ (K' : Act → World → Prop), (∀ a' w', wpAny P .any full Q fuel (l.setIfInBounds i true) a' w' → K' a' w') → ∀ v w1, (∃ ε', Agree ops (ks ε') a₀ (l.setIfInBounds i true) (fun _ => 0) (a.put o.dst v) ∧ J (efl eff (l.setIfInBounds i true)) ε' w1) → K' (a.put o.dst v) w1 := fun K' hK v w1 hx =>
          hK _ _ (ih _ _ _ (by simp [hsz]) (by omega) (by omega) (fun j hj hj2 => by rw [getD_set_ne true (by omega)]; exact hu j hj hj2) (down_set hdn ho hedge) hx)
        refine wpOp_step ho (fun K' hK => ?_)
        rw [if_pos hwn]
        unfold Oper.wp
        rw [hsee.1]
        cases hE : eff i with
        | false =>
          have hki := hk ε i hip
          rw [hE, if_neg (by decide)] at hki
          rw [hD.quiet i o ho' hE _ ε w hC]
          exact fin K' hK _ _ ⟨ε, hA.step (γ' := fun _ => 0) (hO ε) hn ho' hki (fun _ _ _ _ => rfl), by rw [efl_quiet hE]; exact hC⟩
        | true =>
          have hst : ∀ v w1, J (upd (efl eff l) i true) (upd ε i v) w1 → ∃ ε', Agree ops (ks ε') a₀ (l.setIfInBounds i true) (fun _ => 0) (a.put o.dst v) ∧ J (efl eff (l.setIfInBounds i true)) ε' w1 := fun v w1 hJ => by
            have hki := hk (upd ε i v) i hip
            rw [hE, if_pos rfl, upd_same] at hki
            exact ⟨_, (agree_upd hO hn hp hk hip hun' v hA).step (γ' := fun _ => 0) (hO _) hn ho' hki (fun _ _ _ _ => rfl), by rw [efl_eff hE hun]; exact hJ⟩
          rcases hD.efft i o ho' hE _ ε w (by unfold efl; rw [hun', Bool.and_false]) (fun j hj hwj => by unfold efl; rw [hj, waitsQ_spec hdn 6 hwj hedge]; rfl) hC with ⟨v, w1, hx, hJ⟩ | ⟨f, args, hx, hcall⟩
          · rw [hx]
            exact fin K' hK v w1 (hst v w1 hJ)
          · rw [hx]
            refine Calls.mono hcall ?_
            rintro _ w1 ⟨v, rfl, hJ⟩
            exact fin K' hK v w1 (hst v w1 hJ)
end
/-- What the operations tell, ε what those tell that change the memory. -/
def vsOf (eff : Nat → Bool) (vl : List Value) (p : Nat) (ε : Nat → Value) : List Value := (List.range p).map fun i => if eff i = true then ε i else vl.getD i undef
def QOk (P : Program) (F : (Nat → Value) → Act) (eff : Nat → Bool) (J : (Nat → Bool) → (Nat → Value) → World → Prop) : Nat → List Oper → List Value → Prop
  | i, o :: os, v :: vs => (eff i = false → ∀ d ε w, J d ε w → (execOp (F ε).eval o).run P w = .ok (.value v) w) ∧ QOk P F eff J (i + 1) os vs
  | _, _, _ => True
theorem QOk.at {P : Program} {F : (Nat → Value) → Act} {eff : Nat → Bool} {J : (Nat → Bool) → (Nat → Value) → World → Prop} : ∀ {os : List Oper} {vs : List Value} {k : Nat}, QOk P F eff J k os vs → ∀ {i : Nat} {o : Oper} {v : Value}, os[i]? = some o → vs[i]? = some v → eff (k + i) = false → ∀ d ε w, J d ε w → (execOp (F ε).eval o).run P w = .ok (.value v) w
  | [], _, _, _, _, _, _, h, _ => by simp at h
  | _ :: _, [], _, _, _, _, _, _, h => by simp at h
  | _ :: _, _ :: _, _, hD, 0, _, _, ho, hv => by
    simp at ho hv
    subst ho hv
    exact hD.1
  | _ :: os, _ :: vs, k, hD, i + 1, _, _, ho, hv => by
    rw [show k + (i + 1) = k + 1 + i by omega]
    exact QOk.at (os := os) (vs := vs) hD.2 (by simpa using ho) (by simpa using hv)
theorem walk_mixg {P : Program} {Q : Exit → Act → World → Prop} {full : Array Oper} {a : Act} {w : World} {id : Nat} (hm : P.follows .mixedOrders = true) (p : Nat) (vl : List Value) (eff : Nat → Bool) (J : (Nat → Bool) → (Nat → Value) → World → Prop) (pre : List Oper) (F : (Nat → Value) → Act) (hpre : full.toList.take p = pre)
    (hF : ∀ ε, fill (fun _ => 0) 0 pre ((vsOf eff vl p ε).map Kind.quiet) a = F ε) (hlen : vl.length = p) (hor : ∀ ε, (orderly pre.toArray ((vsOf eff vl p ε).map Kind.quiet) a.tmps.size && chained full p && decide (p ≤ full.size) && guarded pre.toArray p) = true)
    (hW : ∀ d ε w, J d ε w → (pre.all fun o => Region.wanted o (yielded pre.toArray (F ε).tmps)) = true) (h0 : ∃ ε, J (fun _ => false) ε w.drew) (hq : QOk P F eff J 0 pre vl)
    (he : ∀ (i : Nat) (o : Oper), pre[i]? = some o → eff i = true → ∀ d ε w, d i = false → (∀ j, eff j = true → waitsQ full 6 o j = true → d j = true) → J d ε w →
      (∃ v w1, (execOp (F ε).eval o).run P w = .ok (.value v) w1 ∧ J (upd d i true) (upd ε i v) w1) ∨
      ∃ f args, (execOp (F ε).eval o).run P w = .ok (.enter f args) w ∧ Calls P f args w fun x w1 => ∃ v, x = .returned v ∧ J (upd d i true) (upd ε i v) w1)
    (hend : ∀ d ε w', (∀ i, i < p → eff i = true → d i = true) → J d ε w' → wpOps P full Q (List.range' p (full.size - p)) (F ε) w') :
    (Code.region id full true).wp P Q a w := by
  subst hpre
  obtain rfl : (fun ε => fill (fun _ => 0) 0 (full.toList.take p) ((vsOf eff vl p ε).map Kind.quiet) a) = F := funext hF
  have hor' := hor
  have h1 : ∀ ε, Orderly (full.toList.take p).toArray ((vsOf eff vl p ε).map Kind.quiet) a.tmps.size := fun ε => by
    have := hor ε
    simp only [Bool.and_eq_true] at this
    exact Orderly.of this.1.1.1
  have h2 := hor (fun _ => undef)
  simp only [Bool.and_eq_true, decide_eq_true_eq] at h2
  obtain ⟨⟨⟨_, h3⟩, h4⟩, h5⟩ := h2
  unfold chained at h3
  simp only [Bool.and_eq_true] at h3
  obtain ⟨h6, h7⟩ := h3
  have hat : ∀ (i : Nat) (o : Oper), (full.toList.take p).toArray[i]? = some o → i < p ∧ (full.toList.take p)[i]? = some o := fun i o ho => by
    have h8 : (full.toList.take p)[i]? = some o := by simpa using ho
    have h9 := (List.getElem?_eq_some_iff.1 h8).1
    rw [List.length_take] at h9
    exact ⟨by omega, h8⟩
  have hsz : (full.toList.take p).toArray.size = p := by simp; omega
  obtain ⟨ε0, h0⟩ := h0
  have hz : efl eff (Array.replicate full.size false) = fun _ => false := by
    funext k
    unfold efl
    rw [none_listed, Bool.and_false]
  refine wp_region_any hm (first_mix (ops := (full.toList.take p).toArray) (ks := fun ε => (vsOf eff vl p ε).map Kind.quiet) (p := p) (eff := eff) (val := fun i => vl.getD i undef) (J := J) h1 rfl hsz h4 (fun i hi => ?_) (fun ho e he hb => ?_) (fun ho hi j hj => ?_) (fun ε i hi => ?_) ⟨fun i o ho d ε w hJ => ?_, fun i o g b ho hg => guarded_spec h5 ho hg, fun i o ho hE d ε w hJ => ?_, fun i o ho hE d ε w hd hdep hJ => he i o (hat i o ho).2 hE d ε w hd hdep hJ⟩ hend full.size _ a w.drew (by simp) (by simp) (by omega) (fun i _ hi => none_listed' hi) (fun _ hl _ _ _ => by rw [none_listed] at hl; cases hl) ⟨ε0, start_agree _ _, by rw [hz]; exact h0⟩)
  · rw [show (full.toList.take p).toArray[i]? = (full.toList.take p)[i]? by simp, List.getElem?_take, if_pos hi]
    simp
  · have := Array.all_eq_true_iff_forall_mem.1 (eachOp_spec h6 ho) e he
    simpa [hb] using this
  · have := eachOp_spec h7 ho
    simp only [Bool.or_eq_true, decide_eq_true_eq] at this
    rcases this with h8 | h8
    · omega
    · exact List.all_eq_true.1 h8 j (List.mem_range.2 hj)
  · rw [List.getElem?_map]
    unfold vsOf
    rw [List.getElem?_map, List.getElem?_range hi]
    rfl
  · exact List.all_eq_true.1 (hW d ε w hJ) o (List.mem_of_getElem? (hat i o ho).2)
  · obtain ⟨hi, ho1⟩ := hat i o ho
    have hv : vl[i]? = some (vl.getD i undef) := by rw [List.getD_eq_getElem?_getD, List.getElem?_eq_getElem (by omega)]; rfl
    exact hq.at ho1 hv (by rw [Nat.zero_add]; exact hE) d ε w hJ
theorem walk_mix {P : Program} {Q : Exit → Act → World → Prop} {full : Array Oper} {a : Act} {w : World} {id : Nat} (hm : P.follows .mixedOrders = true) (p : Nat) (vl : List Value) (eff : Nat → Bool) (J : (Nat → Bool) → (Nat → Value) → World → Prop) (pre : List Oper) (F : (Nat → Value) → Act) (hpre : full.toList.take p = pre)
    (hF : ∀ ε, fill (fun _ => 0) 0 pre ((vsOf eff vl p ε).map Kind.quiet) a = F ε) (hlen : vl.length = p) (hor : ∀ ε, (orderly pre.toArray ((vsOf eff vl p ε).map Kind.quiet) a.tmps.size && chained full p && decide (p ≤ full.size) && guarded pre.toArray p) = true)
    (hW : ∀ ε, (pre.all fun o => Region.wanted o (yielded pre.toArray (F ε).tmps)) = true) (h0 : ∃ ε, J (fun _ => false) ε w.drew) (hq : QOk P F eff J 0 pre vl)
    (he : ∀ (i : Nat) (o : Oper), pre[i]? = some o → eff i = true → ∀ d ε w, d i = false → (∀ j, eff j = true → waitsQ full 6 o j = true → d j = true) → J d ε w →
      (∃ v w1, (execOp (F ε).eval o).run P w = .ok (.value v) w1 ∧ J (upd d i true) (upd ε i v) w1) ∨
      ∃ f args, (execOp (F ε).eval o).run P w = .ok (.enter f args) w ∧ Calls P f args w fun x w1 => ∃ v, x = .returned v ∧ J (upd d i true) (upd ε i v) w1)
    (hend : ∀ d ε w', (∀ i, i < p → eff i = true → d i = true) → J d ε w' → wpOps P full Q (List.range' p (full.size - p)) (F ε) w') :
    (Code.region id full true).wp P Q a w :=
  walk_mixg hm p vl eff J pre F hpre hF hlen hor (fun _ ε _ _ => hW ε) h0 hq he hend
end Rg
end Go.Proofs.Ytidicdlfjdlpnaa
end
section
namespace Go.Proofs.Ytidicdlfjdlpnaa
open Go.RowKit
namespace Rg
namespace Wi
set_option maxRecDepth 100000
theorem own_lo2 {w : World} {B e size n : Nat} {v : Value} {xs : List Value} (h : w.ownsRow B e size v n xs) : ∀ x ∈ vbl v, B ≤ x := fun x hx => by
  unfold vbl at hx
  cases hv : v.ownBlock with
  | none => rw [hv] at hx; cases hx
  | some k =>
    rw [hv] at hx
    obtain rfl := List.mem_singleton.1 hx
    exact (World.ownsRow.lt h _ hv).1
theorem flat_set {α : Type} (g : α → List Value) (k : Nat) (hg : ∀ a, (g a).length = k) (x : Value) (j : Nat) (hj : j < k) : ∀ (l : List α) (i : Nat) (a a' : α), l[i]? = some a → g a' = (g a).set j x → (l.flatMap g).set (i * k + j) x = (l.set i a').flatMap g
  | [], i, a, a', h, _ => by simp at h
  | b :: r, 0, a, a', h, e => by
    simp at h
    subst h
    rw [Nat.zero_mul, Nat.zero_add, List.flatMap_cons, List.set_cons_zero, List.flatMap_cons, e, List.set_append_left _ _ (by rw [hg]; exact hj)]
  | b :: r, i + 1, a, a', h, e => by
    have h : r[i]? = some a := by simpa using h
    rw [List.flatMap_cons, List.set_cons_succ, List.flatMap_cons, List.set_append_right _ _ (by rw [hg, Nat.succ_mul]; omega), hg, show (i + 1) * k + j - k = i * k + j by rw [Nat.succ_mul]; omega, flat_set g k hg x j hj r i a a' h e]
def Dx.ws (X : Dx) (fs : List Mf) (L : List Nat) : Dx := ⟨X.m, X.v, X.rp, X.rg, X.rc, X.n, X.F, fs, X.k, L⟩
/-- One of a file's cells is written. -/
theorem Dxo.cell {w0 u : World} {X : Dx} (h : Dxo w0 X u) {i j g cp : Nat} {f f' : Mf} (hi : X.fs[i]? = some f) (hv : X.v = .slice (some ⟨g, 0, none⟩) X.fs.length cp) (x : Value) (hj : j < 4) (hf : f'.c = f.c.set j x) (L : List Nat) (hok : f'.ok L u) (hL : ∀ x ∈ X.L, x ∈ L) (hN : ∀ x ∈ L, x ∈ X.L ∨ (w0.heap.size ≤ x ∧ x < u.heap.size ∧ x ∉ X.bl)) :
    Dxo w0 (X.ws (X.fs.set i f') L) (u.setCell ⟨g, i * 4 + j, none⟩ x) ∧ Chg [g] u (u.setCell ⟨g, i * 4 + j, none⟩ x) := by
  have hc : Chg [g] u (u.setCell ⟨g, i * 4 + j, none⟩ x) := ⟨rfl, rfl, rfl, by simp, fun k _ hk => heap_setCell_other u ⟨g, i * 4 + j, none⟩ k _ (fun e => hk (by simp [e]))⟩
  have hgv : g ∈ vbl X.v := by rw [hv]; simp [vbl, Value.ownBlock]
  have hvg : ∀ x ∈ vbl X.v, x = g := fun x hx => by rw [hv] at hx; simpa [vbl, Value.ownBlock] using hx
  have hgm : X.m ≠ g := fun e => h.m1 (e ▸ hgv)
  have hgL : g ∉ L := fun e => by
    rcases hN g e with e1 | ⟨_, _, e1⟩
    · exact h.vL g hgv e1
    · exact e1 (List.mem_cons_of_mem _ (List.mem_append_left _ hgv))
  have hlt : ∀ x ∈ L, x < u.heap.size := fun x hx => by
    rcases hN x hx with e | ⟨_, e, _⟩
    · exact h.lt x (List.mem_cons_of_mem _ (List.mem_append_right _ e))
    · exact e
  have hL2 : Kx L u (u.setCell ⟨g, i * 4 + j, none⟩ x) := ⟨hc.size, fun y hy => hc.block y (hlt y hy) (fun e => hgL (by rw [← List.mem_singleton.1 e]; exact hy))⟩
  have hmb : (u.setCell ⟨g, i * 4 + j, none⟩ x).heap[X.m]? = u.heap[X.m]? := hc.block _ (h.lt _ (List.mem_cons_self ..)) (fun e => hgm (List.mem_singleton.1 e))
  have hr := h.row
  rw [hv] at hr
  have hst := (hr.stored (i * 4 + j) x).1
  rw [flat_set Mf.c 4 Mf.len x j hj X.fs i f f' hi hf] at hst
  refine ⟨⟨(World.cell?_of_block hmb).trans h.c0, (World.cell?_of_block hmb).trans h.c1, (World.cell?_of_block hmb).trans h.c2, fun k => (World.frozen?_of_block hmb).trans (h.fz k), ?_, fun y hy => ?_, fun hn => ⟨(h.rp hn).1, hL _ (h.rp hn).2⟩, fun i hi => ?_, fun y hy => ?_, fun y hy => ?_, h.m1, fun e => ?_, fun y hy e => ?_⟩, hc⟩
  · show World.ownsRow _ 0 148 4 X.v (X.fs.set i f').length _
    rw [List.length_set, hv]
    exact hst
  · have hy : y ∈ X.fs.set i f' := hy
    rcases List.mem_or_eq_of_mem_set hy with e | e
    · exact ((h.ok y e).mono hL).kx hL2
    · rw [e]; exact hok.kx hL2
  · have hn : 0 < X.n := Nat.lt_of_le_of_lt (Nat.zero_le _) hi
    exact (World.cell?_of_block (a := ⟨X.rg, i, none⟩) (hL2.2 _ (hL _ (h.rp hn).2))).trans (h.rr i hi)
  · rcases List.mem_cons.1 hy with e | e
    · rw [e]; exact h.lo _ (List.mem_cons_self ..)
    · rcases List.mem_append.1 e with e | e
      · exact h.lo y (List.mem_cons_of_mem _ (List.mem_append_left _ e))
      · rcases hN y e with e1 | ⟨e1, _, _⟩
        · exact h.lo y (List.mem_cons_of_mem _ (List.mem_append_right _ e1))
        · exact e1
  · rw [World.size_setCell]
    rcases List.mem_cons.1 hy with e | e
    · rw [e]; exact h.lt _ (List.mem_cons_self ..)
    · rcases List.mem_append.1 e with e | e
      · exact h.lt y (List.mem_cons_of_mem _ (List.mem_append_left _ e))
      · exact hlt y e
  · rcases hN _ e with e1 | ⟨_, _, e1⟩
    · exact h.m2 e1
    · exact e1 (List.mem_cons_self ..)
  · rcases hN _ e with e1 | ⟨_, _, e1⟩
    · exact h.vL y hy e1
    · exact e1 (List.mem_cons_of_mem _ (List.mem_append_left _ hy))
theorem own_apOB {w : World} {B : Nat} {v : Value} {ops : List Mo} (h : w.ownsRow B 152 3 v ops.length (ops.flatMap Mo.c)) (hB : B ≤ w.heap.size) (news : List Mo) {a : Addr} {c : Nat} (hc : ∀ j x, (news.flatMap Mo.c)[j]? = some x → w.cell? (a.add j) = some x) (hb : ops.length + news.length ≤ 1000000) (ty : TypeId) :
    ∃ v' w2, (Builtin.append_ #[146, 146] ty #[v, .slice (some a) news.length c]).run Try.prog w = .ok v' w2 ∧ w2.ownsRow B 152 3 v' (ops ++ news).length ((ops ++ news).flatMap Mo.c) ∧ w.grownBy w2 v.ownBlock ∧ (v'.ownBlock = v.ownBlock ∨ v'.ownBlock = some w.heap.size) := by
  obtain ⟨i0, z0, hi, hz0, hz1, hz2, hz3⟩ := info_ro
  obtain ⟨v', w2, h1, h2, h3, _, h5⟩ := run_append_own_at (P := Try.prog) w B 146 ty 152 i0 z0 3 40 Try.underlying146 hi hz0 hz1 hz2 hz3 (by decide) v _ _ h a news.length c (news.flatMap Mo.c) (fm_len _ _ Mo.len _) hc (fun x hx => by
    obtain ⟨o, _, ho⟩ := List.mem_flatMap.1 hx
    exact o.one x ho) (by unfold maxLen; omega) (by omega) hB
  refine ⟨v', w2, h1, ?_, h3, h5⟩
  rw [List.length_append, List.flatMap_append]
  exact h2
/-- A file's operations behind a row of one's own. -/
theorem ap_ov {w : World} {B : Nat} {v : Value} {ops : List Mo} (h : w.ownsRow B 152 3 v ops.length (ops.flatMap Mo.c)) (hB : B ≤ w.heap.size) {f : Mf} {L : List Nat} (hf : f.ok L w) (hb : ops.length + f.ops.length ≤ 1000000) (ty : TypeId) :
    ∃ v' w2, (Builtin.append_ #[146, 146] ty #[v, f.ov]).run Try.prog w = .ok v' w2 ∧ w2.ownsRow B 152 3 v' (ops ++ f.ops).length ((ops ++ f.ops).flatMap Mo.c) ∧ w.grownBy w2 v.ownBlock ∧ (v'.ownBlock = v.ownBlock ∨ v'.ownBlock = some w.heap.size) := by
  have hr := hf.ow
  rcases hr.2 with ⟨h1, h2⟩ | ⟨g, cap, cur, h1, h2, h3, h4, _⟩
  · have e : f.ops = [] := List.eq_nil_of_length_eq_zero h2
    obtain ⟨i0, z0, hi, hz0, hz1, hz2, hz3⟩ := info_ro
    refine ⟨v, w, ?_, by rw [e, List.append_nil]; exact h, ⟨rfl, rfl, rfl, Nat.le_refl _, fun _ _ _ => rfl⟩, .inl rfl⟩
    rw [h1]
    exact run_append_owned_none (P := Try.prog) (w := w) B 146 ty 152 i0 3 Try.underlying146 hi v _ _ h
  · rw [h1] at hr
    rw [h1]
    exact own_apOB h hB f.ops (fun j x hj => World.ownsRow.cells hr (g := g) rfl j x hj) hb ty
theorem ex_bsR0 {ρ : Operand → Value} {o : Oper} {w : World} (ho : o.op = .buildSlice 146 0 #[]) : (execOp ρ o).run Try.prog w = .ok (.value (.slice (some ⟨w.heap.size, 0, none⟩) 0 0)) (w.alloc (.cells #[] 152)) := by
  simp only [execOp, ho]
  kernel_rfl
theorem ex_bsR1 {ρ : Operand → Value} {o : Oper} {x : Operand} {a b d : Value} {w : World} (ho : o.op = .buildSlice 146 1 #[(0, x)]) (hx : ρ x = .agg #[a, b, d]) : (execOp ρ o).run Try.prog w = .ok (.value (.slice (some ⟨w.heap.size, 0, none⟩) 1 1)) (w.alloc (.cells ([a, b, d] : List Value).toArray 152)) := by
  simp only [execOp, ho, List.map_toArray, List.map_cons, List.map_nil, hx]
  kernel_rfl
theorem ex_apR {ρ : Operand → Value} {o : Oper} {x y : Operand} {vv sv v' : Value} {w w2 : World} (ho : o.op = .call { callee := .builtin .append, args := #[x, y], argTypes := #[146, 146] }) (hx : ρ x = vv) (hy : ρ y = sv) (hr : (Builtin.append_ #[146, 146] o.type #[vv, sv]).run Try.prog w = .ok v' w2) : (execOp ρ o).run Try.prog w = .ok (.value v') w2 := by
  unfold execOp
  simp only [ho, resolve, invoke, builtin, Sem.run_bind, Sem.run_pure, Result.andThen_ok, List.map_toArray, List.map_cons, List.map_nil, hx, hy, hr]
/-- What holds while an operation is put behind the others. -/
structure Ju (w1 : World) (ops : List Mo) (o : Mo) (d : Nat → Bool) (ε : Nat → Value) (u : World) : Prop where
  b : Below w1.heap.size w1 u
  a : d 5 = true → d 14 = false → ∃ g, ε 5 = .slice (some ⟨g, 0, none⟩) 0 0 ∧ w1.heap.size ≤ g ∧ u.heap[g]? = some (.cells #[] 152 (0, 0))
  r : d 14 = true → d 17 = false → u.ownsRow w1.heap.size 152 3 (ε 14) ops.length (ops.flatMap Mo.c)
  c : d 16 = true → d 17 = false → ∃ g, ε 16 = .slice (some ⟨g, 0, none⟩) 1 1 ∧ w1.heap.size ≤ g ∧ u.heap[g]? = some (.cells o.c.toArray 152 (0, 0)) ∧ (d 14 = true → g ∉ vbl (ε 14))
  k : d 17 = true → u.ownsRow w1.heap.size 152 3 (ε 17) (ops ++ [o]).length ((ops ++ [o]).flatMap Mo.c)
section
variable {w1 u : World} {ops : List Mo} {o : Mo} {d : Nat → Bool} {ε : Nat → Value}
theorem Ju.s5 (h : Ju w1 ops o d ε u) (h14 : d 14 = false) (h17 : d 17 = false) : Ju w1 ops o (upd d 5 true) (upd ε 5 (.slice (some ⟨u.heap.size, 0, none⟩) 0 0)) (u.alloc (.cells #[] 152)) := by
  have hb : Below u.heap.size u (u.alloc (.cells #[] 152)) := (Below.refl _ _).alloc (Nat.le_refl _) _
  refine ⟨h.b.trans (hb.mono h.b.size), fun _ _ => ⟨u.heap.size, upd_same _ _ _, h.b.size, World.alloc_heap_new u _⟩, fun e => ?_, fun e e2 => ?_, fun e => ?_⟩
  · rw [upd_ne _ _ (by decide), h14] at e; cases e
  · rw [upd_ne _ _ (by decide)] at e
    obtain ⟨g, g1, g2, g3, g4⟩ := h.c e h17
    refine ⟨g, by rw [upd_ne _ _ (by decide)]; exact g1, g2, (hb.block g (Array.getElem?_eq_some_iff.1 g3).1).trans g3, fun e3 => ?_⟩
    rw [upd_ne _ _ (by decide), h14] at e3; cases e3
  · rw [upd_ne _ _ (by decide), h17] at e; cases e
theorem Ju.s16 (h : Ju w1 ops o d ε u) (h17 : d 17 = false) : Ju w1 ops o (upd d 16 true) (upd ε 16 (.slice (some ⟨u.heap.size, 0, none⟩) 1 1)) (u.alloc (.cells o.c.toArray 152)) := by
  have hb : Below u.heap.size u (u.alloc (.cells o.c.toArray 152)) := (Below.refl _ _).alloc (Nat.le_refl _) _
  refine ⟨h.b.trans (hb.mono h.b.size), fun e e2 => ?_, fun e e2 => ?_, fun _ _ => ⟨u.heap.size, upd_same _ _ _, h.b.size, World.alloc_heap_new u _, fun e => ?_⟩, fun e => ?_⟩
  · rw [upd_ne _ _ (by decide)] at e e2
    obtain ⟨g, g1, g2, g3⟩ := h.a e e2
    exact ⟨g, by rw [upd_ne _ _ (by decide)]; exact g1, g2, (hb.block g (Array.getElem?_eq_some_iff.1 g3).1).trans g3⟩
  · rw [upd_ne _ _ (by decide)] at e ⊢
    have hr := h.r e h17
    exact own_keep hr fun b hm => hb.block b (own_lt hr b hm)
  · rw [upd_ne _ _ (by decide)] at e ⊢
    have hr := h.r e h17
    exact fun hm => absurd (own_lt hr _ hm) (Nat.lt_irrefl _)
  · rw [upd_ne _ _ (by decide), h17] at e; cases e
theorem Ju.s14 {f : Mf} {L : List Nat} (hf : f.ok L w1) (h : Ju w1 f.ops o d ε u) (h5 : d 5 = true) (h14 : d 14 = false) (h17 : d 17 = false) (hb : f.ops.length ≤ 900000) : ∃ v u', (Builtin.append_ #[146, 146] 146 #[ε 5, f.ov]).run Try.prog u = .ok v u' ∧ Ju w1 f.ops o (upd d 14 true) (upd ε 14 v) u' := by
  obtain ⟨g, g1, g2, g3⟩ := h.a h5 h14
  have hgl := (Array.getElem?_eq_some_iff.1 g3).1
  have e0 : u.ownsRow w1.heap.size 152 3 (ε 5) ([] : List Mo).length (([] : List Mo).flatMap Mo.c) := by
    rw [g1]
    exact ⟨rfl, .inr ⟨g, 0, #[], rfl, g2, g3, Nat.le_refl _, by decide, rfl, rfl⟩⟩
  obtain ⟨v, u', hr, ho, hg, h6⟩ := ap_ov e0 h.b.size (hf.below h.b) (by simp; omega) 146
  rw [List.nil_append] at ho
  have hsz := hg.size
  have hold : ∀ k, k < u.heap.size → k ≠ g → u'.heap[k]? = u.heap[k]? := fun k hk hn => hg.block k hk (by rw [g1]; intro e; exact hn (by simpa [Value.ownBlock] using e))
  refine ⟨v, u', hr, h.b.trans ((Chg.grown hg).toBelow (fun x hx => by rw [g1] at hx; simp [Value.ownBlock] at hx; omega) h.b.size), fun _ e => ?_, fun _ _ => by rw [upd_same]; exact ho, fun e e2 => ?_, fun e => ?_⟩
  · rw [upd_same] at e; cases e
  · rw [upd_ne _ _ (by decide)] at e
    obtain ⟨x, x1, x2, x3, _⟩ := h.c e h17
    have hxl := (Array.getElem?_eq_some_iff.1 x3).1
    have hxg : x ≠ g := fun e5 => by
      rw [e5, g3] at x3
      injection x3 with x3
      injection x3 with x3
      have := congrArg Array.size x3
      simp [Mo.c] at this
    refine ⟨x, by rw [upd_ne _ _ (by decide)]; exact x1, x2, (hold x hxl hxg).trans x3, fun _ hm => ?_⟩
    rw [upd_same] at hm
    unfold vbl at hm
    rcases h6 with e6 | e6
    · rw [e6, g1] at hm
      exact hxg (by simpa [Value.ownBlock] using hm)
    · rw [e6] at hm
      have : x = u.heap.size := by simpa using hm
      omega
  · rw [upd_ne _ _ (by decide), h17] at e; cases e
theorem Ju.s17 (h : Ju w1 ops o d ε u) (h14 : d 14 = true) (h16 : d 16 = true) (h17 : d 17 = false) (hb : ops.length ≤ 900000) : ∃ v u', (Builtin.append_ #[146, 146] 146 #[ε 14, ε 16]).run Try.prog u = .ok v u' ∧ Ju w1 ops o (upd d 17 true) (upd ε 17 v) u' := by
  obtain ⟨g, g1, g2, g3, g4⟩ := h.c h16 h17
  have hr := h.r h14 h17
  obtain ⟨v, u', hrun, ho, hg, h6⟩ := own_apOB hr h.b.size [o] (a := ⟨g, 0, none⟩) (c := 1) (fun j x hj => by
    rw [show (⟨g, 0, none⟩ : Addr).add j = ⟨g, j, none⟩ by unfold Addr.add; split <;> simp_all]
    unfold World.cell?
    dsimp only
    rw [g3]
    simpa using hj) (by simp; omega) 146
  refine ⟨v, u', by rw [g1]; exact hrun, h.b.trans ((Chg.grown hg).toBelow (own_lo2 hr) h.b.size), fun e e2 => ?_, fun _ e => ?_, fun _ e => ?_, fun _ => by rw [upd_same]; exact ho⟩
  · rw [upd_ne _ _ (by decide), h14] at e2; cases e2
  · rw [upd_same] at e; cases e
  · rw [upd_same] at e; cases e
end
end Wi
end Rg
end Go.Proofs.Ytidicdlfjdlpnaa
end
section
namespace Go.Proofs.Ytidicdlfjdlpnaa
open Go.RowKit
namespace Rg
namespace Wi
set_option maxRecDepth 100000
def ufe : Nat → Bool := fun i => i == 5 || i == 14 || i == 16 || i == 17
def Mf.more (f : Mf) (ov : Value) (o : Mo) : Mf := ⟨f.nm, f.q, ov, f.ops ++ [o], f.old⟩
theorem Mf.more_rf (f : Mf) (ov : Value) (o : Mo) : (f.more ov o).rf = f.rf.more o.ro := by
  unfold Mf.more Mf.rf Rf.more
  simp
set_option maxHeartbeats 800000 in
/-- An operation is put behind a file's others. -/
theorem runder_any {w0 : World} {X : Dx} (i : Nat) (f : Mf) (hi : X.fs[i]? = some f) (o : Mo) (hon : f.ops.length ≤ 900000) (w : World) (h : Dxo w0 X w) (hw0 : w0.heap.size ≤ w.heap.size) (hoq : Pq o.q w) (hol : ∀ x ∈ gbl o.q, w0.heap.size ≤ x ∧ x ∉ X.bl) :
    Calls Try.prog 99 #[PT X.m 0, .int .i64 (i : Int), .agg #[.bool o.cut, .int .i64 (o.sz : Int), .slice o.q.p o.q.n o.q.cp]] w fun e w' => e = .returned (.tuple #[]) ∧ ∃ v L, Dxo w0 (X.ws (X.fs.set i (f.more v o)) L) w' ∧ Chg X.bl w w' ∧ ∀ x ∈ L, x ∈ X.L ∨ x ∈ gbl o.q ∨ w.heap.size ≤ x := by
  obtain ⟨w1, hw1⟩ : ∃ w1, (w.alloc (.cells #[.bool o.cut, .int .i64 (o.sz : Int), .slice o.q.p o.q.n o.q.cp] 152)) = w1 := ⟨_, rfl⟩
  have hb1 : Below w.heap.size w w1 := by rw [← hw1]; exact (Below.refl _ _).alloc (Nat.le_refl _) _
  have hs1 : w.heap.size < w1.heap.size := by rw [← hw1]; simp
  obtain ⟨g, cp, hv, hcp, k0, k1, k2, k3⟩ := (h.below hb1).at hi
  have hil := (List.getElem?_eq_some_iff.1 hi).1
  have hfo := ((h.below hb1).ok f (List.mem_of_getElem? hi))
  have hgl : g < w1.heap.size := (h.below hb1).lt g (List.mem_cons_of_mem _ (List.mem_append_left _ (by rw [hv]; simp [vbl, Value.ownBlock])))
  have hml : X.m < w1.heap.size := (h.below hb1).lt _ (List.mem_cons_self ..)
  have HB : Hid (∀ u, Below w1.heap.size w1 u → (∀ j, u.cell? ⟨w.heap.size, j, none⟩ = (#[.bool o.cut, .int .i64 (o.sz : Int), .slice o.q.p o.q.n o.q.cp] : Array Value)[j]?) ∧ u.cell? ⟨X.m, 0, none⟩ = some (.slice (some ⟨g, 0, none⟩) X.fs.length cp) ∧ u.cell? ⟨g, i * 4 + 2, none⟩ = some f.ov) := fun u hu => by
    refine ⟨fun j => (hu.cell (p := ⟨w.heap.size, j, none⟩) hs1).trans (by rw [← hw1]; exact box_at ..), (hu.cell (p := ⟨X.m, 0, none⟩) hml).trans ?_, (hu.cell (p := ⟨g, i * 4 + 2, none⟩) hgl).trans k2⟩
    rw [← hv]
    exact (h.below hb1).c0
  have HX : Hid _ := h
  have H1 : Hid _ := hb1
  have HV : Hid _ := hv
  have HI : Hid _ := hi
  have HO : Hid _ := hfo
  have HQ : Hid _ := hoq
  have HL : Hid _ := hol
  clear h hb1 hs1 hv k0 k1 k2 k3 hfo hgl hml hoq hol hi
  go_enter Try.func99, Try.ntmps99
  go_wp2
  refine walk_mix (by kernel_rfl) 20 [PT X.m 0, PT X.m 0, PT X.m 0, .slice (some ⟨g, 0, none⟩) X.fs.length cp, .int .i64 (i : Int), undef, PT X.m 0, PT X.m 0, PT X.m 0, .slice (some ⟨g, 0, none⟩) X.fs.length cp, .int .i64 (i : Int), PT g (i * 4), PT g (i * 4 + 2), f.ov, undef, .agg #[.bool o.cut, .int .i64 (o.sz : Int), .slice o.q.p o.q.n o.q.cp], undef, undef, PT g (i * 4), PT g (i * 4 + 2)] ufe (fun d ε u => Ju w1 f.ops o d ε u ∧ (d 14 = true → d 5 = true) ∧ (d 17 = true → d 14 = true ∧ d 16 = true)) ?prez (fun ε => (⟨#[PT X.m 0, .int .i64 (i : Int), .agg #[.bool o.cut, .int .i64 (o.sz : Int), .slice o.q.p o.q.n o.q.cp], undef, undef, PT w.heap.size 0, PT X.m 0, PT X.m 0, PT X.m 0, .slice (some ⟨g, 0, none⟩) X.fs.length cp, .int .i64 (i : Int), ε 5, PT X.m 0, PT X.m 0, PT X.m 0, .slice (some ⟨g, 0, none⟩) X.fs.length cp, .int .i64 (i : Int), PT g (i * 4), PT g (i * 4 + 2), f.ov, ε 14, .agg #[.bool o.cut, .int .i64 (o.sz : Int), .slice o.q.p o.q.n o.q.cp], ε 16, ε 17, PT g (i * 4), PT g (i * 4 + 2)], []⟩ : Act)) ?hprez (fun ε => ?hFz) rfl (fun ε => by kernel_rfl) (fun ε => ?hWz) ?h0z ?hqz ?hez ?hendz
  case hprez => simp only [tk, tz]; rfl
  case hFz =>
    rw [show vsOf ufe [PT X.m 0, PT X.m 0, PT X.m 0, .slice (some ⟨g, 0, none⟩) X.fs.length cp, .int .i64 (i : Int), undef, PT X.m 0, PT X.m 0, PT X.m 0, .slice (some ⟨g, 0, none⟩) X.fs.length cp, .int .i64 (i : Int), PT g (i * 4), PT g (i * 4 + 2), f.ov, undef, .agg #[.bool o.cut, .int .i64 (o.sz : Int), .slice o.q.p o.q.n o.q.cp], undef, undef, PT g (i * 4), PT g (i * 4 + 2)] 20 ε = [PT X.m 0, PT X.m 0, PT X.m 0, .slice (some ⟨g, 0, none⟩) X.fs.length cp, .int .i64 (i : Int), ε 5, PT X.m 0, PT X.m 0, PT X.m 0, .slice (some ⟨g, 0, none⟩) X.fs.length cp, .int .i64 (i : Int), PT g (i * 4), PT g (i * 4 + 2), f.ov, ε 14, .agg #[.bool o.cut, .int .i64 (o.sz : Int), .slice o.q.p o.q.n o.q.cp], ε 16, ε 17, PT g (i * 4), PT g (i * 4 + 2)] from rfl]
    simp only [List.map_cons, List.map_nil, fill, Kind.val, Act.put, sa, sz, ss]
  case hWz => kernel_rfl
  case h0z => exact ⟨fun _ => undef, ⟨bdr w1, (fun e => by cases e), (fun e => by cases e), (fun e => by cases e), (fun e => by cases e)⟩, (fun e => by cases e), (fun e => by cases e)⟩
  case hqz =>
    refine ⟨?_, ?_, ?_, ?_, ?_, ?_, ?_, ?_, ?_, ?_, ?_, ?_, ?_, ?_, ?_, ?_, ?_, ?_, ?_, ?_, trivial⟩
    · exact fun _ d ε u hJ => rfl
    · exact fun _ d ε u hJ => by clear hJ; go_simp
    · exact fun _ d ε u hJ => by clear hJ; go_simp
    · exact fun _ d ε u hJ => by (have hc := (HB.out u hJ.1.b).2.1); clear hJ; go_simp
    · exact fun _ d ε u hJ => rfl
    · exact fun h => absurd h (by decide)
    · exact fun _ d ε u hJ => rfl
    · exact fun _ d ε u hJ => by clear hJ; go_simp
    · exact fun _ d ε u hJ => by clear hJ; go_simp
    · exact fun _ d ε u hJ => by (have hc := (HB.out u hJ.1.b).2.1); clear hJ; go_simp
    · exact fun _ d ε u hJ => rfl
    · exact fun _ d ε u hJ => by clear hJ; go_simp
    · exact fun _ d ε u hJ => by clear hJ; go_simp
    · exact fun _ d ε u hJ => by (have hc := (HB.out u hJ.1.b).2.2); clear hJ; go_simp
    · exact fun h => absurd h (by decide)
    · exact fun _ d ε u hJ => by (have hc := (HB.out u hJ.1.b).1); (have hc0 : u.cell? ⟨w.heap.size, 0, none⟩ = some (.bool o.cut) := hc 0); (have hc1 : u.cell? ⟨w.heap.size, 1, none⟩ = some (.int .i64 (o.sz : Int)) := hc 1); (have hc2 : u.cell? ⟨w.heap.size, 2, none⟩ = some (.slice o.q.p o.q.n o.q.cp) := hc 2); clear hJ hc; go_simp
    · exact fun h => absurd h (by decide)
    · exact fun h => absurd h (by decide)
    · exact fun _ d ε u hJ => by clear hJ; go_simp
    · exact fun _ d ε u hJ => by clear hJ; go_simp
  case hez =>
    rintro k ok hok hk d ε u hd hdep ⟨hJ, hc1, hc2⟩
    have hk4 : k = 5 ∨ k = 14 ∨ k = 16 ∨ k = 17 := by simpa [ufe, or_assoc] using hk
    rcases hk4 with rfl | rfl | rfl | rfl
    · injection hok with hok
      subst hok
      have h14 : d 14 = false := by cases e : d 14 with | false => rfl | true => rw [hc1 e] at hd; cases hd
      have h17 : d 17 = false := by cases e : d 17 with | false => rfl | true => rw [(hc2 e).1] at h14; cases h14
      exact .inl ⟨_, _, ex_bsR0 rfl, hJ.s5 h14 h17, fun _ => upd_same _ _ _, fun e => by rw [upd_ne _ _ (by decide), h17] at e; cases e⟩
    · injection hok with hok
      subst hok
      have h5 := hdep 5 rfl (by kernel_rfl)
      have h17 : d 17 = false := by cases e : d 17 with | false => rfl | true => rw [(hc2 e).1] at hd; cases hd
      obtain ⟨v, u', hr, hJ'⟩ := hJ.s14 HO.out h5 hd h17 hon
      exact .inl ⟨v, u', ex_apR rfl rfl rfl hr, hJ', fun _ => by rw [upd_ne _ _ (by decide)]; exact h5, fun e => by rw [upd_ne _ _ (by decide), h17] at e; cases e⟩
    · injection hok with hok
      subst hok
      have h17 : d 17 = false := by cases e : d 17 with | false => rfl | true => rw [(hc2 e).2] at hd; cases hd
      exact .inl ⟨_, _, ex_bsR1 rfl rfl, hJ.s16 h17, fun e => by rw [upd_ne _ _ (by decide)] at e ⊢; exact hc1 e, fun e => by rw [upd_ne _ _ (by decide), h17] at e; cases e⟩
    · injection hok with hok
      subst hok
      have h14 := hdep 14 rfl (by kernel_rfl)
      have h16 := hdep 16 rfl (by kernel_rfl)
      obtain ⟨v, u', hr, hJ'⟩ := hJ.s17 h14 h16 hd hon
      exact .inl ⟨v, u', ex_apR rfl rfl rfl hr, hJ', fun e => by rw [upd_ne _ _ (by decide)] at e ⊢; exact hc1 e, fun _ => by rw [upd_ne _ _ (by decide), upd_ne _ _ (by decide)]; exact ⟨h14, h16⟩⟩
  case hendz =>
    rintro d ε u hall ⟨hJ, -, -⟩
    have hk := hJ.k (hall 17 (by decide) rfl)
    have hbu : Below w.heap.size w u := H1.out.trans (hJ.b.mono H1.out.size)
    have hX := HX.out.below hbu
    have hcu := (HB.out u hJ.b).2.2
    have hrow := hX.row
    rw [HV.out] at hrow
    have hfz : u.frozen? ⟨g, i * 4 + 2, none⟩ = false := hrow.frozenAt _
    have hfu := HO.out.below hJ.b
    have hvl := own_lo2 hk
    have hcell := hX.cell (j := 2) HI.out HV.out (ε 17) (f' := f.more (ε 17) o) (by decide) rfl (vbl (ε 17) ++ (gbl o.q ++ X.L)) ⟨hfu.q.mono fun x hx => List.mem_append_right _ (List.mem_append_right _ hx), own_base hk (Nat.zero_le _), fun x hx => List.mem_append_left _ hx, fun p hp => by
      rcases List.mem_append.1 hp with e | e
      · exact (hfu.op p e).mono fun x hx => List.mem_append_right _ (List.mem_append_right _ hx)
      · rw [List.mem_singleton.1 e]
        exact ⟨Pq.below HQ.out hbu, fun x hx => List.mem_append_right _ (List.mem_append_left _ hx)⟩⟩ (fun x hx => List.mem_append_right _ (List.mem_append_right _ hx)) (fun x hx => by
      rcases List.mem_append.1 hx with e | e
      · have h1 := hvl x e
        have h2 := H1.out.size
        exact .inr ⟨by omega, own_lt hk x e, fun e2 => by have := HX.out.lt x e2; omega⟩
      · rcases List.mem_append.1 e with e | e
        · refine .inr ⟨(HL.out x e).1, ?_, (HL.out x e).2⟩
          have h3 := (Pq.below HQ.out hbu).2.2
          unfold gbl at e
          split at e
          · cases e
          · rw [List.mem_singleton.1 e]; exact h3.lt (by omega)
        · exact .inl e)
    have hC : Hid _ := hcell
    have hLm : Hid (∀ x ∈ vbl (ε 17) ++ (gbl o.q ++ X.L), x ∈ X.L ∨ x ∈ gbl o.q ∨ w.heap.size ≤ x) := fun x hx => by
      rcases List.mem_append.1 hx with e | e
      · have h1 := hvl x e
        have h2 := H1.out.size
        exact .inr (.inr (by omega))
      · rcases List.mem_append.1 e with e | e
        · exact .inr (.inl e)
        · exact .inl e
    have hCh : Hid (Chg X.bl w (u.setCell ⟨g, i * 4 + 2, none⟩ (ε 17))) := (Chg.of hbu).trans (hcell.2.mono (M := X.bl) fun x hx => .inl (by
      rw [List.mem_singleton.1 hx]
      exact List.mem_cons_of_mem _ (List.mem_append_left _ (by rw [HV.out]; simp [vbl, Value.ownBlock])))) (fun x hx => .inl hx)
    obtain ⟨pv, cv, hv2, _⟩ := own_slice hk
    clear hcell hvl hfu hrow hX hk hJ hbu
    refine rest_at (l := [20]) rfl ?_
    refine rest_store (w' := u.setCell ⟨g, i * 4 + 2, none⟩ (ε 17)) rfl rfl rfl ?hst (rest_nil ?_)
    case hst =>
      rw [hv2]
      go_simp
    go_end0
    exact ⟨rfl, _, _, hC.out.1, hCh.out, hLm.out⟩
end Wi
end Rg
end Go.Proofs.Ytidicdlfjdlpnaa
end
section
namespace Go.Proofs.Ytidicdlfjdlpnaa
open Go.RowKit
namespace Rg
namespace Wi
set_option maxRecDepth 100000
set_option maxHeartbeats 2000000 in
theorem rname_any (s : ByteArray) (hs : s.size ≤ 281474976710656) (w : World) :
    Calls Try.prog 95 #[.string s] w fun e w' => e = .returned (.bool (nmd s)) ∧ Below w.heap.size w w' := by
  go_enter Try.func95, Try.ntmps95
  go_wp2
  go_loopw [3] (fun v wr => ∃ i : Nat, v = .int .i64 (i : Int) ∧ i ≤ s.size ∧ (∀ j, j < i → ltr (sby s j) = true) ∧ Below w.heap.size w wr)
    (fun v _ => s.size - (RowKit.intOf v).toNat)
  case atStart => exact ⟨0, rfl, Nat.zero_le _, fun j hj => absurd hj (Nat.not_lt_zero _), Below.refl _ _⟩
  case round =>
    obtain ⟨i, rfl, hi, hl, hb⟩ := hrel
    have HL : Hid _ := hl
    clear hl
    by_cases hlt : i < s.size
    · have hz : sby s i = s[i].toNat := dif_pos hlt
      have hgo : ltr s[i].toNat = true → ∀ j, j < i + 1 → ltr (sby s j) = true := fun h j hj => by
        by_cases e : j = i
        · subst e; rw [hz]; exact h
        · exact HL.out j (by omega)
      have hst : ltr s[i].toNat = false → nmd s = false := fun h => decide_eq_false (fun hh => by have := hh.2.2 i hlt; rw [hz, h] at this; cases this)
      have HG : Hid _ := hgo
      have HS : Hid _ := hst
      clear hgo hst hz
      obtain ⟨c, hc⟩ : ∃ c, c = s[i].toNat := ⟨_, rfl⟩
      by_cases c1 : 97 ≤ c ∧ c ≤ 122
      · rw [hc] at c1
        obtain ⟨a1, a2⟩ := c1
        have b1 : ¬((s[i].toNat : Int) < 97) := by omega
        have b2 : ¬(122 < (s[i].toNat : Int)) := by omega
        go_wp2
        all_goals first
          | exact ⟨⟨i + 1, by simp, by omega, HG.out (decide_eq_true (by omega)), hb⟩, by simp [RowKit.intOf]; omega⟩
          | (exfalso; omega)
      by_cases c2 : 48 ≤ c ∧ c ≤ 57
      · rw [hc] at c2
        obtain ⟨a1, a2⟩ := c2
        have b0 : (s[i].toNat : Int) < 97 := by omega
        have b1 : ¬((s[i].toNat : Int) < 48) := by omega
        have b2 : ¬(57 < (s[i].toNat : Int)) := by omega
        go_wp2
        all_goals first
          | exact ⟨⟨i + 1, by simp, by omega, HG.out (decide_eq_true (by omega)), hb⟩, by simp [RowKit.intOf]; omega⟩
          | (exfalso; omega)
      by_cases c3 : c = 46
      · rw [hc] at c3
        have b0 : (s[i].toNat : Int) < 97 := by omega
        have b1 : (s[i].toNat : Int) < 48 := by omega
        have b2 : (s[i].toNat : Int) = 46 := by omega
        go_wp2
        all_goals first
          | exact ⟨⟨i + 1, by simp, by omega, HG.out (decide_eq_true (by omega)), hb⟩, by simp [RowKit.intOf]; omega⟩
          | (exfalso; omega)
      by_cases c4 : c = 45
      · rw [hc] at c4
        have b0 : (s[i].toNat : Int) < 97 := by omega
        have b1 : (s[i].toNat : Int) < 48 := by omega
        have b2 : (s[i].toNat : Int) = 45 := by omega
        go_wp2
        all_goals first
          | exact ⟨⟨i + 1, by simp, by omega, HG.out (decide_eq_true (by omega)), hb⟩, by simp [RowKit.intOf]; omega⟩
          | (exfalso; omega)
      · rw [hc] at c1 c2 c3 c4
        have b3 : ¬(s[i].toNat : Int) = 46 := by omega
        have b4 : ¬(s[i].toNat : Int) = 45 := by omega
        have hf : nmd s = false := HS.out (decide_eq_false (by omega))
        have b1 : (s[i].toNat : Int) < 97 ∨ 122 < (s[i].toNat : Int) := by omega
        have b2 : (s[i].toNat : Int) < 48 ∨ 57 < (s[i].toNat : Int) := by omega
        go_wp2
        all_goals first
          | (go_ret; exact ⟨by rw [hf]; rfl, hb⟩)
          | (go_ret; exact ⟨rfl, hb⟩)
          | (exfalso; omega)
          | (exfalso; rename_i h; simp only [bne_eq_false_iff_eq] at h; omega)
          | (exfalso; rename_i h h2; simp only [bne_iff_ne] at h; omega)
    · obtain rfl : i = s.size := by omega
      by_cases h1 : 1 ≤ s.size
      · by_cases h2 : s.size ≤ 64
        · go_wp2
          go_ret
          exact ⟨by rw [show nmd s = true from decide_eq_true ⟨h1, h2, HL.out⟩]; simp; omega, hb⟩
        · go_wp2
          go_ret
          exact ⟨by rw [show nmd s = false from decide_eq_false (fun h => h2 h.2.1)]; simp; omega, hb⟩
      · go_wp2
        go_ret
        exact ⟨by rw [show nmd s = false from decide_eq_false (fun h => h1 h.1)]; rfl, hb⟩
end Wi
end Rg
end Go.Proofs.Ytidicdlfjdlpnaa
end
section
namespace Go.Proofs.Ytidicdlfjdlpnaa
open Go.RowKit
namespace Rg
namespace Wi
set_option maxRecDepth 100000
/-- What holds of the document's disk behind i calls. -/
structure Rdk.Ok (R : Rdk) (i : Nat) : Prop where
  k : R.k ≤ i
  n : R.fs.length ≤ 64
  st : Srt Rf.nm R.fs
  ft : ∀ f ∈ R.fs, f.fit
  ol : ∀ f ∈ R.fs, f.ops.length ≤ i
  ob : ∀ f ∈ R.fs, ∀ o ∈ f.ops, o.b.length ≤ 1048576
section
variable {R : Rdk} {i : Nat} (h : R.Ok i)
include h
theorem Rdk.Ok.tick : R.tick.Ok (i + 1) := ⟨by have := h.k; show R.k + 1 ≤ i + 1; omega, h.n, h.st, h.ft, fun f hf => by have := h.ol f hf; omega, h.ob⟩
theorem Rdk.Ok.put {s : ByteArray} {f : Rf} (hn : f.nm = s) (hf : f.fit) (hl : f.ops.length ≤ i + 1) (hb : ∀ o ∈ f.ops, o.b.length ≤ 1048576) : (⟨rpu R.fs s f, R.k + 1, R.rf⟩ : Rdk).Ok (i + 1) := by
  have hm : ∀ g ∈ rpu R.fs s f, g = f ∨ g ∈ R.fs := fun g hg => by
    obtain ⟨a, ha, rfl⟩ := List.mem_map.1 hg
    split
    · exact .inl rfl
    · exact .inr ha
  refine ⟨by have := h.k; show R.k + 1 ≤ i + 1; omega, by show (rpu R.fs s f).length ≤ 64; unfold rpu; rw [List.length_map]; exact h.n, srt_map Rf.nm h.st _ fun a _ => by (show (if a.nm = s then f else a).nm = a.nm); split <;> simp_all, fun g hg => ?_, fun g hg => ?_, fun g hg => ?_⟩
  · rcases hm g hg with e | e
    · subst e; exact hf
    · exact h.ft g e
  · rcases hm g hg with e | e
    · subst e; exact hl
    · have := h.ol g e; omega
  · rcases hm g hg with e | e
    · subst e; exact hb
    · exact h.ob g e
theorem Rdk.Ok.ins {f : Rf} (hno : ∀ g ∈ R.fs, g.nm ≠ f.nm) (hn : R.fs.length < 64) (hf : f.fit) (hl : f.ops.length ≤ i + 1) (hb : ∀ o ∈ f.ops, o.b.length ≤ 1048576) : (⟨lay Rf.nm f R.fs, R.k + 1, R.rf⟩ : Rdk).Ok (i + 1) := by
  have hp := lay_perm Rf.nm f R.fs
  have hm : ∀ g ∈ lay Rf.nm f R.fs, g = f ∨ g ∈ R.fs := fun g hg => List.mem_cons.1 (hp.mem_iff.1 hg)
  refine ⟨by have := h.k; show R.k + 1 ≤ i + 1; omega, by show (lay Rf.nm f R.fs).length ≤ 64; rw [hp.length_eq, List.length_cons]; omega, lay_srt Rf.nm f _ h.st hno, fun g hg => ?_, fun g hg => ?_, fun g hg => ?_⟩
  · rcases hm g hg with e | e
    · subst e; exact hf
    · exact h.ft g e
  · rcases hm g hg with e | e
    · subst e; exact hl
    · have := h.ol g e; omega
  · rcases hm g hg with e | e
    · subst e; exact hb
    · exact h.ob g e
theorem Rdk.Ok.cnl {f : Rf} (hf : f ∈ R.fs) : f.cn.length ≤ 1048576 := by
  have := h.ft f hf f.ops.length (Nat.le_refl _)
  rwa [List.take_of_length_le (Nat.le_refl _)] at this
theorem Rdk.Ok.app (s : ByteArray) (b : List Nat) : (R.app s b).2.Ok (i + 1) := by
  unfold Rdk.app
  split
  · exact h.tick
  · split
    · exact h.tick
    · split
      · rename_i f e
        have hm := Rdk.mem e
        split
        · exact h.tick
        · rename_i hc
          refine h.put (f := f.more ⟨false, 0, b⟩) hm.2 (fit_more (h.ft f hm.1) _ (by simp [rdn]; omega)) (by have := h.ol f hm.1; show (f.ops ++ [_]).length ≤ _; simp; omega) fun o ho => ?_
          rcases List.mem_append.1 (show o ∈ f.ops ++ [_] from ho) with e | e
          · exact h.ob f hm.1 o e
          · rw [List.mem_singleton.1 e]
            show b.length ≤ _
            omega
      · rename_i e
        split
        · exact h.tick
        · split
          · exact h.tick
          · refine h.ins (f := ⟨s, [], [⟨false, 0, b⟩], false⟩) (Rdk.not e) (by omega) (fun j hj => ?_) (by show 1 ≤ i + 1; omega) fun o ho => by (rw [List.mem_singleton.1 ho]; (show b.length ≤ _); omega)
            have hj : j ≤ 1 := hj
            obtain rfl | rfl : j = 0 ∨ j = 1 := by omega
            · exact Nat.zero_le _
            · show (([] : List Nat) ++ b).length ≤ _
              simp; omega
theorem Rdk.Ok.cut (s : ByteArray) (c : Int) : (R.cut s c).2.Ok (i + 1) := by
  unfold Rdk.cut
  split
  · exact h.tick
  · split
    · exact h.tick
    · rename_i f e
      have hm := Rdk.mem e
      split
      · rename_i hc
        have hl := h.cnl hm.1
        refine h.put (f := f.more ⟨true, c.toNat, []⟩) hm.2 (fit_more (h.ft f hm.1) _ (by simp [rdn]; omega)) (by have := h.ol f hm.1; show (f.ops ++ [_]).length ≤ _; simp; omega) fun o ho => ?_
        rcases List.mem_append.1 (show o ∈ f.ops ++ [_] from ho) with e | e
        · exact h.ob f hm.1 o e
        · rw [List.mem_singleton.1 e]
          exact Nat.zero_le _
      · exact h.tick
theorem Rdk.Ok.syn (s : ByteArray) : (R.syn s).2.Ok (i + 1) := by
  unfold Rdk.syn
  split
  · exact h.tick
  · split
    · exact h.tick
    · rename_i f e
      have hm := Rdk.mem e
      exact h.put (f := ⟨f.nm, f.cn, [], true⟩) hm.2 (fun j _ => by simp [rct]; exact h.cnl hm.1) (Nat.zero_le _) fun o ho => by cases ho
theorem Rdk.Ok.sub {fs : List Rf} (hs : List.Sublist fs R.fs) : (⟨fs, R.k + 1, R.rf⟩ : Rdk).Ok (i + 1) :=
  ⟨by have := h.k; show R.k + 1 ≤ i + 1; omega, Nat.le_trans hs.length_le h.n, List.Pairwise.sublist hs h.st, fun f hf => h.ft f (hs.subset hf), fun f hf => by have := h.ol f (hs.subset hf); omega, fun f hf => h.ob f (hs.subset hf)⟩
theorem Rdk.Ok.rem (s : ByteArray) : (R.rem s).2.Ok (i + 1) := by
  unfold Rdk.rem
  split
  · exact h.tick
  · split
    · exact h.tick
    · exact h.sub List.filter_sublist
theorem Rdk.Ok.ren (s t : ByteArray) : (R.ren s t).2.Ok (i + 1) := by
  unfold Rdk.ren
  split
  · exact h.tick
  · split
    · exact h.tick
    · split
      · exact h.tick
      · rename_i f e
        have hm := Rdk.mem e
        split
        · exact h.tick
        · split
          · exact h.tick
          · rename_i hne
            have h1 : List.Sublist (rgo (rgo R.fs s) t) R.fs := (List.filter_sublist).trans List.filter_sublist
            have h0 : (⟨rgo (rgo R.fs s) t, R.k, R.rf⟩ : Rdk).Ok i := ⟨h.k, Nat.le_trans h1.length_le h.n, List.Pairwise.sublist h1 h.st, fun f hf => h.ft f (h1.subset hf), fun f hf => h.ol f (h1.subset hf), fun f hf => h.ob f (h1.subset hf)⟩
            refine Rdk.Ok.ins h0 (f := ⟨t, f.sf, f.ops, true⟩) (fun g hg => by have := (List.mem_filter.1 hg).2; simpa using this) ?_ (h.ft f hm.1) (by have := h.ol f hm.1; show f.ops.length ≤ _; omega) (h.ob f hm.1)
            have h2 : (rgo R.fs s).length < R.fs.length := List.length_filter_lt_length_iff_exists.2 ⟨f, hm.1, by simp [hm.2]⟩
            have h3 : (rgo (rgo R.fs s) t).length ≤ (rgo R.fs s).length := List.length_filter_le _ _
            have h4 := h.n
            show (rgo (rgo R.fs s) t).length < 64
            omega
end
/-- A file's place. -/
theorem find_at {s : ByteArray} {fr : Rf} : ∀ {l : List Mf}, (l.map Mf.rf).find? (fun f => decide (f.nm = s)) = some fr → ∃ (i : Nat) (f : Mf), l[i]? = some f ∧ f.rf = fr ∧ f.nm = s ∧ ∀ j, j < i → ∀ g : Mf, l[j]? = some g → g.nm ≠ s
  | [], h => by simp at h
  | a :: r, h => by
    rw [List.map_cons, List.find?_cons] at h
    by_cases c : a.nm = s
    · rw [show decide (a.rf.nm = s) = true from decide_eq_true c] at h
      exact ⟨0, a, rfl, Option.some.inj h, c, fun j hj => absurd hj (Nat.not_lt_zero _)⟩
    · rw [show decide (a.rf.nm = s) = false from decide_eq_false c] at h
      obtain ⟨i, f, h1, h2, h3, h4⟩ := find_at h
      refine ⟨i + 1, f, by rw [List.getElem?_cons_succ]; exact h1, h2, h3, fun j hj g hg => ?_⟩
      cases j with
      | zero => simp at hg; subst hg; exact c
      | succ j => exact h4 j (by omega) g (by simpa using hg)
theorem find_no {s : ByteArray} {l : List Mf} (h : (l.map Mf.rf).find? (fun f => decide (f.nm = s)) = none) : ∀ f ∈ l, f.nm ≠ s := fun f hf => by
  have := List.find?_eq_none.1 h f.rf (List.mem_map_of_mem hf)
  exact fun e => this (decide_eq_true e)
theorem set_rpu {s : ByteArray} {f' : Mf} : ∀ {l : List Mf} {i : Nat} {f : Mf}, Srt Rf.nm (l.map Mf.rf) → l[i]? = some f → f.nm = s → (l.set i f').map Mf.rf = rpu (l.map Mf.rf) s f'.rf
  | [], i, f, _, h, _ => by simp at h
  | a :: r, 0, f, hs, h, hn => by
    simp at h
    subst h
    have h' := List.pairwise_cons.1 hs
    unfold rpu
    rw [List.set_cons_zero, List.map_cons, List.map_cons, List.map_cons, if_pos (show a.rf.nm = s from hn)]
    congr 1
    refine (List.map_congr_left fun x hx => ?_).symm.trans (List.map_map ..).symm
    show (if (Mf.rf x).nm = s then f'.rf else Mf.rf x) = Mf.rf x
    have hne := blt_ne (h'.1 x.rf (List.mem_map_of_mem hx))
    rw [if_neg (fun e => hne (by show a.nm = x.nm; rw [hn]; exact e.symm))]
  | a :: r, i + 1, f, hs, h, hn => by
    have h : r[i]? = some f := by simpa using h
    have h' := List.pairwise_cons.1 hs
    have hne := blt_ne (h'.1 f.rf (List.mem_map_of_mem (List.mem_of_getElem? h)))
    unfold rpu
    rw [List.set_cons_succ, List.map_cons, List.map_cons, List.map_cons, if_neg (fun e => hne (by show a.nm = f.nm; rw [hn]; exact e))]
    congr 1
    exact set_rpu h'.2 h hn
theorem rpu_ins {s : ByteArray} {f f' : Rf} (hf : f.nm = s) (hf' : f'.nm = s) : ∀ {l : List Rf}, (∀ x ∈ l, x.nm ≠ s) → rpu (ins Rf.nm f l) s f' = ins Rf.nm f' l
  | [], _ => by unfold rpu ins; simp [hf]
  | x :: r, h => by
    have hx := h x (List.mem_cons_self ..)
    have hr := fun y hy => h y (List.mem_cons_of_mem _ hy)
    have e1 : rpu (x :: r) s f' = x :: r := by
      unfold rpu
      refine (List.map_congr_left (g := id) fun y hy => ?_).trans (List.map_id _)
      rw [if_neg (h y hy)]
      rfl
    have e2 := rpu_ins hf hf' hr
    unfold ins
    rw [hf, hf']
    by_cases c : blt s x.nm = true
    · rw [if_pos c, if_pos c]
      show (if f.nm = s then f' else f) :: rpu (x :: r) s f' = _
      rw [if_pos hf, e1]
    · rw [if_neg c, if_neg c]
      show (if x.nm = s then f' else x) :: rpu (ins Rf.nm f r) s f' = _
      rw [if_neg hx, e2]
/-- The empty part. -/
def q0 : Pt8 := ⟨0, 0, 0, 0, none, fun _ => 0⟩
theorem q0_pq (u : World) : Pq q0 u := ⟨⟨⟨fun h => absurd h (Nat.not_lt_zero _), fun _ => ⟨_, _, rfl⟩⟩, Nat.le_refl _⟩, fun _ => rfl, ⟨fun h => absurd h (Nat.not_lt_zero _), fun _j hj => absurd hj (Nat.not_lt_zero _)⟩⟩
/-- What a call makes of the document's disk, as plain lists. -/
def Dst (w0 w : World) (X : Dx) (R' : Rdk) (w' : World) : Prop := ∃ X', X'.rd = R' ∧ X'.m = X.m ∧ X'.n = X.n ∧ Dxw w0 w X X' w'
theorem Dst.below {w0 w w' u : World} {X : Dx} {R' : Rdk} (h : Dst w0 w X R' w') (hb : Below w'.heap.size w' u) : Dst w0 w X R' u := by
  obtain ⟨X', h1, h2, h3, h4⟩ := h
  exact ⟨X', h1, h2, h3, h4.below hb⟩
theorem Dst.tick {w0 w w' : World} {X : Dx} (h : Dxw w0 w X X.up w') : Dst w0 w X X.rd.tick w' := ⟨X.up, rfl, rfl, rfl, h⟩
/-- Behind an operation put behind the others. -/
theorem Dst.more {w0 w u u' : World} {X X1 : Dx} {i : Nat} {f : Mf} {o : Mo} {v : Value} {L : List Nat} (h : Dxw w0 w X X1 u) (hm : X1.m = X.m) (hn : X1.n = X.n) (hi : X1.fs[i]? = some f) (hs : Srt Rf.nm X1.rd.fs) (h1 : Dxo w0 (X1.ws (X1.fs.set i (f.more v o)) L) u') (h2 : Chg X1.bl u u') (h3 : ∀ x ∈ L, x ∈ X1.L ∨ x ∈ gbl o.q ∨ u.heap.size ≤ x) (h4 : ∀ x ∈ gbl o.q, w.heap.size ≤ x) :
    Dst w0 w X ⟨rpu X1.rd.fs f.nm (f.rf.more o.ro), X1.rd.k, X1.rd.rf⟩ u' := by
  refine ⟨X1.ws (X1.fs.set i (f.more v o)) L, ?_, hm, hn, h1, h.2.1.trans h2 h.2.2, fun x hx => ?_⟩
  · show (⟨(X1.fs.set i (f.more v o)).map Mf.rf, X1.k, rff X1.F X1.n⟩ : Rdk) = _
    rw [set_rpu hs hi rfl, Mf.more_rf]
    rfl
  · have hsz := h.2.1.size
    have hx : x ∈ X1.m :: (vbl X1.v ++ L) := hx
    rcases List.mem_cons.1 hx with e | e
    · exact h.2.2 x (by rw [e]; exact List.mem_cons_self ..)
    · rcases List.mem_append.1 e with e | e
      · exact h.2.2 x (List.mem_cons_of_mem _ (List.mem_append_left _ e))
      · rcases h3 x e with e | e | e
        · exact h.2.2 x (List.mem_cons_of_mem _ (List.mem_append_right _ e))
        · exact .inr (h4 x e)
        · exact .inr (Nat.le_trans hsz e)
end Wi
end Rg
end Go.Proofs.Ytidicdlfjdlpnaa
end
section
namespace Go.Proofs.Ytidicdlfjdlpnaa
open Go.RowKit
namespace Rg
namespace Wi
set_option maxRecDepth 100000
theorem Pq.lt {q : Pt8} {u : World} (h : Pq q u) : ∀ x ∈ gbl q, x < u.heap.size := fun x hx => by
  unfold gbl at hx
  split at hx
  · cases hx
  · rw [List.mem_singleton.1 hx]; exact h.2.2.lt (by omega)
theorem Pq.chg {q : Pt8} {M : List Nat} {u u' : World} (h : Pq q u) (hc : Chg M u u') (hd : ∀ x ∈ gbl q, x ∉ M) : Pq q u' :=
  h.kx (M := gbl q) ⟨hc.size, fun x hx => hc.block x (Pq.lt h x hx) (hd x hx)⟩ fun _ hx => hx
set_option maxHeartbeats 4000000 in
/-- Append refused, or of a bad name. -/
theorem rapp_bad {w0 : World} {X : Dx} (s : ByteArray) (hs : s.size ≤ 281474976710656) (q : Pt8) (hk : X.k < 1000000000) (hn : X.n ≤ 100000) (hbad : X.rd.no = true ∨ nmd s = false) (w : World) (h : Dxo w0 X w) :
    Calls Try.prog 52 #[PT X.m 0, .string s, .slice q.p q.n q.cp] w fun e w' => e = .returned (.int .i64 (X.rd.app s (bs q.n q.f)).1) ∧ Dst w0 w X (X.rd.app s (bs q.n q.f)).2 w' := by
  have HO : Hid _ := rop_any hk hn w h
  cases e1 : X.rd.no with
  | true =>
    have ea : X.rd.app s (bs q.n q.f) = (13, X.rd.tick) := by unfold Rdk.app; rw [if_pos e1]
    rw [ea]
    clear h hbad
    have HE : Hid _ := e1
    clear e1 ea
    go_enter Try.func52, Try.ntmps52
    go_wp2_with (first
      | (go_at_call 94; refine Calls.mono HO.out ?_; rintro e w2 ⟨rfl, h2⟩; rw [HE.out]; have H2 : Hid _ := h2; clear h2)
      | fail)
    go_ret
    exact ⟨rfl, Dst.tick H2.out⟩
  | false =>
    have e2 : nmd s = false := by
      rcases hbad with h | h
      · rw [e1] at h; cases h
      · exact h
    have ea : X.rd.app s (bs q.n q.f) = (2, X.rd.tick) := by unfold Rdk.app; rw [if_neg (by rw [e1]; decide), if_pos e2]
    rw [ea]
    clear h hbad
    have HE : Hid _ := e1
    have HN : Hid _ := e2
    clear e1 e2 ea
    go_enter Try.func52, Try.ntmps52
    go_wp2_with (first
      | (go_at_call 94; refine Calls.mono HO.out ?_; rintro e w2 ⟨rfl, h2⟩; rw [HE.out]; have H2 : Hid _ := h2; clear h2)
      | (go_at_call 95; refine Calls.mono (rname_any s hs _) ?_; rintro e w3 ⟨rfl, h3⟩; rw [HN.out]; have H3 : Hid _ := h3; clear h3)
      | fail)
    go_ret
    exact ⟨rfl, (Dst.tick H2.out).below H3.out⟩
set_option maxHeartbeats 4000000 in
/-- Append to a file that is there. -/
theorem rapp_hit {w0 : World} {X : Dx} {i0 : Nat} (s : ByteArray) (hs : s.size ≤ 281474976710656) (q : Pt8) (hqn : q.n ≤ 1048576000) (hi0 : i0 ≤ 800000) (hR : X.rd.Ok i0) (hn : X.n ≤ 100000) (h1 : X.rd.no = false) (h2 : nmd s = true) (fr : Rf) (hlk : X.rd.lk s = some fr) (w : World) (h : Dxo w0 X w) (hw0 : w0.heap.size ≤ w.heap.size) (hq : Pq q w) (hqw : ∀ x ∈ gbl q, x < w0.heap.size) :
    Calls Try.prog 52 #[PT X.m 0, .string s, .slice q.p q.n q.cp] w fun e w' => e = .returned (.int .i64 (X.rd.app s (bs q.n q.f)).1) ∧ Dst w0 w X (X.rd.app s (bs q.n q.f)).2 w' := by
  have hk : X.k < 1000000000 := by have := hR.k; have : X.k ≤ i0 := this; omega
  have HO : Hid _ := rop_any hk hn w h
  obtain ⟨i, f, hi, rfl, rfl, hmin⟩ := find_at hlk
  have hil := (List.getElem?_eq_some_iff.1 hi).1
  have hfr : f.rf ∈ X.rd.fs := List.mem_map_of_mem (List.mem_of_getElem? hi)
  have hn64 : X.fs.length ≤ 64 := by have := hR.n; simpa [Dx.rd] using this
  have hcl : f.rf.cn.length ≤ 1048576 := hR.cnl hfr
  have hfit := hR.ft _ hfr
  have hol : f.ops.length ≤ i0 := by have := hR.ol _ hfr; simpa [Mf.rf] using this
  have hoq : ∀ o ∈ f.ops, o.q.n ≤ 1048576 := fun o ho => by
    have := hR.ob _ hfr o.ro (List.mem_map_of_mem ho)
    simpa [Mo.ro, bs_len] using this
  have HE : Hid _ := h1
  have HN : Hid _ := h2
  have HI : Hid _ := hi
  have HM : Hid _ := hmin
  have HF : Hid _ := hfit
  have HQ : Hid _ := hoq
  have HP : Hid _ := hq
  have HW : Hid (∀ x ∈ gbl q, x ∉ X.bl) := fun x hx e => absurd (hqw x hx) (Nat.not_lt.2 (h.lo x e))
  have HWL : Hid _ := hqw
  have H0 : Hid _ := hw0
  have HR : Hid _ := hR
  by_cases c : 1048576 < f.rf.cn.length + q.n
  · have ea : X.rd.app f.nm (bs q.n q.f) = (3, X.rd.tick) := by unfold Rdk.app; rw [if_neg (by rw [h1]; decide), if_neg (by rw [h2]; decide), hlk]; simp only [bs_len]; rw [if_pos c]
    rw [ea]
    obtain ⟨C, hC⟩ : ∃ C, f.rf.cn.length = C := ⟨_, rfl⟩
    have HC : Hid _ := hC
    rw [hC] at c hcl
    clear h hlk h1 h2 hi hmin hfr hfit hoq ea hq hw0 hR hC hqw
    go_enter Try.func52, Try.ntmps52
    go_wp2_with (first
      | (go_at_call 94; refine Calls.mono HO.out ?_; rintro e w2 ⟨rfl, h2⟩; rw [HE.out]; have H2 : Hid _ := h2; have X2 : Hid _ := h2.1; clear h2)
      | (go_at_call 95; refine Calls.mono (rname_any _ hs _) ?_; rintro e w3 ⟨rfl, h3⟩; rw [HN.out]; have H3 : Hid _ := h3; have X3 : Hid _ := X2.out.below h3; clear h3)
      | (go_at_call 96; refine Calls.mono (rat_hit (X := X.up) f.nm i f HI.out rfl HM.out (show X.fs.length ≤ 100000 by omega) _ X3.out) ?_; rintro e w4 ⟨rfl, h4⟩; have H4 : Hid _ := h4; obtain ⟨g, cp, hv, hcp, k0, k1, k2, k3⟩ := (X3.out.below h4).at (i := i) (f := f) HI.out; have c0 : w4.cell? ⟨X.m, 0, none⟩ = some X.v := (X3.out.below h4).c0; have hv : X.v = .slice (some ⟨g, 0, none⟩) X.fs.length cp := hv; have fok : Hid _ := (X3.out.below h4).ok f (List.mem_of_getElem? HI.out); rw [hv] at c0; clear h4 hv)
      | (go_at_call 97; refine Calls.mono (rcontent_any f X.L HF.out HQ.out (by omega) _ fok.out) ?_; rintro e w5 ⟨v5, n5, P5, rfl, h5, h6⟩; have H5 : Hid _ := h5; obtain ⟨p5, c5, rfl, hle5⟩ := own_slice h5.cw.own; obtain rfl : n5 = C := by { rw [← HC.out, ← h6, bs_len] }; clear h5 h6)
      | fail)
    go_ret
    exact ⟨rfl, ((Dst.tick H2.out).below H3.out).below (H4.out.trans (H5.out.cw.b.mono H4.out.size))⟩
  · have ea : X.rd.app f.nm (bs q.n q.f) = (0, ⟨rpu X.rd.fs f.nm (f.rf.more ⟨false, 0, bs q.n q.f⟩), X.k + 1, X.rd.rf⟩) := by unfold Rdk.app; rw [if_neg (by rw [h1]; decide), if_neg (by rw [h2]; decide), hlk]; simp only [bs_len]; rw [if_neg c]; rfl
    rw [ea]
    obtain ⟨C, hC⟩ : ∃ C, f.rf.cn.length = C := ⟨_, rfl⟩
    have HC : Hid _ := hC
    rw [hC] at c hcl
    clear h hlk h1 h2 hi hmin hfr hfit hoq ea hq hw0 hR hC hqw
    go_enter Try.func52, Try.ntmps52
    go_wp2_with (first
      | (go_at_call 94; refine Calls.mono HO.out ?_; rintro e w2 ⟨rfl, h2⟩; rw [HE.out]; have H2 : Hid _ := h2; have X2 : Hid _ := h2.1; clear h2)
      | (go_at_call 95; refine Calls.mono (rname_any _ hs _) ?_; rintro e w3 ⟨rfl, h3⟩; rw [HN.out]; have H3 : Hid _ := h3; have X3 : Hid _ := X2.out.below h3; clear h3)
      | (go_at_call 96; refine Calls.mono (rat_hit (X := X.up) f.nm i f HI.out rfl HM.out (show X.fs.length ≤ 100000 by omega) _ X3.out) ?_; rintro e w4 ⟨rfl, h4⟩; have H4 : Hid _ := h4; have X4 : Hid _ := X3.out.below h4; have HP4 : Hid _ := Pq.below (Pq.below (Pq.chg HP.out H2.out.2.1 HW.out) H3.out) h4; obtain ⟨g, cp, hv, hcp, k0, k1, k2, k3⟩ := (X3.out.below h4).at (i := i) (f := f) HI.out; have c0 : w4.cell? ⟨X.m, 0, none⟩ = some X.v := (X3.out.below h4).c0; have hv : X.v = .slice (some ⟨g, 0, none⟩) X.fs.length cp := hv; have fok : Hid _ := (X3.out.below h4).ok f (List.mem_of_getElem? HI.out); rw [hv] at c0; clear h4 hv)
      | (go_at_call 97; refine Calls.mono (rcontent_any f X.L HF.out HQ.out (by omega) _ fok.out) ?_; rintro e w5 ⟨v5, n5, P5, rfl, h5, h6⟩; have H5 : Hid _ := h5; have X5 : Hid _ := X4.out.below h5.cw.b; obtain ⟨p5, c5, rfl, hle5⟩ := own_slice h5.cw.own; obtain rfl : n5 = C := by { rw [← HC.out, ← h6, bs_len] }
         obtain ⟨v6, w6, hr6, h7⟩ := copy_r (u := w5) (q := q) (Pq.below HP4.out h5.cw.b) (by omega) 34
         have X6 : Hid _ := X5.out.below ((Below.refl _ w5).mono (Nat.le_refl _) |>.trans h7.cw.b)
         have HB6 : Hid _ := h7.cw.b
         obtain ⟨q6, rfl, hq6, hn6, hf6, hg6⟩ := h7.part
         have HR6 : Hid _ := hr6; have HQ6 : Hid _ := hq6; have HG6 : Hid _ := hg6; have HN6 : Hid _ := hn6; have HF6 : Hid _ := hf6; clear h5 h6 hr6 h7 hq6 hn6 hf6 hg6)
      | (at_builtin; refine wpl_app rfl _ _ 34 rfl (.slice (some ⟨w5.heap.size, 0, none⟩) 0 0) (.slice q.p q.n q.cp) (.slice q6.p q6.n q6.cp) rfl rfl HR6.out ?_)
      | (go_at_call 99
         have hlo : w.heap.size ≤ w5.heap.size := Nat.le_trans H2.out.2.1.size (Nat.le_trans H3.out.size (Nat.le_trans H4.out.size H5.out.cw.b.size))
         refine Calls.mono (runder_any (X := X.up) i f HI.out ⟨false, 0, q6⟩ (by omega) _ X6.out (Nat.le_trans H0.out (Nat.le_trans hlo HB6.out.size)) HQ6.out fun x hx => ⟨Nat.le_trans (Nat.le_trans H0.out hlo) (HG6.out x hx).1, fun e => absurd (X5.out.lt x e) (Nat.not_lt.2 (HG6.out x hx).1)⟩) ?_; rintro e w7 ⟨rfl, v7, L7, h7, h8, h9⟩; have H7 : Hid _ := h7; have H8 : Hid _ := h8; have H9 : Hid _ := h9; clear h7 h8 h9)
      | fail)
    go_ret
    have hd := Dst.more (X1 := X.up) (u := w6) (Dxw.below (Dxw.below (Dxw.below (Dxw.below H2.out H3.out) H4.out) H5.out.cw.b) HB6.out) rfl rfl HI.out HR.out.st H7.out H8.out H9.out (fun x hx => Nat.le_trans hlo (HG6.out x hx).1)
    rw [show (⟨false, 0, q6⟩ : Mo).ro = ⟨false, 0, bs q.n q.f⟩ by unfold Mo.ro; rw [HN6.out, HF6.out]] at hd
    exact ⟨rfl, hd⟩
theorem lay_perm2 {f : Mf} {l : List Mf} : ∀ x, x ∈ lay Mf.nm f l → x = f ∨ x ∈ l := fun _x hx => List.mem_cons.1 ((lay_perm Mf.nm f l).mem_iff.1 hx)
theorem lay_rf (f : Mf) (l : List Mf) : (lay Mf.nm f l).map Mf.rf = lay Rf.nm f.rf (l.map Mf.rf) := by
  rw [lay_eq, lay_eq]
  exact lay_map Mf.nm Mf.rf Rf.nm (fun _ => rfl) f l
/-- A new file. -/
def mf0 (s : ByteArray) : Mf := ⟨s, q0, .slice none 0 0, [], false⟩
theorem mf0_ok (s : ByteArray) (L : List Nat) (u : World) : (mf0 s).ok L u := ⟨⟨q0_pq u, fun _ hx => by cases hx⟩, World.ownsRow_nil _ _ _ _, fun _ hx => by simp [mf0, vbl, Value.ownBlock] at hx, fun o ho => by cases ho⟩
theorem find_lay {s : ByteArray} {l : List Mf} (hno : ∀ f ∈ l, f.nm ≠ s) : ∃ (i : Nat) (f : Mf), (lay Mf.nm (mf0 s) l)[i]? = some f ∧ f = mf0 s ∧ ∀ j, j < i → ∀ g : Mf, (lay Mf.nm (mf0 s) l)[j]? = some g → g.nm ≠ s := by
  cases e : ((lay Mf.nm (mf0 s) l).map Mf.rf).find? (fun f => decide (f.nm = s)) with
  | none =>
    have := find_no e (mf0 s) ((lay_perm Mf.nm (mf0 s) l).mem_iff.2 (List.mem_cons_self ..))
    exact absurd rfl this
  | some fr =>
    obtain ⟨i, f, h1, h2, h3, h4⟩ := find_at e
    refine ⟨i, f, h1, ?_, h4⟩
    rcases lay_perm2 f (List.mem_of_getElem? h1) with c | c
    · exact c
    · exact absurd h3 (hno f c)
set_option maxHeartbeats 4000000 in
/-- Append to a file that is not there. -/
theorem rapp_miss {w0 : World} {X : Dx} {i0 : Nat} (s : ByteArray) (hs : s.size ≤ 281474976710656) (q : Pt8) (hqn : q.n ≤ 1048576000) (hi0 : i0 ≤ 800000) (hR : X.rd.Ok i0) (hn : X.n ≤ 100000) (h1 : X.rd.no = false) (h2 : nmd s = true) (hlk : X.rd.lk s = none) (w : World) (h : Dxo w0 X w) (hw0 : w0.heap.size ≤ w.heap.size) (hq : Pq q w) (hqw : ∀ x ∈ gbl q, x < w0.heap.size) :
    Calls Try.prog 52 #[PT X.m 0, .string s, .slice q.p q.n q.cp] w fun e w' => e = .returned (.int .i64 (X.rd.app s (bs q.n q.f)).1) ∧ Dst w0 w X (X.rd.app s (bs q.n q.f)).2 w' := by
  have hk : X.k < 1000000000 := by have := hR.k; have : X.k ≤ i0 := this; omega
  have HO : Hid _ := rop_any hk hn w h
  have hno := find_no hlk
  have hn64 : X.fs.length ≤ 64 := by have := hR.n; simpa [Dx.rd] using this
  have hln : X.rd.fs.length = X.fs.length := by simp [Dx.rd]
  have HE : Hid _ := h1
  have HN : Hid _ := h2
  have HM : Hid _ := hno
  have HP : Hid _ := hq
  have HW : Hid (∀ x ∈ gbl q, x ∉ X.bl) := fun x hx e => absurd (hqw x hx) (Nat.not_lt.2 (h.lo x e))
  have HWL : Hid _ := hqw
  have H0 : Hid _ := hw0
  have HR : Hid _ := hR
  by_cases c : 64 ≤ X.fs.length
  · have ea : X.rd.app s (bs q.n q.f) = (8, X.rd.tick) := by unfold Rdk.app; rw [if_neg (by rw [h1]; decide), if_neg (by rw [h2]; decide), hlk]; simp only; rw [hln, if_pos c]
    rw [ea]
    clear h hlk h1 h2 hno ea hq hw0 hR hln hqw
    go_enter Try.func52, Try.ntmps52
    go_wp2_with (first
      | (go_at_call 94; refine Calls.mono HO.out ?_; rintro e w2 ⟨rfl, h2⟩; rw [HE.out]; have H2 : Hid _ := h2; have X2 : Hid _ := h2.1; clear h2)
      | (go_at_call 95; refine Calls.mono (rname_any _ hs _) ?_; rintro e w3 ⟨rfl, h3⟩; rw [HN.out]; have H3 : Hid _ := h3; have X3 : Hid _ := X2.out.below h3; clear h3)
      | (go_at_call 96; refine Calls.mono (rat_miss (X := X.up) s HM.out (show X.fs.length ≤ 100000 by omega) _ X3.out) ?_; rintro e w4 ⟨rfl, h4⟩; have H4 : Hid _ := h4; have X4 : Hid _ := X3.out.below h4; obtain ⟨p4, c4, hv4, hle4⟩ := own_slice X4.out.row; have hv4 : X.v = .slice p4 X.fs.length c4 := hv4; have c0 : w4.cell? ⟨X.m, 0, none⟩ = some X.v := X4.out.c0; rw [hv4] at c0; clear h4 hv4)
      | fail)
    go_ret
    exact ⟨rfl, ((Dst.tick H2.out).below H3.out).below H4.out⟩
  · by_cases c2 : 1048576 < q.n
    · have ea : X.rd.app s (bs q.n q.f) = (3, X.rd.tick) := by unfold Rdk.app; rw [if_neg (by rw [h1]; decide), if_neg (by rw [h2]; decide), hlk]; simp only [bs_len]; rw [hln, if_neg c, if_pos c2]
      rw [ea]
      clear h hlk h1 h2 hno ea hq hw0 hR hln hqw
      go_enter Try.func52, Try.ntmps52
      go_wp2_with (first
        | (go_at_call 94; refine Calls.mono HO.out ?_; rintro e w2 ⟨rfl, h2⟩; rw [HE.out]; have H2 : Hid _ := h2; have X2 : Hid _ := h2.1; clear h2)
        | (go_at_call 95; refine Calls.mono (rname_any _ hs _) ?_; rintro e w3 ⟨rfl, h3⟩; rw [HN.out]; have H3 : Hid _ := h3; have X3 : Hid _ := X2.out.below h3; clear h3)
        | (go_at_call 96; refine Calls.mono (rat_miss (X := X.up) s HM.out (show X.fs.length ≤ 100000 by omega) _ X3.out) ?_; rintro e w4 ⟨rfl, h4⟩; have H4 : Hid _ := h4; have X4 : Hid _ := X3.out.below h4; obtain ⟨p4, c4, hv4, hle4⟩ := own_slice X4.out.row; have hv4 : X.v = .slice p4 X.fs.length c4 := hv4; have c0 : w4.cell? ⟨X.m, 0, none⟩ = some X.v := X4.out.c0; rw [hv4] at c0; clear h4 hv4)
        | fail)
      go_ret
      exact ⟨rfl, ((Dst.tick H2.out).below H3.out).below H4.out⟩
    · have ea : X.rd.app s (bs q.n q.f) = (0, ⟨lay Rf.nm ⟨s, [], [⟨false, 0, bs q.n q.f⟩], false⟩ X.rd.fs, X.k + 1, X.rd.rf⟩) := by unfold Rdk.app; rw [if_neg (by rw [h1]; decide), if_neg (by rw [h2]; decide), hlk]; simp only [bs_len]; rw [hln, if_neg c, if_neg c2]; rfl
      rw [ea]
      obtain ⟨i, f, hi, rfl, hmin⟩ := find_lay hno
      have hil := (List.getElem?_eq_some_iff.1 hi).1
      have hl65 : (lay Mf.nm (mf0 s) X.fs).length ≤ 65 := by rw [(lay_perm Mf.nm (mf0 s) X.fs).length_eq, List.length_cons]; omega
      have HI : Hid _ := hi
      have HMI : Hid _ := hmin
      clear h hlk h1 h2 hno ea hq hw0 hR hln hqw hi hmin
      go_enter Try.func52, Try.ntmps52
      go_wp2_with (first
        | (go_at_call 94; refine Calls.mono HO.out ?_; rintro e w2 ⟨rfl, h2⟩; rw [HE.out]; have H2 : Hid _ := h2; have X2 : Hid _ := h2.1; clear h2)
        | (go_at_call 95; refine Calls.mono (rname_any _ hs _) ?_; rintro e w3 ⟨rfl, h3⟩; rw [HN.out]; have H3 : Hid _ := h3; have X3 : Hid _ := X2.out.below h3; clear h3)
        | (go_at_call 96; refine Calls.mono (rat_hit (X := X.up.wf v5 (lay Mf.nm (mf0 s) X.fs)) s i (mf0 s) HI.out rfl HMI.out (show (lay Mf.nm (mf0 s) X.fs).length ≤ 100000 by omega) _ H5.out.1) ?_; rintro e w6 ⟨rfl, h6⟩; have H6 : Hid _ := h6
           obtain ⟨v7, w7, hr7, h7⟩ := copy_r (u := w6) (q := q) (Pq.below (Pq.chg HP4.out H5.out.2.1 HWU.out) h6) (by omega) 34
           have HB7 : Hid _ := h7.cw.b
           obtain ⟨q7, rfl, hq7, hn7, hf7, hg7⟩ := h7.part
           have HR7 : Hid _ := hr7; have HQ7 : Hid _ := hq7; have HG7 : Hid _ := hg7; have HN7 : Hid _ := hn7; have HF7 : Hid _ := hf7; clear h6 h7 hr7 hq7 hn7 hf7 hg7)
        | (go_at_call 96; refine Calls.mono (rat_miss (X := X.up) s HM.out (show X.fs.length ≤ 100000 by omega) _ X3.out) ?_; rintro e w4 ⟨rfl, h4⟩; have H4 : Hid _ := h4; have X4 : Hid _ := X3.out.below h4; obtain ⟨p4, c4, hv4, hle4⟩ := own_slice X4.out.row; have hv4 : X.v = .slice p4 X.fs.length c4 := hv4; have c0 : w4.cell? ⟨X.m, 0, none⟩ = some X.v := X4.out.c0; rw [hv4] at c0; have HP4 : Hid _ := Pq.below (Pq.below (Pq.chg HP.out H2.out.2.1 HW.out) H3.out) h4; clear h4 hv4)
        | (go_at_call 98
           have hlo4 : w.heap.size ≤ w4.heap.size := Nat.le_trans H2.out.2.1.size (Nat.le_trans H3.out.size H4.out.size)
           refine Calls.mono (rlaid_any (X := X.up) (mf0 s) _ rfl (show X.fs.length ≤ 1000 by omega) _ (Nat.le_trans H0.out hlo4) X4.out (mf0_ok s _ _)) ?_; rintro e w5 ⟨rfl, v5, h5⟩; have H5 : Hid _ := h5; have HWU : Hid (∀ x ∈ gbl q, x ∉ X.up.bl) := HW.out; clear h5)
        | (at_builtin; refine wpl_app rfl _ _ 34 rfl (.slice (some ⟨w6.heap.size, 0, none⟩) 0 0) (.slice q.p q.n q.cp) (.slice q7.p q7.n q7.cp) rfl rfl HR7.out ?_)
        | (go_at_call 99
           have hlo6 : w.heap.size ≤ w6.heap.size := Nat.le_trans hlo4 (Nat.le_trans H5.out.2.1.size H6.out.size)
           refine Calls.mono (runder_any (X := X.up.wf v5 (lay Mf.nm (mf0 s) X.fs)) i (mf0 s) HI.out ⟨false, 0, q7⟩ (show ([] : List Mo).length ≤ 900000 by decide) _ ((H5.out.1.below H6.out).below HB7.out) (Nat.le_trans H0.out (Nat.le_trans hlo6 HB7.out.size)) HQ7.out fun x hx => ⟨Nat.le_trans (Nat.le_trans H0.out hlo6) (HG7.out x hx).1, fun e => absurd ((H5.out.1.below H6.out).lt x e) (Nat.not_lt.2 (HG7.out x hx).1)⟩) ?_; rintro e w8 ⟨rfl, v8, L8, h7, h8, h9⟩; have H7 : Hid _ := h7; have H8 : Hid _ := h8; have H9 : Hid _ := h9; clear h7 h8 h9)
        | fail)
      go_ret
      have hlf : (X.up.wf v5 (lay Mf.nm (mf0 s) X.fs)).rd.fs = lay Rf.nm ⟨s, [], [], false⟩ X.rd.fs := lay_rf (mf0 s) X.fs
      have hno2 : ∀ x ∈ X.rd.fs, x.nm ≠ s := fun x hx => by
        obtain ⟨g, hg, rfl⟩ := List.mem_map.1 (show x ∈ X.fs.map Mf.rf from hx)
        exact HM.out g hg
      have hst : Srt Rf.nm (X.up.wf v5 (lay Mf.nm (mf0 s) X.fs)).rd.fs := by
        rw [hlf]
        exact lay_srt Rf.nm _ _ HR.out.st hno2
      have hd := Dst.more (X := X) (X1 := X.up.wf v5 (lay Mf.nm (mf0 s) X.fs)) (u := w7) (Dxw.below (Dxw.below (Dxw.trans (Dxw.below (Dxw.below H2.out H3.out) H4.out) H5.out) H6.out) HB7.out) rfl rfl HI.out hst H7.out H8.out H9.out fun x hx => Nat.le_trans hlo6 (HG7.out x hx).1
      rw [show (⟨false, 0, q7⟩ : Mo).ro = ⟨false, 0, bs q.n q.f⟩ by unfold Mo.ro; rw [HN7.out, HF7.out], hlf, lay_eq, show (mf0 s).nm = s from rfl, rpu_ins (s := s) (f := ⟨s, [], [], false⟩) (f' := (mf0 s).rf.more ⟨false, 0, bs q.n q.f⟩) rfl rfl hno2, ← lay_eq] at hd
      exact ⟨rfl, hd⟩
/-- Append, whole. -/
theorem rapp_any {w0 : World} {X : Dx} {i0 : Nat} (s : ByteArray) (hs : s.size ≤ 281474976710656) (q : Pt8) (hqn : q.n ≤ 1048576000) (hi0 : i0 ≤ 800000) (hR : X.rd.Ok i0) (hn : X.n ≤ 100000) (w : World) (h : Dxo w0 X w) (hw0 : w0.heap.size ≤ w.heap.size) (hq : Pq q w) (hqw : ∀ x ∈ gbl q, x < w0.heap.size) :
    Calls Try.prog 52 #[PT X.m 0, .string s, .slice q.p q.n q.cp] w fun e w' => e = .returned (.int .i64 (X.rd.app s (bs q.n q.f)).1) ∧ Dst w0 w X (X.rd.app s (bs q.n q.f)).2 w' := by
  have hk : X.k < 1000000000 := by have := hR.k; have : X.k ≤ i0 := this; omega
  cases h1 : X.rd.no with
  | true => exact rapp_bad s hs q hk hn (.inl h1) w h
  | false =>
    cases h2 : nmd s with
    | false => exact rapp_bad s hs q hk hn (.inr h2) w h
    | true =>
      cases h3 : X.rd.lk s with
      | none => exact rapp_miss s hs q hqn hi0 hR hn h1 h2 h3 w h hw0 hq hqw
      | some fr => exact rapp_hit s hs q hqn hi0 hR hn h1 h2 fr h3 w h hw0 hq hqw
end Wi
end Rg
end Go.Proofs.Ytidicdlfjdlpnaa
end
section
namespace Go.Proofs.Ytidicdlfjdlpnaa
open Go.RowKit
namespace Rg
namespace Wi
set_option maxRecDepth 100000
set_option maxHeartbeats 2000000 in
theorem rcut_no {w0 : World} {X : Dx} (s : ByteArray) (c : Int) (hk : X.k < 1000000000) (hn : X.n ≤ 100000) (h1 : X.rd.no = true) (w : World) (h : Dxo w0 X w) :
    Calls Try.prog 54 #[PT X.m 0, .string s, .int .i64 c] w fun e w' => e = .returned (.int .i64 13) ∧ Dst w0 w X X.rd.tick w' := by
  have HO : Hid _ := rop_any hk hn w h
  have HE : Hid _ := h1
  clear h h1
  go_enter Try.func54, Try.ntmps54
  go_wp2_with (first
    | (go_at_call 94; refine Calls.mono HO.out ?_; rintro e w2 ⟨rfl, h2⟩; rw [HE.out]; have H2 : Hid _ := h2; have X2 : Hid _ := h2.1; clear h2)
    | fail)
  go_ret
  exact ⟨rfl, Dst.tick H2.out⟩
set_option maxHeartbeats 2000000 in
theorem rcut_miss {w0 : World} {X : Dx} {i0 : Nat} (s : ByteArray) (_hs : s.size ≤ 281474976710656) (c : Int) (hi0 : i0 ≤ 800000) (hR : X.rd.Ok i0) (hn : X.n ≤ 100000) (h1 : X.rd.no = false) (hlk : X.rd.lk s = none) (w : World) (h : Dxo w0 X w) (hw0 : w0.heap.size ≤ w.heap.size) :
    Calls Try.prog 54 #[PT X.m 0, .string s, .int .i64 c] w fun e w' => e = .returned (.int .i64 6) ∧ Dst w0 w X X.rd.tick w' := by
  have hk : X.k < 1000000000 := by have := hR.k; have : X.k ≤ i0 := this; omega
  have HO : Hid _ := rop_any hk hn w h
  have H0 : Hid _ := hw0
  have hn64 : X.fs.length ≤ 64 := by have := hR.n; simpa [Dx.rd] using this
  have HM : Hid _ := find_no hlk
  have HE : Hid _ := h1
  clear h h1 hlk hR hw0
  go_enter Try.func54, Try.ntmps54
  go_wp2_with (first
    | (go_at_call 94; refine Calls.mono HO.out ?_; rintro e w2 ⟨rfl, h2⟩; rw [HE.out]; have H2 : Hid _ := h2; have X2 : Hid _ := h2.1; clear h2)
    | (go_at_call 96; refine Calls.mono (rat_miss (X := X.up) s HM.out (show X.fs.length ≤ 100000 by omega) _ X2.out) ?_; rintro e w4 ⟨rfl, h4⟩; have H4 : Hid _ := h4; have X4 : Hid _ := X2.out.below h4; clear h4)
    | fail)
  go_ret
  exact ⟨rfl, Dst.below (Dst.tick H2.out) H4.out⟩
set_option maxHeartbeats 2000000 in
theorem rcut_bad {w0 : World} {X : Dx} {i0 : Nat} (s : ByteArray) (hs : s.size ≤ 281474976710656) (c : Int) (hc : c < 9223372036854775808) (hi0 : i0 ≤ 800000) (hR : X.rd.Ok i0) (hn : X.n ≤ 100000) (h1 : X.rd.no = false) (fr : Rf) (hlk : X.rd.lk s = some fr) (hbad : c < 0 ∨ (fr.cn.length : Int) < c) (w : World) (h : Dxo w0 X w) (hw0 : w0.heap.size ≤ w.heap.size) :
    Calls Try.prog 54 #[PT X.m 0, .string s, .int .i64 c] w fun e w' => e = .returned (.int .i64 2) ∧ Dst w0 w X X.rd.tick w' := by
  have hk : X.k < 1000000000 := by have := hR.k; have : X.k ≤ i0 := this; omega
  have HO : Hid _ := rop_any hk hn w h
  have H0 : Hid _ := hw0
  obtain ⟨i, f, hi, rfl, rfl, hmin⟩ := find_at hlk
  have hil := (List.getElem?_eq_some_iff.1 hi).1
  have hfr : f.rf ∈ X.rd.fs := List.mem_map_of_mem (List.mem_of_getElem? hi)
  have hn64 : X.fs.length ≤ 64 := by have := hR.n; simpa [Dx.rd] using this
  have hcl : f.rf.cn.length ≤ 1048576 := hR.cnl hfr
  have hol : f.ops.length ≤ i0 := by have := hR.ol _ hfr; simpa [Mf.rf] using this
  have HF : Hid _ := hR.ft _ hfr
  have HQ : Hid (∀ o ∈ f.ops, o.q.n ≤ 1048576) := fun o ho => by
    have := hR.ob _ hfr o.ro (List.mem_map_of_mem ho)
    simpa [Mo.ro, bs_len] using this
  have HI : Hid _ := hi
  have HM : Hid _ := hmin
  have HR : Hid _ := hR
  have HE : Hid _ := h1
  obtain ⟨C, hC⟩ : ∃ C, f.rf.cn.length = C := ⟨_, rfl⟩
  have HC : Hid _ := hC
  rw [hC] at hbad hcl
  clear h h1 hlk hR hw0 hi hmin hfr hC
  by_cases c1 : c < 0
  · clear hbad
    go_enter Try.func54, Try.ntmps54
    go_wp2_with (first
      | (go_at_call 94; refine Calls.mono HO.out ?_; rintro e w2 ⟨rfl, h2⟩; rw [HE.out]; have H2 : Hid _ := h2; have X2 : Hid _ := h2.1; clear h2)
      | (go_at_call 96; refine Calls.mono (rat_hit (X := X.up) f.nm i f HI.out rfl HM.out (show X.fs.length ≤ 100000 by omega) _ X2.out) ?_; rintro e w4 ⟨rfl, h4⟩; have H4 : Hid _ := h4; have X4 : Hid _ := X2.out.below h4; obtain ⟨g, cp, hv, hcp, k0, k1, k2, k3⟩ := (X2.out.below h4).at (i := i) (f := f) HI.out; have c0 : w4.cell? ⟨X.m, 0, none⟩ = some X.v := (X2.out.below h4).c0; have hv : X.v = .slice (some ⟨g, 0, none⟩) X.fs.length cp := hv; have fok : Hid _ := (X2.out.below h4).ok f (List.mem_of_getElem? HI.out); have HV : Hid _ := hv; rw [hv] at c0; clear h4 hv)
      | fail)
    go_ret
    exact ⟨rfl, Dst.below (Dst.tick H2.out) H4.out⟩
  · have c2 : (C : Int) < c := by omega
    clear hbad
    go_enter Try.func54, Try.ntmps54
    go_wp2_with (first
      | (go_at_call 94; refine Calls.mono HO.out ?_; rintro e w2 ⟨rfl, h2⟩; rw [HE.out]; have H2 : Hid _ := h2; have X2 : Hid _ := h2.1; clear h2)
      | (go_at_call 96; refine Calls.mono (rat_hit (X := X.up) f.nm i f HI.out rfl HM.out (show X.fs.length ≤ 100000 by omega) _ X2.out) ?_; rintro e w4 ⟨rfl, h4⟩; have H4 : Hid _ := h4; have X4 : Hid _ := X2.out.below h4; obtain ⟨g, cp, hv, hcp, k0, k1, k2, k3⟩ := (X2.out.below h4).at (i := i) (f := f) HI.out; have c0 : w4.cell? ⟨X.m, 0, none⟩ = some X.v := (X2.out.below h4).c0; have hv : X.v = .slice (some ⟨g, 0, none⟩) X.fs.length cp := hv; have fok : Hid _ := (X2.out.below h4).ok f (List.mem_of_getElem? HI.out); have HV : Hid _ := hv; rw [hv] at c0; clear h4 hv)
      | (go_at_call 97; refine Calls.mono (rcontent_any f X.L HF.out HQ.out (by omega) _ fok.out) ?_; rintro e w5 ⟨v5, n5, P5, rfl, h5, h6⟩; have H5 : Hid _ := h5; have X5 : Hid _ := X4.out.below h5.cw.b; obtain ⟨p5, c5, rfl, hle5⟩ := own_slice h5.cw.own; obtain rfl : n5 = C := by { rw [← HC.out, ← h6, bs_len] }; have H56 : Hid _ := h6; clear h5 h6)
      | fail)
    go_ret
    exact ⟨rfl, Dst.below (Dst.below (Dst.tick H2.out) H4.out) H5.out.cw.b⟩
set_option maxHeartbeats 2000000 in
theorem rcut_ok {w0 : World} {X : Dx} {i0 : Nat} (s : ByteArray) (hs : s.size ≤ 281474976710656) (c : Nat) (hi0 : i0 ≤ 800000) (hR : X.rd.Ok i0) (hn : X.n ≤ 100000) (h1 : X.rd.no = false) (fr : Rf) (hlk : X.rd.lk s = some fr) (hc : c ≤ fr.cn.length) (w : World) (h : Dxo w0 X w) (hw0 : w0.heap.size ≤ w.heap.size) :
    Calls Try.prog 54 #[PT X.m 0, .string s, .int .i64 (c : Int)] w fun e w' => e = .returned (.int .i64 0) ∧ Dst w0 w X ⟨rpu X.rd.fs s (fr.more ⟨true, c, []⟩), X.k + 1, X.rd.rf⟩ w' := by
  have hk : X.k < 1000000000 := by have := hR.k; have : X.k ≤ i0 := this; omega
  have HO : Hid _ := rop_any hk hn w h
  have H0 : Hid _ := hw0
  obtain ⟨i, f, hi, rfl, rfl, hmin⟩ := find_at hlk
  have hil := (List.getElem?_eq_some_iff.1 hi).1
  have hfr : f.rf ∈ X.rd.fs := List.mem_map_of_mem (List.mem_of_getElem? hi)
  have hn64 : X.fs.length ≤ 64 := by have := hR.n; simpa [Dx.rd] using this
  have hcl : f.rf.cn.length ≤ 1048576 := hR.cnl hfr
  have hol : f.ops.length ≤ i0 := by have := hR.ol _ hfr; simpa [Mf.rf] using this
  have HF : Hid _ := hR.ft _ hfr
  have HQ : Hid (∀ o ∈ f.ops, o.q.n ≤ 1048576) := fun o ho => by
    have := hR.ob _ hfr o.ro (List.mem_map_of_mem ho)
    simpa [Mo.ro, bs_len] using this
  have HI : Hid _ := hi
  have HM : Hid _ := hmin
  have HR : Hid _ := hR
  have HE : Hid _ := h1
  obtain ⟨C, hC⟩ : ∃ C, f.rf.cn.length = C := ⟨_, rfl⟩
  have HC : Hid _ := hC
  rw [hC] at hc hcl
  clear h h1 hlk hR hw0 hi hmin hfr hC
  go_enter Try.func54, Try.ntmps54
  go_wp2_with (first
    | (go_at_call 94; refine Calls.mono HO.out ?_; rintro e w2 ⟨rfl, h2⟩; rw [HE.out]; have H2 : Hid _ := h2; have X2 : Hid _ := h2.1; clear h2)
    | (go_at_call 96; refine Calls.mono (rat_hit (X := X.up) f.nm i f HI.out rfl HM.out (show X.fs.length ≤ 100000 by omega) _ X2.out) ?_; rintro e w4 ⟨rfl, h4⟩; have H4 : Hid _ := h4; have X4 : Hid _ := X2.out.below h4; obtain ⟨g, cp, hv, hcp, k0, k1, k2, k3⟩ := (X2.out.below h4).at (i := i) (f := f) HI.out; have c0 : w4.cell? ⟨X.m, 0, none⟩ = some X.v := (X2.out.below h4).c0; have hv : X.v = .slice (some ⟨g, 0, none⟩) X.fs.length cp := hv; have fok : Hid _ := (X2.out.below h4).ok f (List.mem_of_getElem? HI.out); have HV : Hid _ := hv; rw [hv] at c0; clear h4 hv)
    | (go_at_call 97; refine Calls.mono (rcontent_any f X.L HF.out HQ.out (by omega) _ fok.out) ?_; rintro e w5 ⟨v5, n5, P5, rfl, h5, h6⟩; have H5 : Hid _ := h5; have X5 : Hid _ := X4.out.below h5.cw.b; obtain ⟨p5, c5, rfl, hle5⟩ := own_slice h5.cw.own; obtain rfl : n5 = C := by { rw [← HC.out, ← h6, bs_len] }; have H56 : Hid _ := h6; clear h5 h6)
    | (go_at_call 99
       have hlo : w.heap.size ≤ w5.heap.size := Nat.le_trans H2.out.2.1.size (Nat.le_trans H4.out.size H5.out.cw.b.size)
       refine Calls.mono (runder_any (X := X.up) i f HI.out ⟨true, c, q0⟩ (by omega) _ X5.out (Nat.le_trans H0.out hlo) (q0_pq _) fun x hx => by cases hx) ?_; rintro e w7 ⟨rfl, v7, L7, h7, h8, h9⟩; have H7 : Hid _ := h7; have H8 : Hid _ := h8; have H9 : Hid _ := h9; clear h7 h8 h9)
    | fail)
  go_ret
  exact ⟨rfl, Dst.more (X1 := X.up) (u := w5) (Dxw.below (Dxw.below H2.out H4.out) H5.out.cw.b) rfl rfl HI.out HR.out.st H7.out H8.out H9.out fun x hx => by cases hx⟩
/-- Cut, whole. -/
theorem rcut_any {w0 : World} {X : Dx} {i0 : Nat} (s : ByteArray) (hs : s.size ≤ 281474976710656) (c : Int) (hc : c < 9223372036854775808) (hi0 : i0 ≤ 800000) (hR : X.rd.Ok i0) (hn : X.n ≤ 100000)  (w : World) (h : Dxo w0 X w) (hw0 : w0.heap.size ≤ w.heap.size) :
    Calls Try.prog 54 #[PT X.m 0, .string s, .int .i64 c] w fun e w' => e = .returned (.int .i64 (X.rd.cut s c).1) ∧ Dst w0 w X (X.rd.cut s c).2 w' := by
  have hk : X.k < 1000000000 := by have := hR.k; have : X.k ≤ i0 := this; omega
  unfold Rdk.cut
  cases h1 : X.rd.no with
  | true => rw [if_pos rfl]; exact rcut_no s c hk hn h1 w h
  | false =>
    rw [if_neg (by decide)]
    cases h3 : X.rd.lk s with
    | none => exact rcut_miss s hs c hi0 hR hn h1 h3 w h hw0
    | some fr =>
      dsimp only
      by_cases c1 : 0 ≤ c ∧ c ≤ fr.cn.length
      · rw [if_pos c1]
        obtain ⟨m, rfl⟩ : ∃ m : Nat, c = m := ⟨c.toNat, by omega⟩
        exact rcut_ok s hs m hi0 hR hn h1 fr h3 (by omega) w h hw0
      · rw [if_neg c1]
        exact rcut_bad s hs c hc hi0 hR hn h1 fr h3 (by omega) w h hw0
set_option maxHeartbeats 2000000 in
theorem rrem_no {w0 : World} {X : Dx} (s : ByteArray) (hk : X.k < 1000000000) (hn : X.n ≤ 100000) (h1 : X.rd.no = true) (w : World) (h : Dxo w0 X w) :
    Calls Try.prog 57 #[PT X.m 0, .string s] w fun e w' => e = .returned (.int .i64 13) ∧ Dst w0 w X X.rd.tick w' := by
  have HO : Hid _ := rop_any hk hn w h
  have HE : Hid _ := h1
  clear h h1
  go_enter Try.func57, Try.ntmps57
  go_wp2_with (first
    | (go_at_call 94; refine Calls.mono HO.out ?_; rintro e w2 ⟨rfl, h2⟩; rw [HE.out]; have H2 : Hid _ := h2; have X2 : Hid _ := h2.1; clear h2)
    | fail)
  go_ret
  exact ⟨rfl, Dst.tick H2.out⟩
theorem rgo_rd (fs : List Mf) (s : ByteArray) : (fs.filter (fun f => decide (f.nm ≠ s))).map Mf.rf = rgo (fs.map Mf.rf) s := by
  unfold rgo
  rw [List.filter_map]
  rfl
set_option maxHeartbeats 2000000 in
theorem rrem_any {w0 : World} {X : Dx} {i0 : Nat} (s : ByteArray) (hs : s.size ≤ 281474976710656)  (hi0 : i0 ≤ 800000) (hR : X.rd.Ok i0) (hn : X.n ≤ 100000)  (w : World) (h : Dxo w0 X w) (hw0 : w0.heap.size ≤ w.heap.size) :
    Calls Try.prog 57 #[PT X.m 0, .string s] w fun e w' => e = .returned (.int .i64 (X.rd.rem s).1) ∧ Dst w0 w X (X.rd.rem s).2 w' := by
  have hk : X.k < 1000000000 := by have := hR.k; have : X.k ≤ i0 := this; omega
  have HO : Hid _ := rop_any hk hn w h
  have H0 : Hid _ := hw0
  unfold Rdk.rem
  cases h1 : X.rd.no with
  | true => rw [if_pos rfl]; exact rrem_no s hk hn h1 w h
  | false =>
    rw [if_neg (by decide)]
    have HE : Hid _ := h1
    cases hlk : X.rd.lk s with
    | none =>
      have hn64 : X.fs.length ≤ 64 := by have := hR.n; simpa [Dx.rd] using this
      have HM : Hid _ := find_no hlk
      dsimp only
      clear h h1 hlk hR hw0
      go_enter Try.func57, Try.ntmps57
      go_wp2_with (first
        | (go_at_call 94; refine Calls.mono HO.out ?_; rintro e w2 ⟨rfl, h2⟩; rw [HE.out]; have H2 : Hid _ := h2; have X2 : Hid _ := h2.1; clear h2)
        | (go_at_call 96; refine Calls.mono (rat_miss (X := X.up) s HM.out (show X.fs.length ≤ 100000 by omega) _ X2.out) ?_; rintro e w4 ⟨rfl, h4⟩; have H4 : Hid _ := h4; have X4 : Hid _ := X2.out.below h4; clear h4)
        | fail)
      go_ret
      exact ⟨rfl, Dst.below (Dst.tick H2.out) H4.out⟩
    | some fr =>
      have hn64 : X.fs.length ≤ 64 := by have := hR.n; simpa [Dx.rd] using this
      obtain ⟨i, f, hi, rfl, rfl, hmin⟩ := find_at hlk
      have hil := (List.getElem?_eq_some_iff.1 hi).1
      have HI : Hid _ := hi
      have HM : Hid _ := hmin
      dsimp only
      clear h h1 hlk hR hw0 hi hmin
      go_enter Try.func57, Try.ntmps57
      go_wp2_with (first
        | (go_at_call 94; refine Calls.mono HO.out ?_; rintro e w2 ⟨rfl, h2⟩; rw [HE.out]; have H2 : Hid _ := h2; have X2 : Hid _ := h2.1; clear h2)
        | (go_at_call 96; refine Calls.mono (rat_hit (X := X.up) f.nm i f HI.out rfl HM.out (show X.fs.length ≤ 100000 by omega) _ X2.out) ?_; rintro e w4 ⟨rfl, h4⟩; have H4 : Hid _ := h4; have X4 : Hid _ := X2.out.below h4; obtain ⟨g, cp, hv, hcp, k0, k1, k2, k3⟩ := (X2.out.below h4).at (i := i) (f := f) HI.out; have c0 : w4.cell? ⟨X.m, 0, none⟩ = some X.v := (X2.out.below h4).c0; have hv : X.v = .slice (some ⟨g, 0, none⟩) X.fs.length cp := hv; have fok : Hid _ := (X2.out.below h4).ok f (List.mem_of_getElem? HI.out); have HV : Hid _ := hv; rw [hv] at c0; clear h4 hv)
        | (go_at_call 100
           have hlo : w.heap.size ≤ w4.heap.size := Nat.le_trans H2.out.2.1.size H4.out.size
           refine Calls.mono (rgone_any (X := X.up) f.nm _ rfl (show X.fs.length ≤ 100000 by omega) _ (Nat.le_trans H0.out hlo) X4.out) ?_; rintro e w7 ⟨rfl, v7, h7, h7c⟩; have H7 : Hid _ := h7; clear h7 h7c)
        | fail)
      go_ret
      exact ⟨rfl, X.up.wf v7 (X.up.fs.filter (fun x => decide (x.nm ≠ f.nm))), by (show (⟨(X.fs.filter (fun x => decide (x.nm ≠ f.nm))).map Mf.rf, X.k + 1, rff X.F X.n⟩ : Rdk) = _); rw [rgo_rd]; rfl, rfl, rfl, Dxw.trans (Dxw.below H2.out H4.out) H7.out⟩
set_option maxHeartbeats 2000000 in
theorem rread_miss {w0 : World} {X : Dx} {i0 : Nat} (s : ByteArray) (hR : X.rd.Ok i0) (hlk : X.rd.lk s = none) (w : World) (h : Dxo w0 X w) :
    Calls Try.prog 58 #[PT X.m 0, .string s] w fun e w' => e = .returned (.tuple #[.slice none 0 0, .int .i64 6]) ∧ Below w.heap.size w w' := by
  have hn64 : X.fs.length ≤ 64 := by have := hR.n; simpa [Dx.rd] using this
  have HM : Hid _ := find_no hlk
  have X3 : Hid _ := h
  clear h hlk hR
  go_enter Try.func58, Try.ntmps58
  go_wp2_with (first
    | (go_at_call 96; refine Calls.mono (rat_miss (X := X) s HM.out (show X.fs.length ≤ 100000 by omega) _ X3.out) ?_; rintro e w4 ⟨rfl, h4⟩; have H4 : Hid _ := h4; have X4 : Hid _ := X3.out.below h4; clear h4)
    | fail)
  go_ret2
  exact ⟨rfl, H4.out⟩
set_option maxHeartbeats 2000000 in
theorem rread_hit {w0 : World} {X : Dx} {i0 : Nat} (s : ByteArray) (hi0 : i0 ≤ 800000) (hR : X.rd.Ok i0) (fr : Rf) (hlk : X.rd.lk s = some fr) (w : World) (h : Dxo w0 X w) :
    Calls Try.prog 58 #[PT X.m 0, .string s] w fun e w' => ∃ v P, e = .returned (.tuple #[v, .int .i64 0]) ∧ Cr w v fr.cn.length P w' ∧ bs fr.cn.length P = fr.cn := by
  obtain ⟨i, f, hi, rfl, rfl, hmin⟩ := find_at hlk
  have hil := (List.getElem?_eq_some_iff.1 hi).1
  have hfr : f.rf ∈ X.rd.fs := List.mem_map_of_mem (List.mem_of_getElem? hi)
  have hn64 : X.fs.length ≤ 64 := by have := hR.n; simpa [Dx.rd] using this
  have hcl : f.rf.cn.length ≤ 1048576 := hR.cnl hfr
  have hol : f.ops.length ≤ i0 := by have := hR.ol _ hfr; simpa [Mf.rf] using this
  have HF : Hid _ := hR.ft _ hfr
  have HQ : Hid (∀ o ∈ f.ops, o.q.n ≤ 1048576) := fun o ho => by
    have := hR.ob _ hfr o.ro (List.mem_map_of_mem ho)
    simpa [Mo.ro, bs_len] using this
  have HI : Hid _ := hi
  have HM : Hid _ := hmin
  have HR : Hid _ := hR
  have X3 : Hid _ := h
  obtain ⟨C, hC⟩ : ∃ C, f.rf.cn.length = C := ⟨_, rfl⟩
  have HC : Hid _ := hC
  rw [hC] at hcl ⊢
  clear h hlk hR hi hmin hfr hC
  go_enter Try.func58, Try.ntmps58
  go_wp2_with (first
    | (go_at_call 96; refine Calls.mono (rat_hit (X := X) f.nm i f HI.out rfl HM.out (show X.fs.length ≤ 100000 by omega) _ X3.out) ?_; rintro e w4 ⟨rfl, h4⟩; have H4 : Hid _ := h4; have X4 : Hid _ := X3.out.below h4; obtain ⟨g, cp, hv, hcp, k0, k1, k2, k3⟩ := (X3.out.below h4).at (i := i) (f := f) HI.out; have c0 : w4.cell? ⟨X.m, 0, none⟩ = some X.v := (X3.out.below h4).c0; have hv : X.v = .slice (some ⟨g, 0, none⟩) X.fs.length cp := hv; have fok : Hid _ := (X3.out.below h4).ok f (List.mem_of_getElem? HI.out); have HV : Hid _ := hv; rw [hv] at c0; clear h4 hv)
    | (go_at_call 97; refine Calls.mono (rcontent_any f X.L HF.out HQ.out (by omega) _ fok.out) ?_; rintro e w5 ⟨v5, n5, P5, rfl, h5, h6⟩; have H5 : Hid _ := h5; have X5 : Hid _ := X4.out.below h5.cw.b; obtain ⟨p5, c5, rfl, hle5⟩ := own_slice h5.cw.own; obtain rfl : n5 = C := by { rw [← HC.out, ← h6, bs_len] }; have H56 : Hid _ := h6; clear h5 h6)
    | fail)
  go_ret2
  exact ⟨_, P5, rfl, ⟨⟨H4.out.trans (H5.out.cw.b.mono H4.out.size), own_base H5.out.cw.own H4.out.size⟩, H5.out.rm⟩, H56.out⟩
set_option maxHeartbeats 2000000 in
theorem rpend_any {w0 : World} {X : Dx} {i0 : Nat} (s : ByteArray) (_hi0 : i0 ≤ 800000) (hR : X.rd.Ok i0) (w : World) (h : Dxo w0 X w) :
    Calls Try.prog 62 #[PT X.m 0, .string s] w fun e w' => e = .returned (.int .i64 (((X.rd.lk s).map fun f => f.ops.length).getD 0 : Nat)) ∧ Below w.heap.size w w' := by
  cases hlk : X.rd.lk s with
  | none =>
    have hn64 : X.fs.length ≤ 64 := by have := hR.n; simpa [Dx.rd] using this
    have HM : Hid _ := find_no hlk
    have X3 : Hid _ := h
    rw [Option.map_none, Option.getD_none]
    clear h hlk hR
    go_enter Try.func62, Try.ntmps62
    go_wp2_with (first
      | (go_at_call 96; refine Calls.mono (rat_miss (X := X) s HM.out (show X.fs.length ≤ 100000 by omega) _ X3.out) ?_; rintro e w4 ⟨rfl, h4⟩; have H4 : Hid _ := h4; have X4 : Hid _ := X3.out.below h4; clear h4)
      | fail)
    go_ret
    exact ⟨rfl, H4.out⟩
  | some fr =>
    obtain ⟨i, f, hi, rfl, rfl, hmin⟩ := find_at hlk
    have hil := (List.getElem?_eq_some_iff.1 hi).1
    have hfr : f.rf ∈ X.rd.fs := List.mem_map_of_mem (List.mem_of_getElem? hi)
    have hn64 : X.fs.length ≤ 64 := by have := hR.n; simpa [Dx.rd] using this
    have hcl : f.rf.cn.length ≤ 1048576 := hR.cnl hfr
    have hol : f.ops.length ≤ i0 := by have := hR.ol _ hfr; simpa [Mf.rf] using this
    have HF : Hid _ := hR.ft _ hfr
    have HQ : Hid (∀ o ∈ f.ops, o.q.n ≤ 1048576) := fun o ho => by
      have := hR.ob _ hfr o.ro (List.mem_map_of_mem ho)
      simpa [Mo.ro, bs_len] using this
    have HI : Hid _ := hi
    have HM : Hid _ := hmin
    have HR : Hid _ := hR
    have X3 : Hid _ := h
    obtain ⟨po, co, hov, hco⟩ := own_slice (h.ok f (List.mem_of_getElem? hi)).ow
    rw [Option.map_some, Option.getD_some, show f.rf.ops.length = f.ops.length by simp [Mf.rf]]
    have HOV : Hid _ := hov
    clear h hlk hR hi hmin hfr hcl hov
    go_enter Try.func62, Try.ntmps62
    go_wp2_with (first
      | (go_at_call 96; refine Calls.mono (rat_hit (X := X) f.nm i f HI.out rfl HM.out (show X.fs.length ≤ 100000 by omega) _ X3.out) ?_; rintro e w4 ⟨rfl, h4⟩; have H4 : Hid _ := h4; have X4 : Hid _ := X3.out.below h4; obtain ⟨g, cp, hv, hcp, k0, k1, k2, k3⟩ := (X3.out.below h4).at (i := i) (f := f) HI.out; have c0 : w4.cell? ⟨X.m, 0, none⟩ = some X.v := (X3.out.below h4).c0; have hv : X.v = .slice (some ⟨g, 0, none⟩) X.fs.length cp := hv; have fok : Hid _ := (X3.out.below h4).ok f (List.mem_of_getElem? HI.out); have HV : Hid _ := hv; rw [hv] at c0; rw [HOV.out] at k2; clear h4 hv)
      | fail)
    go_ret
    exact ⟨rfl, H4.out⟩
end Wi
end Rg
end Go.Proofs.Ytidicdlfjdlpnaa
end
section
namespace Go.Proofs.Ytidicdlfjdlpnaa
open Go.RowKit
namespace Rg
namespace Wi
set_option maxRecDepth 100000
theorem chg_setc (b j : Nat) (u : World) (v : Value) : Chg [b] u (u.setCell ⟨b, j, none⟩ v) := ⟨rfl, rfl, rfl, by simp, fun k _ hk => heap_setCell_other u ⟨b, j, none⟩ k _ (fun e => hk (by simp [e]))⟩
theorem Mf.ok.to {L : List Nat} {u : World} {f : Mf} (h : f.ok L u) (t : ByteArray) (b : Bool) {v : Value} (hov : f.ov = v) (ho : f.ops = []) : (⟨t, f.q, v, [], b⟩ : Mf).ok L u := by
  obtain ⟨h1, h2, h3, h4⟩ := h
  subst hov
  rw [ho] at h2
  exact ⟨h1, h2, h3, fun o ho => by cases ho⟩
theorem Dxo.setc {w0 u : World} {X : Dx} (h : Dxo w0 X u) {b j : Nat} (v : Value) (hb : b ∉ X.bl) : Dxo w0 X (u.setCell ⟨b, j, none⟩ v) :=
  h.kx ⟨by simp, fun x hx => heap_setCell_other u ⟨b, j, none⟩ x _ fun e => hb (by rw [show x = b from e] at hx; exact hx)⟩
theorem Dxw.setc {w0 w u : World} {X X' : Dx} (h : Dxw w0 w X X' u) {b j : Nat} (v : Value) (hb : b ∉ X'.bl) (hw : w.heap.size ≤ b) : Dxw w0 w X X' (u.setCell ⟨b, j, none⟩ v) :=
  ⟨h.1.setc v hb, h.2.1.trans (show Chg [b] u (u.setCell ⟨b, j, none⟩ v) from ⟨rfl, rfl, rfl, by simp, fun k _ hk => heap_setCell_other u ⟨b, j, none⟩ k _ (fun e => hk (by simp [e]))⟩) fun x hx => .inr (by rw [List.mem_singleton.1 hx]; exact hw), h.2.2⟩
set_option maxHeartbeats 2000000 in
theorem rren_no {w0 : World} {X : Dx} (s t : ByteArray) (hk : X.k < 1000000000) (hn : X.n ≤ 100000) (h1 : X.rd.no = true) (w : World) (h : Dxo w0 X w) :
    Calls Try.prog 56 #[PT X.m 0, .string s, .string t] w fun e w' => e = .returned (.int .i64 13) ∧ Dst w0 w X X.rd.tick w' := by
  have HO : Hid _ := rop_any hk hn w h
  have HE : Hid _ := h1
  clear h h1
  go_enter Try.func56, Try.ntmps56
  go_wp2_with (first
    | (go_at_call 94; refine Calls.mono HO.out ?_; rintro e w2 ⟨rfl, h2⟩; rw [HE.out]; have H2 : Hid _ := h2; have X2 : Hid _ := h2.1; clear h2)
    | fail)
  go_ret
  exact ⟨rfl, Dst.tick H2.out⟩
set_option maxHeartbeats 2000000 in
theorem rren_arg {w0 : World} {X : Dx} {i0 : Nat} (s : ByteArray) (_hs : s.size ≤ 281474976710656) (t : ByteArray) (ht : t.size ≤ 281474976710656) (hi0 : i0 ≤ 800000) (hR : X.rd.Ok i0) (hn : X.n ≤ 100000) (h1 : X.rd.no = false) (h2 : nmd t = false) (w : World) (h : Dxo w0 X w) (hw0 : w0.heap.size ≤ w.heap.size) :
    Calls Try.prog 56 #[PT X.m 0, .string s, .string t] w fun e w' => e = .returned (.int .i64 2) ∧ Dst w0 w X X.rd.tick w' := by
  have hk : X.k < 1000000000 := by have := hR.k; have : X.k ≤ i0 := this; omega
  have HO : Hid _ := rop_any hk hn w h
  have H0 : Hid _ := hw0
  have HE : Hid _ := h1
  have HN : Hid _ := h2
  clear h h1 h2 hR hw0
  go_enter Try.func56, Try.ntmps56
  go_wp2_with (first
    | (go_at_call 94; refine Calls.mono HO.out ?_; rintro e w2 ⟨rfl, h2⟩; rw [HE.out]; have H2 : Hid _ := h2; have X2 : Hid _ := h2.1; clear h2)
    | (go_at_call 95; refine Calls.mono (rname_any _ ht _) ?_; rintro e w3 ⟨rfl, h3⟩; rw [HN.out]; have H3 : Hid _ := h3; have X3 : Hid _ := X2.out.below h3; clear h3)
    | fail)
  go_ret
  exact ⟨rfl, Dst.below (Dst.tick H2.out) H3.out⟩
set_option maxHeartbeats 2000000 in
theorem rren_miss {w0 : World} {X : Dx} {i0 : Nat} (s : ByteArray) (_hs : s.size ≤ 281474976710656) (t : ByteArray) (ht : t.size ≤ 281474976710656) (hi0 : i0 ≤ 800000) (hR : X.rd.Ok i0) (hn : X.n ≤ 100000) (h1 : X.rd.no = false) (h2 : nmd t = true) (hlk : X.rd.lk s = none) (w : World) (h : Dxo w0 X w) (hw0 : w0.heap.size ≤ w.heap.size) :
    Calls Try.prog 56 #[PT X.m 0, .string s, .string t] w fun e w' => e = .returned (.int .i64 6) ∧ Dst w0 w X X.rd.tick w' := by
  have hk : X.k < 1000000000 := by have := hR.k; have : X.k ≤ i0 := this; omega
  have HO : Hid _ := rop_any hk hn w h
  have H0 : Hid _ := hw0
  have hn64 : X.fs.length ≤ 64 := by have := hR.n; simpa [Dx.rd] using this
  have HM : Hid _ := find_no hlk
  have HE : Hid _ := h1
  have HN : Hid _ := h2
  clear h h1 h2 hlk hR hw0
  go_enter Try.func56, Try.ntmps56
  go_wp2_with (first
    | (go_at_call 94; refine Calls.mono HO.out ?_; rintro e w2 ⟨rfl, h2⟩; rw [HE.out]; have H2 : Hid _ := h2; have X2 : Hid _ := h2.1; clear h2)
    | (go_at_call 95; refine Calls.mono (rname_any _ ht _) ?_; rintro e w3 ⟨rfl, h3⟩; rw [HN.out]; have H3 : Hid _ := h3; have X3 : Hid _ := X2.out.below h3; clear h3)
    | (go_at_call 96; refine Calls.mono (rat_miss (X := X.up) s HM.out (show X.fs.length ≤ 100000 by omega) _ X3.out) ?_; rintro e w4 ⟨rfl, h4⟩; have H4 : Hid _ := h4; have X4 : Hid _ := X3.out.below h4; clear h4)
    | fail)
  go_ret
  exact ⟨rfl, Dst.below (Dst.below (Dst.tick H2.out) H3.out) H4.out⟩
theorem Mf.ops_nil (f : Mf) : f.rf.ops = [] ↔ f.ops = [] := by unfold Mf.rf; simp
set_option maxHeartbeats 2000000 in
theorem rren_busy {w0 : World} {X : Dx} {i0 : Nat} (s : ByteArray) (hs : s.size ≤ 281474976710656) (t : ByteArray) (ht : t.size ≤ 281474976710656) (hi0 : i0 ≤ 800000) (hR : X.rd.Ok i0) (hn : X.n ≤ 100000) (h1 : X.rd.no = false) (h2 : nmd t = true) (fr : Rf) (hlk : X.rd.lk s = some fr) (hb : fr.ops ≠ []) (w : World) (h : Dxo w0 X w) (hw0 : w0.heap.size ≤ w.heap.size) :
    Calls Try.prog 56 #[PT X.m 0, .string s, .string t] w fun e w' => e = .returned (.int .i64 10) ∧ Dst w0 w X X.rd.tick w' := by
  have hk : X.k < 1000000000 := by have := hR.k; have : X.k ≤ i0 := this; omega
  have HO : Hid _ := rop_any hk hn w h
  have H0 : Hid _ := hw0
  obtain ⟨i, f, hi, rfl, rfl, hmin⟩ := find_at hlk
  have hil := (List.getElem?_eq_some_iff.1 hi).1
  have hfr : f.rf ∈ X.rd.fs := List.mem_map_of_mem (List.mem_of_getElem? hi)
  have hn64 : X.fs.length ≤ 64 := by have := hR.n; simpa [Dx.rd] using this
  have hcl : f.rf.cn.length ≤ 1048576 := hR.cnl hfr
  have hol : f.ops.length ≤ i0 := by have := hR.ol _ hfr; simpa [Mf.rf] using this
  have HF : Hid _ := hR.ft _ hfr
  have HQ : Hid (∀ o ∈ f.ops, o.q.n ≤ 1048576) := fun o ho => by
    have := hR.ob _ hfr o.ro (List.mem_map_of_mem ho)
    simpa [Mo.ro, bs_len] using this
  have HI : Hid _ := hi
  have HM : Hid _ := hmin
  have HR : Hid _ := hR
  have HE : Hid _ := h1
  have HN : Hid _ := h2
  have hlen : 0 < f.ops.length := List.length_pos_iff.2 fun e => hb (f.ops_nil.2 e)
  obtain ⟨po, co, hov, hco⟩ := own_slice (h.ok f (List.mem_of_getElem? hi)).ow
  have HOV : Hid _ := hov
  clear h h1 h2 hlk hR hw0 hi hmin hfr hb hov
  go_enter Try.func56, Try.ntmps56
  go_wp2_with (first
    | (go_at_call 94; refine Calls.mono HO.out ?_; rintro e w2 ⟨rfl, h2⟩; rw [HE.out]; have H2 : Hid _ := h2; have X2 : Hid _ := h2.1; clear h2)
    | (go_at_call 95; refine Calls.mono (rname_any _ ht _) ?_; rintro e w3 ⟨rfl, h3⟩; rw [HN.out]; have H3 : Hid _ := h3; have X3 : Hid _ := X2.out.below h3; clear h3)
    | (go_at_call 96; refine Calls.mono (rat_hit (X := X.up) f.nm i f HI.out rfl HM.out (show X.fs.length ≤ 100000 by omega) _ X3.out) ?_; rintro e w4 ⟨rfl, h4⟩; have H4 : Hid _ := h4; have X4 : Hid _ := X3.out.below h4; obtain ⟨g, cp, hv, hcp, k0, k1, k2, k3⟩ := (X3.out.below h4).at (i := i) (f := f) HI.out; have c0 : w4.cell? ⟨X.m, 0, none⟩ = some X.v := (X3.out.below h4).c0; have hv : X.v = .slice (some ⟨g, 0, none⟩) X.fs.length cp := hv; have fok : Hid _ := (X3.out.below h4).ok f (List.mem_of_getElem? HI.out); have HV : Hid _ := hv; rw [hv] at c0; rw [HOV.out] at k2; clear h4 hv)
    | fail)
  go_ret
  exact ⟨rfl, Dst.below (Dst.below (Dst.tick H2.out) H3.out) H4.out⟩
set_option maxHeartbeats 2000000 in
theorem rren_same {w0 : World} {X : Dx} {i0 : Nat} (s : ByteArray) (hs : s.size ≤ 281474976710656) (t : ByteArray) (ht : t.size ≤ 281474976710656) (hi0 : i0 ≤ 800000) (hR : X.rd.Ok i0) (hn : X.n ≤ 100000) (h1 : X.rd.no = false) (h2 : nmd t = true) (fr : Rf) (hlk : X.rd.lk s = some fr) (hb : fr.ops = []) (hst : s = t) (w : World) (h : Dxo w0 X w) (hw0 : w0.heap.size ≤ w.heap.size) :
    Calls Try.prog 56 #[PT X.m 0, .string s, .string t] w fun e w' => e = .returned (.int .i64 0) ∧ Dst w0 w X X.rd.tick w' := by
  have hk : X.k < 1000000000 := by have := hR.k; have : X.k ≤ i0 := this; omega
  have HO : Hid _ := rop_any hk hn w h
  have H0 : Hid _ := hw0
  subst hst
  obtain ⟨i, f, hi, rfl, rfl, hmin⟩ := find_at hlk
  have hil := (List.getElem?_eq_some_iff.1 hi).1
  have hfr : f.rf ∈ X.rd.fs := List.mem_map_of_mem (List.mem_of_getElem? hi)
  have hn64 : X.fs.length ≤ 64 := by have := hR.n; simpa [Dx.rd] using this
  have hcl : f.rf.cn.length ≤ 1048576 := hR.cnl hfr
  have hol : f.ops.length ≤ i0 := by have := hR.ol _ hfr; simpa [Mf.rf] using this
  have HF : Hid _ := hR.ft _ hfr
  have HQ : Hid (∀ o ∈ f.ops, o.q.n ≤ 1048576) := fun o ho => by
    have := hR.ob _ hfr o.ro (List.mem_map_of_mem ho)
    simpa [Mo.ro, bs_len] using this
  have HI : Hid _ := hi
  have HM : Hid _ := hmin
  have HR : Hid _ := hR
  have HE : Hid _ := h1
  have HN : Hid _ := h2
  have hlen : f.ops.length = 0 := by rw [f.ops_nil.1 hb]; rfl
  obtain ⟨po, co, hov, hco⟩ := own_slice (h.ok f (List.mem_of_getElem? hi)).ow
  have HOV : Hid _ := hov
  rw [hlen] at hov
  clear h h1 h2 hlk hR hw0 hi hmin hfr hb
  go_enter Try.func56, Try.ntmps56
  go_wp2_with (first
    | (go_at_call 94; refine Calls.mono HO.out ?_; rintro e w2 ⟨rfl, h2⟩; rw [HE.out]; have H2 : Hid _ := h2; have X2 : Hid _ := h2.1; clear h2)
    | (go_at_call 95; refine Calls.mono (rname_any _ ht _) ?_; rintro e w3 ⟨rfl, h3⟩; rw [HN.out]; have H3 : Hid _ := h3; have X3 : Hid _ := X2.out.below h3; clear h3)
    | (go_at_call 96; refine Calls.mono (rat_hit (X := X.up) f.nm i f HI.out rfl HM.out (show X.fs.length ≤ 100000 by omega) _ X3.out) ?_; rintro e w4 ⟨rfl, h4⟩; have H4 : Hid _ := h4; have X4 : Hid _ := X3.out.below h4; obtain ⟨g, cp, hv, hcp, k0, k1, k2, k3⟩ := (X3.out.below h4).at (i := i) (f := f) HI.out; have c0 : w4.cell? ⟨X.m, 0, none⟩ = some X.v := (X3.out.below h4).c0; have hv : X.v = .slice (some ⟨g, 0, none⟩) X.fs.length cp := hv; have fok : Hid _ := (X3.out.below h4).ok f (List.mem_of_getElem? HI.out); have HV : Hid _ := hv; rw [hv] at c0; rw [hov] at k2; clear h4 hv)
    | fail)
  go_ret
  exact ⟨rfl, Dst.below (Dst.below (Dst.tick H2.out) H3.out) H4.out⟩
set_option maxHeartbeats 2000000 in
theorem rren_ok {w0 : World} {X : Dx} {i0 : Nat} (s : ByteArray) (hs : s.size ≤ 281474976710656) (t : ByteArray) (ht : t.size ≤ 281474976710656) (hi0 : i0 ≤ 800000) (hR : X.rd.Ok i0) (hn : X.n ≤ 100000) (h1 : X.rd.no = false) (h2 : nmd t = true) (fr : Rf) (hlk : X.rd.lk s = some fr) (hb : fr.ops = []) (hst : s ≠ t) (w : World) (h : Dxo w0 X w) (hw0 : w0.heap.size ≤ w.heap.size) :
    Calls Try.prog 56 #[PT X.m 0, .string s, .string t] w fun e w' => e = .returned (.int .i64 0) ∧ Dst w0 w X ⟨lay Rf.nm ⟨t, fr.sf, fr.ops, true⟩ (rgo (rgo X.rd.fs s) t), X.k + 1, X.rd.rf⟩ w' := by
  have hk : X.k < 1000000000 := by have := hR.k; have : X.k ≤ i0 := this; omega
  have HO : Hid _ := rop_any hk hn w h
  have H0 : Hid _ := hw0
  obtain ⟨i, f, hi, rfl, rfl, hmin⟩ := find_at hlk
  have hil := (List.getElem?_eq_some_iff.1 hi).1
  have hfr : f.rf ∈ X.rd.fs := List.mem_map_of_mem (List.mem_of_getElem? hi)
  have hn64 : X.fs.length ≤ 64 := by have := hR.n; simpa [Dx.rd] using this
  have hcl : f.rf.cn.length ≤ 1048576 := hR.cnl hfr
  have hol : f.ops.length ≤ i0 := by have := hR.ol _ hfr; simpa [Mf.rf] using this
  have HF : Hid _ := hR.ft _ hfr
  have HQ : Hid (∀ o ∈ f.ops, o.q.n ≤ 1048576) := fun o ho => by
    have := hR.ob _ hfr o.ro (List.mem_map_of_mem ho)
    simpa [Mo.ro, bs_len] using this
  have HI : Hid _ := hi
  have HM : Hid _ := hmin
  have HR : Hid _ := hR
  have HE : Hid _ := h1
  have HN : Hid _ := h2
  have hlen : f.ops.length = 0 := by rw [f.ops_nil.1 hb]; rfl
  obtain ⟨po, co, hov, hco⟩ := own_slice (h.ok f (List.mem_of_getElem? hi)).ow
  have HOV : Hid _ := hov
  rw [hlen] at hov
  have hne := str_ne hst
  obtain ⟨fs1, hf1⟩ : ∃ fs1, X.fs.filter (fun x => decide (x.nm ≠ f.nm)) = fs1 := ⟨_, rfl⟩
  obtain ⟨fs2, hf2⟩ : ∃ fs2, fs1.filter (fun x => decide (x.nm ≠ t)) = fs2 := ⟨_, rfl⟩
  have hl1 : fs1.length ≤ 64 := by rw [← hf1]; exact Nat.le_trans (List.length_filter_le _ _) hn64
  have hl2 : fs2.length ≤ 64 := by rw [← hf2]; exact Nat.le_trans (List.length_filter_le _ _) hl1
  have HF1 : Hid _ := hf1
  have HF2 : Hid _ := hf2
  have HOPS : Hid _ := f.ops_nil.1 hb
  clear h h1 h2 hlk hR hw0 hi hmin hfr hb hst hf1 hf2
  go_enter Try.func56, Try.ntmps56
  go_wp2_with (first
    | (go_at_call 98
       have hlo4 : w.heap.size ≤ w4.heap.size := Nat.le_trans H2.out.2.1.size (Nat.le_trans H3.out.size H4.out.size)
       have hD : Dxw w0 w X ((X.up.wf v6 fs1).wf v7 fs2) ((w7.setCell ⟨w4.heap.size, 0, none⟩ (.string t)).setCell ⟨w4.heap.size, 3, none⟩ (.bool true)) := Dxw.setc (Dxw.setc (Dxw.trans (Dxw.below (Dxw.below (Dxw.below H2.out H3.out) H4.out) H5.out) (Dxw.trans H6.out H7.out)) _ HB7.out hlo4) _ HB7.out hlo4
       have hc : Chg [X.m] w4 ((w7.setCell ⟨w4.heap.size, 0, none⟩ (.string t)).setCell ⟨w4.heap.size, 3, none⟩ (.bool true)) := (((Chg.of H5.out).trans HC7.out fun x hx => .inl hx).trans (chg_setc _ _ _ _) fun x hx => .inr (by rw [List.mem_singleton.1 hx]; exact Nat.le_refl _)).trans (chg_setc _ _ _ _) fun x hx => .inr (by rw [List.mem_singleton.1 hx]; exact Nat.le_refl _)
       have hok := (fok.out.to t true (v := .slice po 0 co) (by rw [HOV.out, HOPS.out]; rfl) HOPS.out).kx (u' := (w7.setCell ⟨w4.heap.size, 0, none⟩ (.string t)).setCell ⟨w4.heap.size, 3, none⟩ (.bool true)) ⟨hc.size, fun x hx => hc.block x (X4.out.lt x (List.mem_cons_of_mem _ (List.mem_append_right _ hx))) (fun e => X4.out.m2 (List.mem_singleton.1 e ▸ hx))⟩
       refine Calls.mono (rlaid_any (X := (X.up.wf v6 fs1).wf v7 fs2) ⟨t, f.q, .slice po 0 co, [], true⟩ _ rfl (show fs2.length ≤ 1000 by omega) _ (Nat.le_trans H0.out hD.2.1.size) hD.1 hok) ?_; rintro e w9 ⟨rfl, v9, h9⟩; have HD : Hid _ := hD; have H9 : Hid _ := h9; clear h9 hD hc hok)
    | (go_at_call 94; refine Calls.mono HO.out ?_; rintro e w2 ⟨rfl, h2⟩; rw [HE.out]; have H2 : Hid _ := h2; have X2 : Hid _ := h2.1; clear h2)
    | (go_at_call 95; refine Calls.mono (rname_any _ ht _) ?_; rintro e w3 ⟨rfl, h3⟩; rw [HN.out]; have H3 : Hid _ := h3; have X3 : Hid _ := X2.out.below h3; clear h3)
    | (go_at_call 96; refine Calls.mono (rat_hit (X := X.up) f.nm i f HI.out rfl HM.out (show X.fs.length ≤ 100000 by omega) _ X3.out) ?_; rintro e w4 ⟨rfl, h4⟩; have H4 : Hid _ := h4; have X4 : Hid _ := X3.out.below h4; obtain ⟨g, cp, hv, hcp, k0, k1, k2, k3⟩ := (X3.out.below h4).at (i := i) (f := f) HI.out; have c0 : w4.cell? ⟨X.m, 0, none⟩ = some X.v := (X3.out.below h4).c0; have hv : X.v = .slice (some ⟨g, 0, none⟩) X.fs.length cp := hv; have fok : Hid _ := (X3.out.below h4).ok f (List.mem_of_getElem? HI.out); have HV : Hid _ := hv; rw [hv] at c0; rw [hov] at k2; clear h4 hv
       obtain ⟨w5, hw5⟩ : ∃ w5, (w4.alloc (.cells #[.string f.nm, .slice f.q.p f.q.n f.q.cp, .slice po 0 co, .bool f.old] 148)) = w5 := ⟨_, rfl⟩
       have hb5 : Below w4.heap.size w4 w5 := by { rw [← hw5]; exact (Below.refl _ _).alloc (Nat.le_refl _) _ }
       have hs5 : w4.heap.size < w5.heap.size := by { rw [← hw5]; simp }
       have HB5 : Hid (∀ i, w5.cell? ⟨w4.heap.size, i, none⟩ = (#[.string f.nm, .slice f.q.p f.q.n f.q.cp, .slice po 0 co, .bool f.old] : Array Value)[i]?) := fun i => by { rw [← hw5]; exact box_at .. }
       have HZ5 : Hid (∀ i, w5.frozen? ⟨w4.heap.size, i, none⟩ = false) := fun i => by { rw [← hw5]; exact World.frozen?_alloc_at _ _ _ _ rfl }
       have H5 : Hid _ := hb5; have HS5 : Hid _ := hs5; have X5 : Hid _ := X4.out.below hb5; clear hb5 hs5)
    | (go_at_call 100
       have hlo : w.heap.size ≤ w6.heap.size := Nat.le_trans hlo5 H6.out.2.1.size
       refine Calls.mono (rgone_any (X := X.up.wf v6 fs1) t fs2 HF2.out (show fs1.length ≤ 100000 by omega) _ (Nat.le_trans H0.out hlo) H6.out.1) ?_; rintro e w7 ⟨rfl, v7, h7, h7c⟩; have H7 : Hid _ := h7
       have HC7 : Hid _ := h6c.out.trans h7c (fun x hx => .inl hx)
       have hb7 : w4.heap.size ∉ ((X.up.wf v6 fs1).wf v7 fs2).bl := fun e => by
         have e1 := (Dxw.trans H6.out h7).2.2 _ e
         rcases e1 with e1 | e1
         · exact absurd (X4.out.lt _ e1) (Nat.lt_irrefl _)
         · exact absurd HS5.out (Nat.not_lt.2 e1)
       have hm4 : w4.heap.size ∉ [X.m] := fun e => by { rw [List.mem_singleton] at e; have := X4.out.lt X.m (List.mem_cons_self ..); omega }
       have e0 : w7.cell? ⟨w4.heap.size, 0, none⟩ = some (.string f.nm) := (HC7.out.cell (p := ⟨w4.heap.size, 0, none⟩) HS5.out hm4).trans (HB5.out 0)
       have e1 : w7.cell? ⟨w4.heap.size, 1, none⟩ = some (.slice f.q.p f.q.n f.q.cp) := (HC7.out.cell (p := ⟨w4.heap.size, 1, none⟩) HS5.out hm4).trans (HB5.out 1)
       have e2 : w7.cell? ⟨w4.heap.size, 2, none⟩ = some (.slice po 0 co) := (HC7.out.cell (p := ⟨w4.heap.size, 2, none⟩) HS5.out hm4).trans (HB5.out 2)
       have e3 : w7.cell? ⟨w4.heap.size, 3, none⟩ = some (.bool f.old) := (HC7.out.cell (p := ⟨w4.heap.size, 3, none⟩) HS5.out hm4).trans (HB5.out 3)
       have z0 : w7.frozen? ⟨w4.heap.size, 0, none⟩ = false := (HC7.out.frozen (p := ⟨w4.heap.size, 0, none⟩) HS5.out hm4).trans (HZ5.out 0)
       have z3 : w7.frozen? ⟨w4.heap.size, 3, none⟩ = false := (HC7.out.frozen (p := ⟨w4.heap.size, 3, none⟩) HS5.out hm4).trans (HZ5.out 3)
       have HB7 : Hid _ := hb7
       clear h7 h7c hb7)
    | (go_at_call 100
       have hlo5 : w.heap.size ≤ w5.heap.size := Nat.le_trans H2.out.2.1.size (Nat.le_trans H3.out.size (Nat.le_trans H4.out.size H5.out.size))
       refine Calls.mono (rgone_any (X := X.up) f.nm fs1 HF1.out (show X.fs.length ≤ 100000 by omega) _ (Nat.le_trans H0.out hlo5) X5.out) ?_; rintro e w6 ⟨rfl, v6, h6, h6c⟩; have H6 : Hid _ := h6; have h6c : Hid _ := h6c; clear h6)
    | fail)
  go_ret
  refine ⟨rfl, ((X.up.wf v6 fs1).wf v7 fs2).wf v9 (lay Mf.nm ⟨t, f.q, .slice po 0 co, [], true⟩ fs2), ?_, rfl, rfl, Dxw.trans HD.out H9.out⟩
  show (⟨(lay Mf.nm ⟨t, f.q, .slice po 0 co, [], true⟩ fs2).map Mf.rf, X.k + 1, rff X.F X.n⟩ : Rdk) = _
  rw [lay_rf, ← HF2.out, rgo_rd, ← HF1.out, rgo_rd]
  unfold Mf.rf
  dsimp only
  rw [HOPS.out]
  rfl
/-- Rename, whole. -/
theorem rren_any {w0 : World} {X : Dx} {i0 : Nat} (s : ByteArray) (hs : s.size ≤ 281474976710656) (t : ByteArray) (ht : t.size ≤ 281474976710656) (hi0 : i0 ≤ 800000) (hR : X.rd.Ok i0) (hn : X.n ≤ 100000)  (w : World) (h : Dxo w0 X w) (hw0 : w0.heap.size ≤ w.heap.size) :
    Calls Try.prog 56 #[PT X.m 0, .string s, .string t] w fun e w' => e = .returned (.int .i64 (X.rd.ren s t).1) ∧ Dst w0 w X (X.rd.ren s t).2 w' := by
  have hk : X.k < 1000000000 := by have := hR.k; have : X.k ≤ i0 := this; omega
  unfold Rdk.ren
  cases h1 : X.rd.no with
  | true => rw [if_pos rfl]; exact rren_no s t hk hn h1 w h
  | false =>
    rw [if_neg (by decide)]
    cases h2 : nmd t with
    | false => rw [if_pos rfl]; exact rren_arg s hs t ht hi0 hR hn h1 h2 w h hw0
    | true =>
      rw [if_neg (by decide)]
      cases h3 : X.rd.lk s with
      | none => exact rren_miss s hs t ht hi0 hR hn h1 h2 h3 w h hw0
      | some fr =>
        dsimp only
        by_cases c1 : fr.ops = []
        · rw [if_neg (fun e => e c1)]
          by_cases c2 : s = t
          · rw [if_pos c2]
            exact rren_same s hs t ht hi0 hR hn h1 h2 fr h3 c1 c2 w h hw0
          · rw [if_neg c2]
            exact rren_ok s hs t ht hi0 hR hn h1 h2 fr h3 c1 c2 w h hw0
        · rw [if_pos c1]
          exact rren_busy s hs t ht hi0 hR hn h1 h2 fr h3 c1 w h hw0
end Wi
end Rg
end Go.Proofs.Ytidicdlfjdlpnaa
end
section
namespace Go.Proofs.Ytidicdlfjdlpnaa
open Go.RowKit
namespace Rg
namespace Wi
set_option maxRecDepth 100000
theorem Dst.set {w0 w u u' : World} {X X1 : Dx} {i : Nat} {f f' : Mf} {L : List Nat} (h : Dxw w0 w X X1 u) (hm : X1.m = X.m) (hn : X1.n = X.n) (hi : X1.fs[i]? = some f) (hs : Srt Rf.nm X1.rd.fs) (h1 : Dxo w0 (X1.ws (X1.fs.set i f') L) u') (h2 : Chg X1.bl u u') (h3 : ∀ x ∈ L, x ∈ X1.L ∨ w.heap.size ≤ x) :
    Dst w0 w X ⟨rpu X1.rd.fs f.nm f'.rf, X1.rd.k, X1.rd.rf⟩ u' := by
  refine ⟨X1.ws (X1.fs.set i f') L, ?_, hm, hn, h1, h.2.1.trans h2 h.2.2, fun x hx => ?_⟩
  · show (⟨(X1.fs.set i f').map Mf.rf, X1.k, rff X1.F X1.n⟩ : Rdk) = _
    rw [set_rpu hs hi rfl]
    rfl
  · have hx : x ∈ X1.m :: (vbl X1.v ++ L) := hx
    rcases List.mem_cons.1 hx with e | e
    · exact h.2.2 x (by rw [e]; exact List.mem_cons_self ..)
    · rcases List.mem_append.1 e with e | e
      · exact h.2.2 x (List.mem_cons_of_mem _ (List.mem_append_left _ e))
      · rcases h3 x e with e | e
        · exact h.2.2 x (List.mem_cons_of_mem _ (List.mem_append_right _ e))
        · exact .inr e
/-- A whole file is written. -/
def wr4 (u : World) (g o : Nat) (f' : Mf) : World := (((u.setCell ⟨g, o, none⟩ (.string f'.nm)).setCell ⟨g, o + 1, none⟩ (.slice f'.q.p f'.q.n f'.q.cp)).setCell ⟨g, o + 2, none⟩ f'.ov).setCell ⟨g, o + 3, none⟩ (.bool f'.old)
theorem Dxo.whole {w0 u : World} {X : Dx} (h : Dxo w0 X u) {i g cp : Nat} {f : Mf} (hi : X.fs[i]? = some f) (hv : X.v = .slice (some ⟨g, 0, none⟩) X.fs.length cp) (f' : Mf) (L : List Nat) (hok : f'.ok L u) (hL : ∀ x ∈ X.L, x ∈ L) (hN : ∀ x ∈ L, x ∈ X.L ∨ (w0.heap.size ≤ x ∧ x < u.heap.size ∧ x ∉ X.bl)) :
    Dxo w0 (X.ws (X.fs.set i f') L) (wr4 u g (i * 4) f') ∧ Chg [g] u (wr4 u g (i * 4) f') := by
  have hgv : g ∈ vbl X.v := by rw [hv]; simp [vbl, Value.ownBlock]
  have hgL : g ∉ L := fun e => by
    rcases hN g e with e1 | ⟨_, _, e1⟩
    · exact h.vL g hgv e1
    · exact e1 (List.mem_cons_of_mem _ (List.mem_append_left _ hgv))
  have hlt : ∀ x ∈ L, x < u.heap.size := fun x hx => by
    rcases hN x hx with e | ⟨_, e, _⟩
    · exact h.lt x (List.mem_cons_of_mem _ (List.mem_append_right _ e))
    · exact e
  have hk : ∀ {v : World}, Chg [g] u v → Kx L u v := fun hc => ⟨hc.size, fun x hx => hc.block x (hlt x hx) (fun e => hgL (List.mem_singleton.1 e ▸ hx))⟩
  have hil := (List.getElem?_eq_some_iff.1 hi).1
  have hf0 := (h.ok f (List.mem_of_getElem? hi)).mono hL
  have at_ : ∀ a : Mf, (X.fs.set i a)[i]? = some a := fun a => by rw [List.getElem?_set_self hil]
  have nn : ∀ x ∈ L, x ∈ L ∨ (w0.heap.size ≤ x ∧ x < u.heap.size ∧ x ∉ X.bl) := fun x hx => .inl hx
  have vv : ∀ a : Mf, (X.ws (X.fs.set i a) L).v = .slice (some ⟨g, 0, none⟩) (X.ws (X.fs.set i a) L).fs.length cp := fun a => by (show X.v = .slice (some ⟨g, 0, none⟩) (X.fs.set i a).length cp); rw [List.length_set]; exact hv
  have h1 := h.cell (j := 0) hi hv (.string f'.nm) (f' := ⟨f'.nm, f.q, f.ov, f.ops, f.old⟩) (by decide) rfl L ⟨hf0.q, hf0.ow, hf0.ob, hf0.op⟩ hL hN
  have e1 := hf0.kx (hk h1.2)
  have g1 := hok.kx (hk h1.2)
  have h2 := h1.1.cell (j := 1) (f := ⟨f'.nm, f.q, f.ov, f.ops, f.old⟩) (at_ _) (vv _) (.slice f'.q.p f'.q.n f'.q.cp) (f' := ⟨f'.nm, f'.q, f.ov, f.ops, f.old⟩) (by decide) rfl L ⟨g1.q, e1.ow, e1.ob, e1.op⟩ (fun x hx => hx) (fun x hx => .inl hx)
  have c2 := h1.2.trans h2.2 fun x hx => .inl hx
  have g2 := hok.kx (hk c2)
  have h3 := h2.1.cell (j := 2) (f := ⟨f'.nm, f'.q, f.ov, f.ops, f.old⟩) (by (show ((X.fs.set i _).set i _)[i]? = _); rw [List.set_set]; exact at_ _) (by (show X.v = .slice (some ⟨g, 0, none⟩) ((X.fs.set i _).set i _).length cp); rw [List.set_set, List.length_set]; exact hv) f'.ov (f' := ⟨f'.nm, f'.q, f'.ov, f'.ops, f.old⟩) (by decide) rfl L ⟨g2.q, g2.ow, g2.ob, g2.op⟩ (fun x hx => hx) (fun x hx => .inl hx)
  have c3 := c2.trans h3.2 fun x hx => .inl hx
  have g3 := hok.kx (hk c3)
  have h4 := h3.1.cell (j := 3) (f := ⟨f'.nm, f'.q, f'.ov, f'.ops, f.old⟩) (by (show (((X.fs.set i _).set i _).set i _)[i]? = _); rw [List.set_set, List.set_set]; exact at_ _) (by (show X.v = .slice (some ⟨g, 0, none⟩) (((X.fs.set i _).set i _).set i _).length cp); rw [List.set_set, List.set_set, List.length_set]; exact hv) (.bool f'.old) (f' := f') (by decide) rfl L g3 (fun x hx => hx) (fun x hx => .inl hx)
  refine ⟨?_, c3.trans h4.2 fun x hx => .inl hx⟩
  have h5 := h4.1
  have e : ((((X.ws (X.fs.set i ⟨f'.nm, f.q, f.ov, f.ops, f.old⟩) L).ws ((X.fs.set i ⟨f'.nm, f.q, f.ov, f.ops, f.old⟩).set i ⟨f'.nm, f'.q, f.ov, f.ops, f.old⟩) L).ws (((X.fs.set i ⟨f'.nm, f.q, f.ov, f.ops, f.old⟩).set i ⟨f'.nm, f'.q, f.ov, f.ops, f.old⟩).set i ⟨f'.nm, f'.q, f'.ov, f'.ops, f.old⟩) L).ws ((((X.fs.set i ⟨f'.nm, f.q, f.ov, f.ops, f.old⟩).set i ⟨f'.nm, f'.q, f.ov, f.ops, f.old⟩).set i ⟨f'.nm, f'.q, f'.ov, f'.ops, f.old⟩).set i f') L) = X.ws (X.fs.set i f') L := by
    show X.ws _ L = _
    rw [List.set_set, List.set_set, List.set_set]
  rw [← e]
  exact h5
theorem ex_bf {ρ : Operand → Value} {o : Oper} {x0 x1 x3 : Operand} {s : ByteArray} {p : Option Addr} {n c : Nat} {w : World} (ho : o.op = .build 148 #[(0, x0), (1, x1), (3, x3)]) (h0 : ρ x0 = .string s) (h1 : ρ x1 = .slice p n c) (h3 : ρ x3 = .bool true) : (execOp ρ o).run Try.prog w = .ok (.value (.agg #[.string s, .slice p n c, .slice none 0 0, .bool true])) w := by
  simp only [execOp, ho, List.map_toArray, List.map_cons, List.map_nil, h0, h1, h3]
  kernel_rfl
def sfe : Nat → Bool := fun i => i == 13 || i == 14
/-- What holds while a file is synced. -/
structure Js (w1 : World) (s : ByteArray) (f : Mf) (d : Nat → Bool) (ε : Nat → Value) (u : World) : Prop where
  b : Below w1.heap.size w1 u
  r : d 13 = true → ∃ n P, Cr w1 (ε 13) n P u ∧ bs n P = f.rf.cn
  e : d 14 = true → d 13 = true ∧ ε 14 = .agg #[.string s, ε 13, .slice none 0 0, .bool true]
set_option maxHeartbeats 2000000 in
theorem rsyn_no {w0 : World} {X : Dx} (s : ByteArray) (hk : X.k < 1000000000) (hn : X.n ≤ 100000) (h1 : X.rd.no = true) (w : World) (h : Dxo w0 X w) :
    Calls Try.prog 55 #[PT X.m 0, .string s] w fun e w' => e = .returned (.int .i64 13) ∧ Dst w0 w X X.rd.tick w' := by
  have HO : Hid _ := rop_any hk hn w h
  have HE : Hid _ := h1
  clear h h1
  go_enter Try.func55, Try.ntmps55
  go_wp2_with (first
    | (go_at_call 94; refine Calls.mono HO.out ?_; rintro e w2 ⟨rfl, h2⟩; rw [HE.out]; have H2 : Hid _ := h2; have X2 : Hid _ := h2.1; clear h2)
    | fail)
  go_ret
  exact ⟨rfl, Dst.tick H2.out⟩
set_option maxHeartbeats 2000000 in
theorem rsyn_miss {w0 : World} {X : Dx} {i0 : Nat} (s : ByteArray) (_hs : s.size ≤ 281474976710656)  (hi0 : i0 ≤ 800000) (hR : X.rd.Ok i0) (hn : X.n ≤ 100000) (h1 : X.rd.no = false) (hlk : X.rd.lk s = none) (w : World) (h : Dxo w0 X w) (hw0 : w0.heap.size ≤ w.heap.size) :
    Calls Try.prog 55 #[PT X.m 0, .string s] w fun e w' => e = .returned (.int .i64 6) ∧ Dst w0 w X X.rd.tick w' := by
  have hk : X.k < 1000000000 := by have := hR.k; have : X.k ≤ i0 := this; omega
  have HO : Hid _ := rop_any hk hn w h
  have H0 : Hid _ := hw0
  have hn64 : X.fs.length ≤ 64 := by have := hR.n; simpa [Dx.rd] using this
  have HM : Hid _ := find_no hlk
  have HE : Hid _ := h1
  clear h h1 hlk hR hw0
  go_enter Try.func55, Try.ntmps55
  go_wp2_with (first
    | (go_at_call 94; refine Calls.mono HO.out ?_; rintro e w2 ⟨rfl, h2⟩; rw [HE.out]; have H2 : Hid _ := h2; have X2 : Hid _ := h2.1; clear h2)
    | (go_at_call 96; refine Calls.mono (rat_miss (X := X.up) s HM.out (show X.fs.length ≤ 100000 by omega) _ X2.out) ?_; rintro e w4 ⟨rfl, h4⟩; have H4 : Hid _ := h4; have X4 : Hid _ := X2.out.below h4; clear h4)
    | fail)
  go_ret
  exact ⟨rfl, Dst.below (Dst.tick H2.out) H4.out⟩
set_option maxHeartbeats 4000000 in
theorem rsyn_hit {w0 : World} {X : Dx} {i0 : Nat} (s : ByteArray) (hs : s.size ≤ 281474976710656)  (hi0 : i0 ≤ 800000) (hR : X.rd.Ok i0) (hn : X.n ≤ 100000) (h1 : X.rd.no = false) (fr : Rf) (hlk : X.rd.lk s = some fr) (w : World) (h : Dxo w0 X w) (hw0 : w0.heap.size ≤ w.heap.size) :
    Calls Try.prog 55 #[PT X.m 0, .string s] w fun e w' => e = .returned (.int .i64 0) ∧ Dst w0 w X ⟨rpu X.rd.fs s ⟨fr.nm, fr.cn, [], true⟩, X.k + 1, X.rd.rf⟩ w' := by
  have hk : X.k < 1000000000 := by have := hR.k; have : X.k ≤ i0 := this; omega
  have HO : Hid _ := rop_any hk hn w h
  have H0 : Hid _ := hw0
  obtain ⟨i, f, hi, rfl, rfl, hmin⟩ := find_at hlk
  have hil := (List.getElem?_eq_some_iff.1 hi).1
  have hfr : f.rf ∈ X.rd.fs := List.mem_map_of_mem (List.mem_of_getElem? hi)
  have hn64 : X.fs.length ≤ 64 := by have := hR.n; simpa [Dx.rd] using this
  have hcl : f.rf.cn.length ≤ 1048576 := hR.cnl hfr
  have hol : f.ops.length ≤ i0 := by have := hR.ol _ hfr; simpa [Mf.rf] using this
  have HF : Hid _ := hR.ft _ hfr
  have HQ : Hid (∀ o ∈ f.ops, o.q.n ≤ 1048576) := fun o ho => by
    have := hR.ob _ hfr o.ro (List.mem_map_of_mem ho)
    simpa [Mo.ro, bs_len] using this
  have HI : Hid _ := hi
  have HM : Hid _ := hmin
  have HR : Hid _ := hR
  have HE : Hid _ := h1
  clear h h1 hlk hR hw0 hi hmin hfr
  go_enter Try.func55, Try.ntmps55
  go_wp2_with (first
    | (go_at_call 94; refine Calls.mono HO.out ?_; rintro e w2 ⟨rfl, h2⟩; rw [HE.out]; have H2 : Hid _ := h2; have X2 : Hid _ := h2.1; clear h2)
    | (go_at_call 96; refine Calls.mono (rat_hit (X := X.up) f.nm i f HI.out rfl HM.out (show X.fs.length ≤ 100000 by omega) _ X2.out) ?_; rintro e w4 ⟨rfl, h4⟩; have H4 : Hid _ := h4; have X4 : Hid _ := X2.out.below h4; obtain ⟨g, cp, hv, hcp, k0, k1, k2, k3⟩ := (X2.out.below h4).at (i := i) (f := f) HI.out; have c0 : w4.cell? ⟨X.m, 0, none⟩ = some X.v := (X2.out.below h4).c0; have hv : X.v = .slice (some ⟨g, 0, none⟩) X.fs.length cp := hv; have fok : Hid _ := (X2.out.below h4).ok f (List.mem_of_getElem? HI.out); have HV : Hid _ := hv; rw [hv] at c0; clear h4 hv)
    | fail)
  have HB : Hid (∀ u, Below w4.heap.size w4 u → Dxo w0 X.up u) := fun u hu => X4.out.below hu
  have HC : Hid (∀ u, Below w4.heap.size w4 u → u.cell? ⟨X.m, 0, none⟩ = some (.slice (some ⟨g, 0, none⟩) X.fs.length cp) ∧ u.cell? ⟨g, i * 4, none⟩ = some (.string f.nm) ∧ u.cell? ⟨g, i * 4 + 1, none⟩ = some (.slice f.q.p f.q.n f.q.cp) ∧ u.cell? ⟨g, i * 4 + 2, none⟩ = some f.ov ∧ u.cell? ⟨g, i * 4 + 3, none⟩ = some (.bool f.old)) := fun u hu => by
    have hX := X4.out.below hu
    obtain ⟨g', cp', hv', -, k0', k1', k2', k3'⟩ := hX.at (i := i) (f := f) HI.out
    have hv' : X.v = .slice (some ⟨g', 0, none⟩) X.fs.length cp' := hv'
    rw [HV.out] at hv'
    injection hv' with e1 _ e3
    injection e1 with e1
    injection e1 with e1
    subst e1 e3
    exact ⟨by rw [← HV.out]; exact hX.c0, k0', k1', k2', k3'⟩
  refine walk_mix (by kernel_rfl) 16 [PT X.m 0, PT X.m 0, PT X.m 0, .slice (some ⟨g, 0, none⟩) X.fs.length cp, .int .i64 (i : Int), .string f.nm, PT X.m 0, PT X.m 0, PT X.m 0, .slice (some ⟨g, 0, none⟩) X.fs.length cp, .int .i64 (i : Int), PT g (i * 4), .agg #[.string f.nm, .slice f.q.p f.q.n f.q.cp, f.ov, .bool f.old], undef, undef, PT g (i * 4)] sfe (fun d ε u => Js w4 f.nm f d ε u) ?prez (fun ε => (⟨#[PT X.m 0, .string f.nm, undef, undef, .int .i64 0, .int .i64 (i : Int), PT X.m 0, .bool false, PT X.m 0, .string f.nm, .int .i64 (i : Int), .int .i64 (i : Int), .bool (decide ((i : Int) < 0)), PT X.m 0, PT X.m 0, PT X.m 0, .slice (some ⟨g, 0, none⟩) X.fs.length cp, .int .i64 (i : Int), .string f.nm, PT X.m 0, PT X.m 0, PT X.m 0, .slice (some ⟨g, 0, none⟩) X.fs.length cp, .int .i64 (i : Int), PT g (i * 4), .agg #[.string f.nm, .slice f.q.p f.q.n f.q.cp, f.ov, .bool f.old], ε 13, ε 14, PT g (i * 4)], []⟩ : Act)) ?hprez (fun ε => ?hFz) rfl (fun ε => by kernel_rfl) (fun ε => ?hWz) ?h0z ?hqz ?hez ?hendz
  case hprez => simp only [tk, tz]; rfl
  case hFz =>
    rw [show vsOf sfe [PT X.m 0, PT X.m 0, PT X.m 0, .slice (some ⟨g, 0, none⟩) X.fs.length cp, .int .i64 (i : Int), .string f.nm, PT X.m 0, PT X.m 0, PT X.m 0, .slice (some ⟨g, 0, none⟩) X.fs.length cp, .int .i64 (i : Int), PT g (i * 4), .agg #[.string f.nm, .slice f.q.p f.q.n f.q.cp, f.ov, .bool f.old], undef, undef, PT g (i * 4)] 16 ε = [PT X.m 0, PT X.m 0, PT X.m 0, .slice (some ⟨g, 0, none⟩) X.fs.length cp, .int .i64 (i : Int), .string f.nm, PT X.m 0, PT X.m 0, PT X.m 0, .slice (some ⟨g, 0, none⟩) X.fs.length cp, .int .i64 (i : Int), PT g (i * 4), .agg #[.string f.nm, .slice f.q.p f.q.n f.q.cp, f.ov, .bool f.old], ε 13, ε 14, PT g (i * 4)] from rfl]
    simp only [List.map_cons, List.map_nil, fill, Kind.val, Act.put, sa, sz, ss]
  case hWz => kernel_rfl
  case h0z => exact ⟨fun _ => undef, bdr w4, (fun e => by cases e), (fun e => by cases e)⟩
  case hqz =>
    refine ⟨?_, ?_, ?_, ?_, ?_, ?_, ?_, ?_, ?_, ?_, ?_, ?_, ?_, ?_, ?_, ?_, trivial⟩
    · exact fun _ d ε u hJ => rfl
    · exact fun _ d ε u hJ => by clear hJ; go_simp
    · exact fun _ d ε u hJ => by clear hJ; go_simp
    · exact fun _ d ε u hJ => by (have hc := (HC.out u hJ.b).1); clear hJ; go_simp
    · exact fun _ d ε u hJ => rfl
    · exact fun _ d ε u hJ => rfl
    · exact fun _ d ε u hJ => rfl
    · exact fun _ d ε u hJ => by clear hJ; go_simp
    · exact fun _ d ε u hJ => by clear hJ; go_simp
    · exact fun _ d ε u hJ => by (have hc := (HC.out u hJ.b).1); clear hJ; go_simp
    · exact fun _ d ε u hJ => rfl
    · exact fun _ d ε u hJ => by clear hJ; go_simp
    · exact fun _ d ε u hJ => by (obtain ⟨_, c1, c2, c3, c4⟩ := (HC.out u hJ.b)); clear hJ; go_simp
    · exact fun h => absurd h (by decide)
    · exact fun h => absurd h (by decide)
    · exact fun _ d ε u hJ => by clear hJ; go_simp
  case hez =>
    rintro k ok hok hk d ε u hd hdep hJ
    have hk2 : k = 13 ∨ k = 14 := by simpa [sfe] using hk
    rcases hk2 with rfl | rfl
    · injection hok with hok
      subst hok
      have h14 : d 14 = false := by cases e : d 14 with | false => rfl | true => rw [(hJ.e e).1] at hd; cases hd
      refine .inr ⟨97, #[.agg #[.string f.nm, .slice f.q.p f.q.n f.q.cp, f.ov, .bool f.old]], exec_call rfl (fun _ _ => rfl) rfl (by simp only [List.map_toArray, List.map_cons, List.map_nil]; rfl), Calls.mono (rcontent_any f X.L HF.out HQ.out (by omega) u ((HB.out u hJ.b).ok f (List.mem_of_getElem? HI.out))) ?_⟩
      rintro e w5 ⟨v5, n5, P5, rfl, h5, h6⟩
      exact ⟨v5, rfl, hJ.b.trans (h5.cw.b.mono hJ.b.size), fun _ => ⟨n5, P5, by rw [upd_same]; exact ⟨⟨hJ.b.trans (h5.cw.b.mono hJ.b.size), own_base h5.cw.own hJ.b.size⟩, h5.rm⟩, h6⟩, fun e => by rw [upd_ne _ _ (by decide), h14] at e; cases e⟩
    · injection hok with hok
      subst hok
      have h13 := hdep 13 rfl (by kernel_rfl)
      obtain ⟨n5, P5, h5, h6⟩ := hJ.r h13
      obtain ⟨p5, c5, e5, _⟩ := own_slice h5.cw.own
      refine .inl ⟨_, u, ex_bf rfl rfl e5 rfl, hJ.b, fun _ => ⟨n5, P5, by rw [upd_ne _ _ (by decide)]; exact h5, h6⟩, fun _ => ⟨by rw [upd_ne _ _ (by decide)]; exact h13, by rw [upd_same, upd_ne _ _ (by decide), e5]⟩⟩
  case hendz =>
    rintro d ε u hall hJ
    obtain ⟨-, he14⟩ := hJ.e (hall 14 (by decide) rfl)
    obtain ⟨n5, P5, h5, h6⟩ := hJ.r (hall 13 (by decide) rfl)
    obtain ⟨q5, e5, hq5, hn5, hf5, hg5⟩ := h5.part
    have hX := HB.out u hJ.b
    have hlo : w.heap.size ≤ w4.heap.size := Nat.le_trans H2.out.2.1.size H4.out.size
    have hwh := hX.whole (i := i) (f := f) HI.out (show X.up.v = _ from HV.out) ⟨f.nm, q5, .slice none 0 0, [], true⟩ (gbl q5 ++ X.L) ⟨⟨hq5, fun x hx => List.mem_append_left _ hx⟩, World.ownsRow_nil _ _ _ _, fun x hx => by simp [vbl, Value.ownBlock] at hx, fun o ho => by cases ho⟩ (fun x hx => List.mem_append_right _ hx) (fun x hx => by
      rcases List.mem_append.1 hx with e | e
      · have := hg5 x e
        have h0 := H0.out
        exact .inr ⟨by omega, this.2, fun e2 => absurd (X4.out.lt x e2) (Nat.not_lt.2 this.1)⟩
      · exact .inl e)
    have HD : Hid (Dst w0 w X ⟨rpu X.rd.fs f.nm ⟨f.nm, f.rf.cn, [], true⟩, X.k + 1, X.rd.rf⟩ (wr4 u g (i * 4) ⟨f.nm, q5, .slice none 0 0, [], true⟩)) := by
      have hd := Dst.set (X1 := X.up) (u := u) (Dxw.below (Dxw.below H2.out H4.out) hJ.b) rfl rfl HI.out HR.out.st hwh.1 (hwh.2.mono fun x hx => .inl (by rw [List.mem_singleton.1 hx]; exact List.mem_cons_of_mem _ (List.mem_append_left _ (by rw [show X.up.v = _ from HV.out]; simp [vbl, Value.ownBlock])))) (fun x hx => by
        rcases List.mem_append.1 hx with e | e
        · exact .inr (Nat.le_trans hlo (hg5 x e).1)
        · exact .inl e)
      rw [show (⟨f.nm, q5, .slice none 0 0, [], true⟩ : Mf).rf = ⟨f.nm, f.rf.cn, [], true⟩ by unfold Mf.rf; dsimp only; rw [hn5, hf5, h6]; rfl] at hd
      exact hd
    obtain ⟨c0, c1, c2, c3, c4⟩ := HC.out u hJ.b
    have hrow := hX.row
    rw [show X.up.v = _ from HV.out] at hrow
    have z0 : u.frozen? ⟨g, i * 4, none⟩ = false := hrow.frozenAt _
    have z1 : u.frozen? ⟨g, i * 4 + 1, none⟩ = false := hrow.frozenAt _
    have z2 : u.frozen? ⟨g, i * 4 + 2, none⟩ = false := hrow.frozenAt _
    have z3 : u.frozen? ⟨g, i * 4 + 3, none⟩ = false := hrow.frozenAt _
    rw [e5] at he14
    clear hrow hX hJ h5 hwh hq5 hg5
    refine rest_at (l := [16]) rfl ?_
    refine rest_store (w' := wr4 u g (i * 4) ⟨f.nm, q5, .slice none 0 0, [], true⟩) rfl rfl rfl ?hst (rest_nil ?_)
    case hst =>
      rw [he14]
      unfold wr4
      go_simp
    clear c0 c1 c2 c3 c4 z0 z1 z2 z3
    go_wp2
    go_ret
    exact ⟨rfl, HD.out⟩
/-- Sync, whole. -/
theorem rsyn_any {w0 : World} {X : Dx} {i0 : Nat} (s : ByteArray) (hs : s.size ≤ 281474976710656)  (hi0 : i0 ≤ 800000) (hR : X.rd.Ok i0) (hn : X.n ≤ 100000)  (w : World) (h : Dxo w0 X w) (hw0 : w0.heap.size ≤ w.heap.size) :
    Calls Try.prog 55 #[PT X.m 0, .string s] w fun e w' => e = .returned (.int .i64 (X.rd.syn s).1) ∧ Dst w0 w X (X.rd.syn s).2 w' := by
  have hk : X.k < 1000000000 := by have := hR.k; have : X.k ≤ i0 := this; omega
  unfold Rdk.syn
  cases h1 : X.rd.no with
  | true => rw [if_pos rfl]; exact rsyn_no s hk hn h1 w h
  | false =>
    rw [if_neg (by decide)]
    cases h3 : X.rd.lk s with
    | none => exact rsyn_miss s hs hi0 hR hn h1 h3 w h hw0
    | some fr => exact rsyn_hit s hs hi0 hR hn h1 fr h3 w h hw0
end Wi
end Rg
end Go.Proofs.Ytidicdlfjdlpnaa
end
section
namespace Go.Proofs.Ytidicdlfjdlpnaa
open Go.RowKit
namespace Rg
namespace Wi
set_option maxRecDepth 100000
theorem own_some {w : World} {B e sz n c : Nat} {p : Option Addr} {xs : List Value} (h : w.ownsRow B e sz (.slice p n c) n xs) (hn : 0 < n) : ∃ g, p = some ⟨g, 0, none⟩ := by
  rcases h.2 with ⟨_, h0⟩ | ⟨g, _, _, h1, _⟩
  · omega
  · injection h1 with h1
    exact ⟨g, h1⟩
def fx (a r : Nat) : Nat := (bits .xor .u8 (a : Int) (2 ^ r % 256)).toNat
theorem fx_eq (a r : Nat) : bits .xor .u8 (a : Int) (2 ^ r % 256) = ((fx a r : Nat) : Int) := by
  have h : 0 ≤ bits .xor .u8 (a : Int) (2 ^ r % 256) := by
    unfold bits
    exact Int.emod_nonneg _ (by decide)
  unfold fx
  omega
def flp (l : List Nat) (c : Nat) : List Nat := l.set (c / 8) (fx (l.getD (c / 8) 0) (c % 8))
theorem flp_bs {n c : Nat} (f : Nat → Nat) (h : c / 8 < n) : flp (bs n f) c = bs n fun k => if k = c / 8 then fx (f (c / 8)) (c % 8) else f k := by
  have e : (bs n f).getD (c / 8) 0 = f (c / 8) := by rw [List.getD_eq_getElem?_getD]; unfold bs; rw [List.getElem?_map, List.getElem?_range h]; rfl
  unfold flp
  rw [e]
  apply List.ext_getElem?
  intro k
  by_cases hk : k < n
  · by_cases hc : k = c / 8
    · rw [hc, List.getElem?_set_self (by rw [bs_len]; exact h)]
      unfold bs
      rw [List.getElem?_map, List.getElem?_range h]
      simp
    · rw [List.getElem?_set_ne (fun x => hc x.symm)]
      unfold bs
      rw [List.getElem?_map, List.getElem?_map, List.getElem?_range hk]
      simp [hc]
  · rw [List.getElem?_eq_none (by rw [List.length_set, bs_len]; omega), List.getElem?_eq_none (by rw [bs_len]; omega)]
def Rdk.spo (R : Rdk) (s : ByteArray) (c : Int) : Int × Rdk := match R.lk s with
  | none => (6, R)
  | some f => if f.ops ≠ [] then (10, R) else if c < 0 ∨ f.sf.length ≤ c.toNat / 8 then (2, R) else (0, ⟨rpu R.fs s ⟨f.nm, flp f.sf c.toNat, [], f.old⟩, R.k, R.rf⟩)
theorem Dst.same {w0 w w' : World} {X : Dx} (h : Dxo w0 X w) (hb : Below w.heap.size w w') : Dst w0 w X X.rd w' := ⟨X, rfl, rfl, rfl, Dxw.of h hb⟩
set_option maxHeartbeats 2000000 in
theorem rspo_miss {w0 : World} {X : Dx} {i0 : Nat} (s : ByteArray) (c : Int) (hR : X.rd.Ok i0) (hlk : X.rd.lk s = none) (w : World) (h : Dxo w0 X w) :
    Calls Try.prog 60 #[PT X.m 0, .string s, .int .i64 c] w fun e w' => e = .returned (.int .i64 6) ∧ Dst w0 w X X.rd w' := by
  have hn64 : X.fs.length ≤ 64 := by have := hR.n; simpa [Dx.rd] using this
  have HM : Hid _ := find_no hlk
  have X3 : Hid _ := h
  clear h hlk hR
  go_enter Try.func60, Try.ntmps60
  go_wp2_with (first
    | (go_at_call 96; refine Calls.mono (rat_miss (X := X) s HM.out (show X.fs.length ≤ 100000 by omega) _ X3.out) ?_; rintro e w4 ⟨rfl, h4⟩; have H4 : Hid _ := h4; have X4 : Hid _ := X3.out.below h4; clear h4)
    | fail)
  go_ret
  exact ⟨rfl, Dst.same X3.out H4.out⟩
set_option maxHeartbeats 2000000 in
theorem rspo_busy {w0 : World} {X : Dx} {i0 : Nat} (s : ByteArray) (c : Int) (_hi0 : i0 ≤ 800000) (hR : X.rd.Ok i0) (fr : Rf) (hlk : X.rd.lk s = some fr) (hb : fr.ops ≠ []) (w : World) (h : Dxo w0 X w) :
    Calls Try.prog 60 #[PT X.m 0, .string s, .int .i64 c] w fun e w' => e = .returned (.int .i64 10) ∧ Dst w0 w X X.rd w' := by
  obtain ⟨i, f, hi, rfl, rfl, hmin⟩ := find_at hlk
  have hil := (List.getElem?_eq_some_iff.1 hi).1
  have hfr : f.rf ∈ X.rd.fs := List.mem_map_of_mem (List.mem_of_getElem? hi)
  have hn64 : X.fs.length ≤ 64 := by have := hR.n; simpa [Dx.rd] using this
  have hcl : f.rf.cn.length ≤ 1048576 := hR.cnl hfr
  have hol : f.ops.length ≤ i0 := by have := hR.ol _ hfr; simpa [Mf.rf] using this
  have HF : Hid _ := hR.ft _ hfr
  have HQ : Hid (∀ o ∈ f.ops, o.q.n ≤ 1048576) := fun o ho => by
    have := hR.ob _ hfr o.ro (List.mem_map_of_mem ho)
    simpa [Mo.ro, bs_len] using this
  have HI : Hid _ := hi
  have HM : Hid _ := hmin
  have HR : Hid _ := hR
  have X3 : Hid _ := h
  have hlen : 0 < f.ops.length := List.length_pos_iff.2 fun e => hb (f.ops_nil.2 e)
  obtain ⟨po, co, hov, hco⟩ := own_slice (h.ok f (List.mem_of_getElem? hi)).ow
  have HOV : Hid _ := hov
  clear h hlk hR hi hmin hfr hb hov
  go_enter Try.func60, Try.ntmps60
  go_wp2_with (first
    | (go_at_call 96; refine Calls.mono (rat_hit (X := X) f.nm i f HI.out rfl HM.out (show X.fs.length ≤ 100000 by omega) _ X3.out) ?_; rintro e w4 ⟨rfl, h4⟩; have H4 : Hid _ := h4; have X4 : Hid _ := X3.out.below h4; obtain ⟨g, cp, hv, hcp, k0, k1, k2, k3⟩ := (X3.out.below h4).at (i := i) (f := f) HI.out; have c0 : w4.cell? ⟨X.m, 0, none⟩ = some X.v := (X3.out.below h4).c0; have hv : X.v = .slice (some ⟨g, 0, none⟩) X.fs.length cp := hv; have fok : Hid _ := (X3.out.below h4).ok f (List.mem_of_getElem? HI.out); have HV : Hid _ := hv; rw [hv] at c0; rw [HOV.out] at k2; clear h4 hv)
    | fail)
  go_ret
  exact ⟨rfl, Dst.same X3.out H4.out⟩
set_option maxHeartbeats 2000000 in
theorem rspo_neg {w0 : World} {X : Dx} {i0 : Nat} (s : ByteArray) (c : Int) (_hi0 : i0 ≤ 800000) (hR : X.rd.Ok i0) (fr : Rf) (hlk : X.rd.lk s = some fr) (hb : fr.ops = []) (hc : c < 0) (w : World) (h : Dxo w0 X w) :
    Calls Try.prog 60 #[PT X.m 0, .string s, .int .i64 c] w fun e w' => e = .returned (.int .i64 2) ∧ Dst w0 w X X.rd w' := by
  obtain ⟨i, f, hi, rfl, rfl, hmin⟩ := find_at hlk
  have hil := (List.getElem?_eq_some_iff.1 hi).1
  have hfr : f.rf ∈ X.rd.fs := List.mem_map_of_mem (List.mem_of_getElem? hi)
  have hn64 : X.fs.length ≤ 64 := by have := hR.n; simpa [Dx.rd] using this
  have hcl : f.rf.cn.length ≤ 1048576 := hR.cnl hfr
  have hol : f.ops.length ≤ i0 := by have := hR.ol _ hfr; simpa [Mf.rf] using this
  have HF : Hid _ := hR.ft _ hfr
  have HQ : Hid (∀ o ∈ f.ops, o.q.n ≤ 1048576) := fun o ho => by
    have := hR.ob _ hfr o.ro (List.mem_map_of_mem ho)
    simpa [Mo.ro, bs_len] using this
  have HI : Hid _ := hi
  have HM : Hid _ := hmin
  have HR : Hid _ := hR
  have X3 : Hid _ := h
  have hlen : f.ops.length = 0 := by rw [f.ops_nil.1 hb]; rfl
  obtain ⟨po, co, hov, hco⟩ := own_slice (h.ok f (List.mem_of_getElem? hi)).ow
  rw [hlen] at hov
  clear h hlk hR hi hmin hfr hb
  go_enter Try.func60, Try.ntmps60
  go_wp2_with (first
    | (go_at_call 96; refine Calls.mono (rat_hit (X := X) f.nm i f HI.out rfl HM.out (show X.fs.length ≤ 100000 by omega) _ X3.out) ?_; rintro e w4 ⟨rfl, h4⟩; have H4 : Hid _ := h4; have X4 : Hid _ := X3.out.below h4; obtain ⟨g, cp, hv, hcp, k0, k1, k2, k3⟩ := (X3.out.below h4).at (i := i) (f := f) HI.out; have c0 : w4.cell? ⟨X.m, 0, none⟩ = some X.v := (X3.out.below h4).c0; have hv : X.v = .slice (some ⟨g, 0, none⟩) X.fs.length cp := hv; have fok : Hid _ := (X3.out.below h4).ok f (List.mem_of_getElem? HI.out); have HV : Hid _ := hv; rw [hv] at c0; rw [hov] at k2; clear h4 hv)
    | fail)
  go_ret
  exact ⟨rfl, Dst.same X3.out H4.out⟩
set_option maxHeartbeats 2000000 in
theorem rspo_far {w0 : World} {X : Dx} {i0 : Nat} (s : ByteArray) (c : Nat) (_hi0 : i0 ≤ 800000) (hR : X.rd.Ok i0) (fr : Rf) (hlk : X.rd.lk s = some fr) (hb : fr.ops = []) (hc0 : c < 9223372036854775808) (hc : fr.sf.length ≤ c / 8) (w : World) (h : Dxo w0 X w) :
    Calls Try.prog 60 #[PT X.m 0, .string s, .int .i64 (c : Int)] w fun e w' => e = .returned (.int .i64 2) ∧ Dst w0 w X X.rd w' := by
  obtain ⟨i, f, hi, rfl, rfl, hmin⟩ := find_at hlk
  have hil := (List.getElem?_eq_some_iff.1 hi).1
  have hfr : f.rf ∈ X.rd.fs := List.mem_map_of_mem (List.mem_of_getElem? hi)
  have hn64 : X.fs.length ≤ 64 := by have := hR.n; simpa [Dx.rd] using this
  have hcl : f.rf.cn.length ≤ 1048576 := hR.cnl hfr
  have hol : f.ops.length ≤ i0 := by have := hR.ol _ hfr; simpa [Mf.rf] using this
  have HF : Hid _ := hR.ft _ hfr
  have HQ : Hid (∀ o ∈ f.ops, o.q.n ≤ 1048576) := fun o ho => by
    have := hR.ob _ hfr o.ro (List.mem_map_of_mem ho)
    simpa [Mo.ro, bs_len] using this
  have HI : Hid _ := hi
  have HM : Hid _ := hmin
  have HR : Hid _ := hR
  have X3 : Hid _ := h
  have hlen : f.ops.length = 0 := by rw [f.ops_nil.1 hb]; rfl
  obtain ⟨po, co, hov, hco⟩ := own_slice (h.ok f (List.mem_of_getElem? hi)).ow
  rw [hlen] at hov
  have hqn : f.q.n ≤ c / 8 := by have e : f.rf.sf.length = f.q.n := bs_len ..; omega
  clear h hlk hR hi hmin hfr hb hc
  go_enter Try.func60, Try.ntmps60
  go_wp2_with (first
    | (go_at_call 96; refine Calls.mono (rat_hit (X := X) f.nm i f HI.out rfl HM.out (show X.fs.length ≤ 100000 by omega) _ X3.out) ?_; rintro e w4 ⟨rfl, h4⟩; have H4 : Hid _ := h4; have X4 : Hid _ := X3.out.below h4; obtain ⟨g, cp, hv, hcp, k0, k1, k2, k3⟩ := (X3.out.below h4).at (i := i) (f := f) HI.out; have c0 : w4.cell? ⟨X.m, 0, none⟩ = some X.v := (X3.out.below h4).c0; have hv : X.v = .slice (some ⟨g, 0, none⟩) X.fs.length cp := hv; have fok : Hid _ := (X3.out.below h4).ok f (List.mem_of_getElem? HI.out); have HV : Hid _ := hv; rw [hv] at c0; rw [hov] at k2; clear h4 hv)
    | fail)
  go_ret
  exact ⟨rfl, Dst.same X3.out H4.out⟩
set_option maxHeartbeats 2000000 in
theorem rspo_ok {w0 : World} {X : Dx} {i0 : Nat} (s : ByteArray) (c : Nat) (_hi0 : i0 ≤ 800000) (hR : X.rd.Ok i0) (fr : Rf) (hlk : X.rd.lk s = some fr) (hb : fr.ops = []) (hc : c / 8 < fr.sf.length) (w : World) (h : Dxo w0 X w) (hw0 : w0.heap.size ≤ w.heap.size) :
    Calls Try.prog 60 #[PT X.m 0, .string s, .int .i64 (c : Int)] w fun e w' => e = .returned (.int .i64 0) ∧ Dst w0 w X ⟨rpu X.rd.fs s ⟨fr.nm, flp fr.sf c, [], fr.old⟩, X.k, X.rd.rf⟩ w' := by
  obtain ⟨i, f, hi, rfl, rfl, hmin⟩ := find_at hlk
  have hil := (List.getElem?_eq_some_iff.1 hi).1
  have hfr : f.rf ∈ X.rd.fs := List.mem_map_of_mem (List.mem_of_getElem? hi)
  have hn64 : X.fs.length ≤ 64 := by have := hR.n; simpa [Dx.rd] using this
  have hcl : f.rf.cn.length ≤ 1048576 := hR.cnl hfr
  have hol : f.ops.length ≤ i0 := by have := hR.ol _ hfr; simpa [Mf.rf] using this
  have HF : Hid _ := hR.ft _ hfr
  have HQ : Hid (∀ o ∈ f.ops, o.q.n ≤ 1048576) := fun o ho => by
    have := hR.ob _ hfr o.ro (List.mem_map_of_mem ho)
    simpa [Mo.ro, bs_len] using this
  have HI : Hid _ := hi
  have HM : Hid _ := hmin
  have HR : Hid _ := hR
  have X3 : Hid _ := h
  have hlen : f.ops.length = 0 := by rw [f.ops_nil.1 hb]; rfl
  have HOPS : Hid _ := f.ops_nil.1 hb
  obtain ⟨po, co, hov, hco⟩ := own_slice (h.ok f (List.mem_of_getElem? hi)).ow
  rw [hlen] at hov
  have hsl : f.rf.sf.length = f.q.n := bs_len ..
  have hqn : c / 8 < f.q.n := by omega
  have hq1 : f.q.n ≤ 1048576 := by rw [← hsl]; exact HF.out 0 (Nat.zero_le _)
  have H0 : Hid _ := hw0
  have HSL : Hid _ := hsl
  clear h hlk hR hw0 hi hmin hfr hb hc hsl
  go_enter Try.func60, Try.ntmps60
  go_wp2_with (first
    | (go_at_call 96; refine Calls.mono (rat_hit (X := X) f.nm i f HI.out rfl HM.out (show X.fs.length ≤ 100000 by omega) _ X3.out) ?_; rintro e w4 ⟨rfl, h4⟩; have H4 : Hid _ := h4; have X4 : Hid _ := X3.out.below h4; obtain ⟨g, cp, hv, hcp, k0, k1, k2, k3⟩ := (X3.out.below h4).at (i := i) (f := f) HI.out; have c0 : w4.cell? ⟨X.m, 0, none⟩ = some X.v := (X3.out.below h4).c0; have hv : X.v = .slice (some ⟨g, 0, none⟩) X.fs.length cp := hv; have fok : Hid _ := (X3.out.below h4).ok f (List.mem_of_getElem? HI.out); have HV : Hid _ := hv; rw [hv] at c0; rw [hov] at k2
       obtain ⟨v5, w5, hr5, h5⟩ := copy_r (u := w4) (q := f.q) fok.out.q.1 (by omega) 34
       obtain ⟨p5, c5, rfl, hle5⟩ := own_slice h5.cw.own
       have ha : Below w4.heap.size w4 (w4.alloc (.cells #[] 5)) := (Below.refl _ _).alloc (Nat.le_refl _) _
       have Xa := X4.out.below ha
       have c0a : (w4.alloc (.cells #[] 5)).cell? ⟨X.m, 0, none⟩ = some (.slice (some ⟨g, 0, none⟩) X.fs.length cp) := by { rw [← hv]; exact Xa.c0 }
       have hgl : g < w4.heap.size := X4.out.lt g (List.mem_cons_of_mem _ (List.mem_append_left _ (by rw [hv]; simp [vbl, Value.ownBlock])))
       have hml : X.m < w4.heap.size := X4.out.lt _ (List.mem_cons_self ..)
       have k1a : (w4.alloc (.cells #[] 5)).cell? ⟨g, i * 4 + 1, none⟩ = some (.slice f.q.p f.q.n f.q.cp) := (ha.cell (p := ⟨g, i * 4 + 1, none⟩) hgl).trans k1
       have X5 := X4.out.below h5.cw.b
       have c05 : w5.cell? ⟨X.m, 0, none⟩ = some (.slice (some ⟨g, 0, none⟩) X.fs.length cp) := by { rw [← hv]; exact X5.c0 }
       have k15 : w5.cell? ⟨g, i * 4 + 1, none⟩ = some (.slice f.q.p f.q.n f.q.cp) := (h5.cw.b.cell (p := ⟨g, i * 4 + 1, none⟩) hgl).trans k1
       have z15 : w5.frozen? ⟨g, i * 4 + 1, none⟩ = false := by { have hrow := X5.row; rw [hv] at hrow; exact hrow.frozenAt _ }
       obtain ⟨g5, hp5⟩ := own_some h5.cw.own (by omega)
       subst hp5
       have b5 : w5.cell? ⟨g5, c / 8, none⟩ = some (Z8 (f.q.f (c / 8))) := by { rw [h5.cw.own.cellAt (c / 8) (by omega), ints_get _ _ hqn] }
       have z5 : w5.frozen? ⟨g5, c / 8, none⟩ = false := h5.cw.own.frozenAt _
       have g5l : w4.heap.size ≤ g5 := (World.ownsRow.lt h5.cw.own g5 rfl).1
       have n1 : X.m ≠ g5 := by omega
       have n2 : g ≠ g5 := by omega
       obtain ⟨j, hj⟩ : ∃ j, c / 8 = j := ⟨_, rfl⟩
       obtain ⟨r, hr⟩ : ∃ r, c % 8 = r := ⟨_, rfl⟩
       have hr8 : r < 8 := by omega
       have hjI : ((c : Int) / 8) = (j : Int) := by omega
       have hrI : ((c : Int) % 8) = (r : Int) := by omega
       rw [hj] at b5 z5 hqn
       have HJ : Hid _ := hj; have HRR : Hid _ := hr
       have HR5 : Hid _ := hr5; have H5 : Hid _ := h5; have HV5 : Hid _ := hv; have HX5 : Hid _ := X5
       clear h4 hv hr5 h5 ha Xa X5 hj hr k0 k3)
    | (at_builtin; refine wpl_app rfl _ _ 34 rfl (.slice (some ⟨w4.heap.size, 0, none⟩) 0 0) (.slice f.q.p f.q.n f.q.cp) (.slice (some ⟨g5, 0, none⟩) f.q.n c5) rfl rfl HR5.out ?_)
    | fail)
  clear c0a k1a c0 k1 k2
  go_region
  rw [fx_eq]
  obtain ⟨x, hx⟩ : ∃ x, fx (f.q.f j) r = x := ⟨_, rfl⟩
  obtain ⟨w6, hw6⟩ : ∃ w6, (w5.setCell ⟨g5, j, none⟩ (.int .u8 ((fx (f.q.f j) r : Nat) : Int))).drew = w6 := ⟨_, rfl⟩
  rw [hw6]
  rw [hx] at hw6
  have hc6 : Chg [g5] w5 w6 := by rw [← hw6]; exact (chg_setc g5 j w5 (.int .u8 (x : Int))).below (bdr _)
  have h5s := H5.out.cw.b.size
  have hg5b : g5 ∉ X.bl := fun e => absurd (X4.out.lt g5 e) (Nat.not_lt.2 g5l)
  have X6 : Dxo w0 X w6 := by rw [← hw6]; exact (HX5.out.setc _ hg5b).below (bdr _)
  have c06 : w6.cell? ⟨X.m, 0, none⟩ = some (.slice (some ⟨g, 0, none⟩) X.fs.length cp) := by rw [← HV5.out]; exact X6.c0
  have k16 : w6.cell? ⟨g, i * 4 + 1, none⟩ = some (.slice f.q.p f.q.n f.q.cp) := (hc6.cell (p := ⟨g, i * 4 + 1, none⟩) (by (show g < w5.heap.size); omega) (by simpa using n2)).trans k15
  have z16 : w6.frozen? ⟨g, i * 4 + 1, none⟩ = false := (hc6.frozen (p := ⟨g, i * 4 + 1, none⟩) (by (show g < w5.heap.size); omega) (by simpa using n2)).trans z15
  have g5s : g5 < w5.heap.size := own_lt H5.out.cw.own g5 (by simp [vbl, Value.ownBlock])
  have hPq : Pq ⟨g5, 0, f.q.n, c5, some ⟨g5, 0, none⟩, fun k => if k = j then x else f.q.f k⟩ w6 := by
    refine ⟨⟨⟨fun _ => by simp, fun e => absurd e (by (show ¬(0 = f.q.n)); omega)⟩, hle5⟩, fun e => (by cases e), fun _ => Nat.lt_of_lt_of_le g5s hc6.size, fun k hk => ?_⟩
    have hk : k < f.q.n := hk
    show w6.cell? ⟨g5, 0 + k, none⟩ = some (Z8 (if k = j then x else f.q.f k))
    rw [Nat.zero_add, ← hw6]
    show (w5.setCell ⟨g5, j, none⟩ (.int .u8 (x : Int))).cell? ⟨g5, k, none⟩ = _
    by_cases e : k = j
    · subst e
      rw [if_pos rfl]
      exact World.cell?_setCell_same _ _ _ b5
    · rw [if_neg e]
      refine (World.cell?_setCell_other _ _ _ _ (by simp)).trans ?_
      have := H5.out.cw.own.cellAt k (by omega)
      rw [ints_get _ _ hk] at this
      exact this
  have hfo := H5.out.cw.b
  have hok := (X6.ok f (List.mem_of_getElem? HI.out)).mono (L' := g5 :: X.L) fun x hx => List.mem_cons_of_mem _ hx
  have hcell := X6.cell (j := 1) HI.out HV5.out (.slice (some ⟨g5, 0, none⟩) f.q.n c5) (f' := ⟨f.nm, ⟨g5, 0, f.q.n, c5, some ⟨g5, 0, none⟩, fun k => if k = j then x else f.q.f k⟩, f.ov, f.ops, f.old⟩) (by decide) rfl (g5 :: X.L) ⟨⟨hPq, fun y hy => by
    unfold gbl at hy
    split at hy
    · cases hy
    · rw [List.mem_singleton.1 hy]; exact List.mem_cons_self ..⟩, hok.ow, hok.ob, hok.op⟩ (fun y hy => List.mem_cons_of_mem _ hy) (fun y hy => by
    rcases List.mem_cons.1 hy with e | e
    · subst e
      have h0 := H0.out
      have h4 := H4.out.size
      exact .inr ⟨by omega, Nat.lt_of_lt_of_le g5s hc6.size, hg5b⟩
    · exact .inl e)
  have HD : Hid (Dst w0 w X ⟨rpu X.rd.fs f.nm ⟨f.nm, flp f.rf.sf c, [], f.old⟩, X.k, X.rd.rf⟩ (w6.setCell ⟨g, i * 4 + 1, none⟩ (.slice (some ⟨g5, 0, none⟩) f.q.n c5))) := by
    have h0 : Dxw w0 w X X w6 := ⟨X6, (Chg.of (H4.out.trans (hfo.mono H4.out.size))).trans hc6 fun y hy => .inr (by rw [List.mem_singleton.1 hy]; have := H4.out.size; omega), fun _ hy => .inl hy⟩
    have hd := Dst.set (X1 := X) (u := w6) h0 rfl rfl HI.out HR.out.st hcell.1 (hcell.2.mono fun y hy => .inl (by rw [List.mem_singleton.1 hy]; exact List.mem_cons_of_mem _ (List.mem_append_left _ (by rw [HV5.out]; simp [vbl, Value.ownBlock])))) (fun y hy => by
      rcases List.mem_cons.1 hy with e | e
      · subst e; have := H4.out.size; exact .inr (by omega)
      · exact .inl e)
    have e1 : flp f.rf.sf c = bs f.q.n fun k => if k = j then x else f.q.f k := by
      rw [← hx, ← HJ.out, ← HRR.out]
      exact flp_bs f.q.f (by rw [HJ.out]; exact hqn)
    have e2 : (⟨f.nm, ⟨g5, 0, f.q.n, c5, some ⟨g5, 0, none⟩, fun k => if k = j then x else f.q.f k⟩, f.ov, f.ops, f.old⟩ : Mf).rf = ⟨f.nm, flp f.rf.sf c, [], f.old⟩ := by
      rw [e1]
      unfold Mf.rf
      dsimp only
      rw [HOPS.out]
      rfl
    rw [e2] at hd
    exact hd
  clear hcell hok hfo hPq X6 hc6 hw6 hx b5 z5 c05 k15 z15
  go_wp2
  go_ret
  exact ⟨rfl, HD.out⟩
/-- Spoil, whole. -/
theorem rspo_any {w0 : World} {X : Dx} {i0 : Nat} (s : ByteArray) (c : Int) (hc : c < 9223372036854775808) (hi0 : i0 ≤ 800000) (hR : X.rd.Ok i0)  (w : World) (h : Dxo w0 X w) (hw0 : w0.heap.size ≤ w.heap.size) :
    Calls Try.prog 60 #[PT X.m 0, .string s, .int .i64 c] w fun e w' => e = .returned (.int .i64 (X.rd.spo s c).1) ∧ Dst w0 w X (X.rd.spo s c).2 w' := by
  unfold Rdk.spo
  cases h3 : X.rd.lk s with
  | none => exact rspo_miss s c hR h3 w h
  | some fr =>
    dsimp only
    by_cases c1 : fr.ops = []
    · rw [if_neg (fun e => e c1)]
      by_cases c2 : c < 0
      · rw [if_pos (.inl c2)]
        exact rspo_neg s c hi0 hR fr h3 c1 c2 w h
      · obtain ⟨m, rfl⟩ : ∃ m : Nat, c = m := ⟨c.toNat, by omega⟩
        rw [Int.toNat_natCast]
        by_cases c3 : fr.sf.length ≤ m / 8
        · rw [if_pos (.inr c3)]
          exact rspo_far s m hi0 hR fr h3 c1 (by omega) c3 w h
        · rw [if_neg (by omega)]
          exact rspo_ok s m hi0 hR fr h3 c1 (by omega) w h hw0
    · rw [if_pos c1]
      exact rspo_busy s c hi0 hR fr h3 c1 w h
theorem Rdk.Ok.spo {R : Rdk} {i : Nat} (h : R.Ok i) (s : ByteArray) (c : Int) : (R.spo s c).2.Ok (i + 1) := by
  have h0 : R.Ok (i + 1) := ⟨by have := h.k; omega, h.n, h.st, h.ft, fun f hf => by have := h.ol f hf; omega, h.ob⟩
  unfold Rdk.spo
  split
  · exact h0
  · rename_i f e
    have hm := Rdk.mem e
    split
    · exact h0
    · split
      · exact h0
      · have h1 := Rdk.Ok.put h (s := s) (f := ⟨f.nm, flp f.sf c.toNat, [], f.old⟩) hm.2 (fun j _ => by simp [rct, flp]; exact h.ft f hm.1 0 (Nat.zero_le _)) (Nat.zero_le _) (fun o ho => by cases ho)
        exact ⟨by have := h.k; (show R.k ≤ i + 1); omega, h1.n, h1.st, h1.ft, h1.ol, h1.ob⟩
end Wi
end Rg
end Go.Proofs.Ytidicdlfjdlpnaa
end
section
namespace Go.Proofs.Ytidicdlfjdlpnaa
open Go.RowKit
namespace Rg
namespace Wi
set_option maxRecDepth 100000
theorem info_num : ∃ i, Try.prog.info? 3 = some i ∧ i.zero = some (.int .i64 0) ∧ i.size = 1 ∧ i.bytes = 8 := by
  have h : (Try.prog.info? 3).map (fun i => (i.zero, i.size, i.bytes)) = some (some (.int .i64 0), 1, 8) := by kernel_rfl
  cases hi : Try.prog.info? 3 with
  | none => rw [hi] at h; simp at h
  | some i =>
    rw [hi] at h
    simp at h
    exact ⟨i, rfl, h.1, h.2.1, h.2.2⟩
/-- Numbers as cells. -/
def ivs (F : Nat → Int) (n : Nat) : List Value := (List.range n).map fun i => .int .i64 (F i)
theorem ivs_len (F : Nat → Int) (n : Nat) : (ivs F n).length = n := by simp [ivs]
theorem ivs_get {F : Nat → Int} {n i : Nat} (h : i < n) : (ivs F n)[i]? = some (.int .i64 (F i)) := by
  unfold ivs
  rw [List.getElem?_map, List.getElem?_range h]
  rfl
theorem ivs_set {F : Nat → Int} {n i : Nat} (x : Int) (h : i < n) : (ivs F n).set i (.int .i64 x) = ivs (fun j => if j = i then x else F j) n := by
  apply List.ext_getElem?
  intro j
  by_cases hj : j < n
  · rw [ivs_get hj]
    by_cases e : j = i
    · subst e
      rw [List.getElem?_set_self (by rw [ivs_len]; exact h), if_pos rfl]
    · rw [List.getElem?_set_ne (fun x => e x.symm), ivs_get hj, if_neg e]
  · rw [List.getElem?_eq_none (by rw [List.length_set, ivs_len]; omega), List.getElem?_eq_none (by rw [ivs_len]; omega)]
/-- A copy of numbers: append([]int{}, l...). -/
theorem copy_i {u : World} {p : Option Addr} {n c g o : Nat} {F : Nat → Int} (hn : n ≤ 100000) (hp : 0 < n → p = some ⟨g, o, none⟩) (hp0 : p = none → n = 0 ∧ c = 0) (hlt : 0 < n → g < u.heap.size) (hr : ∀ i, i < n → u.cell? ⟨g, o + i, none⟩ = some (.int .i64 (F i))) (ty : TypeId) :
    ∃ v' u2, (Builtin.append_ #[22, 22] ty #[.slice (some ⟨u.heap.size, 0, none⟩) 0 0, .slice p n c]).run Try.prog (u.alloc (.cells #[] 3)) = .ok v' u2 ∧ u2.ownsRow u.heap.size 3 1 v' n (ivs F n) ∧ Below u.heap.size u u2 := by
  obtain ⟨i0, hi, hz0, hz1, hz2⟩ := info_num
  have h0 : (u.alloc (.cells #[] 3)).ownsRow u.heap.size 3 1 (.slice (some ⟨u.heap.size, 0, none⟩) 0 0) 0 [] := World.ownsRow_made _ _ 0 (Nat.le_refl _) (by decide) rfl
  have hb0 : Below u.heap.size u (u.alloc (.cells #[] 3)) := (Below.refl _ u).alloc (Nat.le_refl _) _
  cases p with
  | none =>
    obtain ⟨rfl, rfl⟩ := hp0 rfl
    exact ⟨_, _, run_append_owned_none (P := Try.prog) (w := u.alloc (.cells #[] 3)) u.heap.size 22 ty 3 i0 1 Try.underlying22 hi (.slice (some ⟨u.heap.size, 0, none⟩) 0 0) 0 _ h0, h0, hb0⟩
  | some a =>
    obtain ⟨v', w2, h1, h2, h3, _, h5⟩ := run_append_own_at (P := Try.prog) (u.alloc (.cells #[] 3)) u.heap.size 22 ty 3 i0 (.int .i64 0) 1 8 Try.underlying22 hi hz0 hz1 hz2 rfl (by decide) _ 0 [] h0 a n c (ivs F n) (by rw [ivs_len]; omega) (fun j x hj => by
      have hjn : j < n := by
        have := (List.getElem?_eq_some_iff.1 hj).1
        rwa [ivs_len] at this
      rw [ivs_get hjn] at hj
      have ea := hp (by omega)
      injection ea with ea
      rw [ea, show (⟨g, o, none⟩ : Addr).add j = ⟨g, o + j, none⟩ by unfold Addr.add; split <;> simp_all]
      exact (hb0.cell (p := ⟨g, o + j, none⟩) (hlt (by omega))).trans ((hr j hjn).trans hj)) (fun x hx => by
      unfold ivs at hx
      obtain ⟨j, _, rfl⟩ := List.mem_map.1 hx
      rfl) (by unfold maxLen; omega) (by omega) (by simp)
    rw [Nat.zero_add, List.nil_append] at h2
    exact ⟨v', w2, h1, h2, hb0.trans ((Chg.grown h3).toBelow (fun x hx => by simp [Value.ownBlock] at hx; omega) (by simp))⟩
set_option maxHeartbeats 2000000 in
theorem rnew_long (p : Option Addr) (n cp : Nat) (hn : 4096 < n) (w : World) :
    Calls Try.prog 15 #[.slice p n cp] w fun e w' => e = .returned (.tuple #[.pointer none, .int .i64 3]) ∧ Below w.heap.size w w' := by
  go_enter Try.func15, Try.ntmps15
  go_wp2
  go_ret2
  exact ⟨rfl, Below.refl _ _⟩
set_option maxHeartbeats 2000000 in
/-- The document's disk is made. -/
theorem rnew_ok {w0 : World} (p : Option Addr) (n cp g o : Nat) (F : Nat → Int) (hn : n ≤ 4096) (hp : 0 < n → p = some ⟨g, o, none⟩) (hp0 : p = none → n = 0 ∧ cp = 0) (w : World) (hlt : 0 < n → g < w.heap.size) (hr : ∀ i, i < n → w.cell? ⟨g, o + i, none⟩ = some (.int .i64 (F i))) (hw0 : w0.heap.size ≤ w.heap.size) :
    Calls Try.prog 15 #[.slice p n cp] w fun e w' => ∃ X, e = .returned (.tuple #[PT X.m 0, .int .i64 0]) ∧ X.rd = ⟨[], 0, rff F n⟩ ∧ X.n = n ∧ Dxo w0 X w' ∧ Below w.heap.size w w' := by
  obtain ⟨v1, u1, hr1, ho1, hb1⟩ := copy_i (u := w) (show n ≤ 100000 by omega) hp hp0 hlt hr 22
  obtain ⟨p1, c1, rfl, hle1⟩ := own_slice ho1
  have HR : Hid _ := hr1
  have HO : Hid _ := ho1
  have HB : Hid _ := hb1
  have HW : Hid _ := hw0
  clear hr1 ho1 hb1 hp hp0 hlt hr hw0
  go_enter Try.func15, Try.ntmps15
  go_wp2_with (first
    | (at_builtin; refine wpl_app rfl _ _ 22 rfl (.slice (some ⟨w.heap.size, 0, none⟩) 0 0) (.slice p n cp) (.slice p1 n c1) rfl rfl HR.out ?_)
    | fail)
  go_ret2
  have hb := HB.out.alloc HB.out.size (.cells #[.slice none 0 0, .slice p1 n c1, .int .i64 0] 103)
  have h0 := HW.out
  have hsz := HB.out.size
  have hbx : ∀ i, (u1.alloc (.cells #[.slice none 0 0, .slice p1 n c1, .int .i64 0] 103)).cell? ⟨u1.heap.size, i, none⟩ = (#[.slice none 0 0, .slice p1 n c1, .int .i64 0] : Array Value)[i]? := fun i => box_at ..
  rcases Nat.eq_zero_or_pos n with e | hpos
  · subst e
    refine ⟨⟨u1.heap.size, .slice none 0 0, p1, 0, c1, 0, F, [], 0, []⟩, rfl, rfl, rfl, ⟨hbx 0, hbx 1, hbx 2, fun k => World.frozen?_alloc_at _ _ _ _ rfl, World.ownsRow_nil _ _ _ _, fun f hf => (by cases hf), fun h => absurd h (Nat.lt_irrefl _), fun i hi => absurd hi (Nat.not_lt_zero _), fun x hx => ?_, fun x hx => ?_, fun hx => by simp [vbl, Value.ownBlock] at hx, fun hx => (by cases hx), fun x hx => by simp [vbl, Value.ownBlock] at hx⟩, hb⟩
    · have : x = u1.heap.size := by simpa [Dx.bl, vbl, Value.ownBlock] using hx
      omega
    · have : x = u1.heap.size := by simpa [Dx.bl, vbl, Value.ownBlock] using hx
      simp
      omega
  · obtain ⟨g1, rfl⟩ := own_some HO.out hpos
    have hg := World.ownsRow.lt HO.out g1 rfl
    refine ⟨⟨u1.heap.size, .slice none 0 0, some ⟨g1, 0, none⟩, g1, c1, n, F, [], 0, [g1]⟩, rfl, rfl, rfl, ⟨hbx 0, hbx 1, hbx 2, fun k => World.frozen?_alloc_at _ _ _ _ rfl, World.ownsRow_nil _ _ _ _, fun f hf => (by cases hf), fun _ => ⟨rfl, List.mem_cons_self ..⟩, fun i hi => ?_, fun x hx => ?_, fun x hx => ?_, fun hx => by simp [vbl, Value.ownBlock] at hx, fun hx => ?_, fun x hx => by simp [vbl, Value.ownBlock] at hx⟩, hb⟩
    · have h2 := World.ownsRow.cellAt HO.out i (by rw [Nat.mul_one]; exact hi)
      rw [ivs_get hi] at h2
      exact (((Below.refl _ u1).alloc (Nat.le_refl _) _).cell (p := ⟨g1, i, none⟩) hg.2).trans h2
    · have : x = u1.heap.size ∨ x = g1 := by simpa [Dx.bl, vbl, Value.ownBlock] using hx
      omega
    · have : x = u1.heap.size ∨ x = g1 := by simpa [Dx.bl, vbl, Value.ownBlock] using hx
      simp
      omega
    · have : u1.heap.size = g1 := by simpa using hx
      omega
end Wi
end Rg
end Go.Proofs.Ytidicdlfjdlpnaa
end
section
namespace Go.Proofs.Ytidicdlfjdlpnaa
open Go.RowKit
namespace Rg
namespace Wi
set_option maxRecDepth 100000
theorem info_str : ∃ i, Try.prog.info? 9 = some i ∧ i.zero = some (.string ⟨#[]⟩) ∧ i.size = 1 ∧ i.bytes = 16 := by
  have h : (Try.prog.info? 9).map (fun i => (i.size, i.bytes)) = some (1, 16) := by kernel_rfl
  have hz : (Try.prog.info? 9).bind (fun i => i.zero) = some (.string ⟨#[]⟩) := by kernel_rfl
  cases hi : Try.prog.info? 9 with
  | none => rw [hi] at h; simp at h
  | some i =>
    rw [hi] at h hz
    simp at h
    exact ⟨i, rfl, hz, h.1, h.2⟩
/-- Texts gathered in a row of the call's own. -/
structure So_ (w : World) (v : Value) (l : List ByteArray) (u : World) : Prop where
  b : Below w.heap.size w u
  row : u.ownsRow w.heap.size 9 1 v l.length (l.map .string)
theorem So_.start (w : World) : So_ w (.slice none 0 0) [] w := ⟨Below.refl _ _, World.ownsRow_nil _ _ _ _⟩
theorem So_.step {w u u' : World} {v : Value} {l : List ByteArray} (h : So_ w v l u) (hb : Below u.heap.size u u') : So_ w v l u' :=
  ⟨h.b.trans (hb.mono h.b.size), own_keep h.row fun b hm => hb.block b (own_lt h.row b hm)⟩
theorem So_.app {w u : World} {v : Value} {l : List ByteArray} (h : So_ w v l u) (s : ByteArray) (hb : l.length ≤ 100000) (ty : TypeId) :
    ∃ v' u2, (Builtin.append_ #[51, 51] ty #[v, .slice (some ⟨u.heap.size, 0, none⟩) 1 1]).run Try.prog (u.alloc (.cells #[.string s] 9)) = .ok v' u2 ∧ So_ w v' (l ++ [s]) u2 := by
  have h1 := h.step ((Below.refl _ u).alloc (Nat.le_refl _) (.cells #[.string s] 9))
  obtain ⟨i0, hi, hz0, hz1, hz2⟩ := info_str
  obtain ⟨v', w2, hr, h2, h3, _, h5⟩ := run_append_own_at (P := Try.prog) (u.alloc (.cells #[.string s] 9)) w.heap.size 51 ty 9 i0 (.string ⟨#[]⟩) 1 16 Try.underlying51 hi hz0 hz1 hz2 rfl (by decide) v _ _ h1.row ⟨u.heap.size, 0, none⟩ 1 1 [.string s] rfl (fun j x hj => by
    rw [show (⟨u.heap.size, 0, none⟩ : Addr).add j = ⟨u.heap.size, j, none⟩ by unfold Addr.add; split <;> simp_all]
    rw [box_at]
    simpa using hj) (fun x hx => by rw [List.mem_singleton.1 hx]; rfl) (by unfold maxLen; omega) (by omega) h1.b.size
  refine ⟨v', w2, hr, h1.b.trans ((Chg.grown h3).toBelow (own_lo2 h1.row) h1.b.size), ?_⟩
  rw [List.length_append, List.map_append]
  exact h2
set_option maxHeartbeats 2000000 in
/-- The document's Names. -/
theorem rnames_any {w0 : World} {X : Dx} (hn : X.fs.length ≤ 1000) (w : World) (h : Dxo w0 X w) :
    Calls Try.prog 61 #[PT X.m 0] w fun e w' => ∃ v, e = .returned v ∧ So_ w v (X.fs.map Mf.nm) w' := by
  have H : Hid _ := h
  clear h
  go_enter Try.func61, Try.ntmps61
  go_wp2
  go_loopw [3, 4] (fun vo v wr => ∃ i : Nat, v = .int .i64 (i : Int) ∧ i ≤ X.fs.length ∧ Hid (So_ w vo ((X.fs.take i).map Mf.nm) wr))
    (fun _ v _ => X.fs.length - (RowKit.intOf v).toNat)
  case atStart => exact ⟨0, rfl, Nat.zero_le _, So_.start w⟩
  case round =>
    obtain ⟨i, rfl, hi, hF⟩ := hrel
    have hX := H.out.below hF.out.b
    have c0 := hX.c0
    by_cases hlt : i < X.fs.length
    · obtain ⟨f, hf⟩ : ∃ f, X.fs[i]? = some f := ⟨_, List.getElem?_eq_getElem hlt⟩
      obtain ⟨g, cp, hv, hcp, k0, k1, k2, k3⟩ := hX.at hf
      obtain ⟨v', u2, hr, hF2⟩ := hF.out.app f.nm (by rw [List.length_map, List.length_take]; omega) 51
      have HT : Hid (X.fs.take (i + 1) = X.fs.take i ++ [f]) := by show X.fs.take (i + 1) = _; rw [List.take_add_one, hf]; rfl
      have HR : Hid _ := hr
      have HF2 : Hid _ := hF2
      rw [hv] at c0
      clear hr hF2 hX hf hv k1 k2 k3
      go_wp2_with (first
        | (at_builtin; refine wpl_app rfl _ _ 51 rfl _ (.slice (some ⟨wr.heap.size, 0, none⟩) 1 1) v' rfl rfl HR.out ?_)
        | fail)
      exact ⟨⟨i + 1, by simp, by omega, by rw [HT.out, List.map_append]; exact HF2⟩, by simp [RowKit.intOf]; omega⟩
    · obtain rfl : i = X.fs.length := by omega
      obtain ⟨p, cp, hv, hcp⟩ := own_slice hX.row
      rw [hv] at c0
      rw [List.take_of_length_le (Nat.le_refl _)] at hF
      clear hX hv
      go_wp2
      go_ret
      exact ⟨_, rfl, hF.out⟩
end Wi
end Rg
end Go.Proofs.Ytidicdlfjdlpnaa
end
