/- Texts of the proof, joined. -/
import Derived.Test.YtkkloakcphigeaaDoorP2
import Derived.Deep.RegionHeld3
import Derived.Deep.DeepCutAuto
section
namespace Go.Proofs.YtkkloakcphigeaaDoor
open Go.RowKit
namespace Rg
section
variable {P : Program} {ops : Array Oper} {ks : List Kind} {a₀ : Act} {w₀ : World} {Q : Exit → Act → World → Prop}
end
end Rg
end Go.Proofs.YtkkloakcphigeaaDoor
end
section
namespace Go.Proofs.YtkkloakcphigeaaDoor
open Go.RowKit
namespace Rg
set_option maxRecDepth 100000
/-- What an operation of the chain tells, and what holds of the memory behind it. -/
def EffOk (P : Program) (F : Act) (o : Oper) (v : Value) (I I' : World → Prop) : Prop := ∀ w, I w → (∃ w', (execOp F.eval o).run P w = .ok (.value v) w' ∧ I' w') ∨ ∃ f args, (execOp F.eval o).run P w = .ok (.enter f args) w ∧ Calls P f args w fun e w' => e = .returned v ∧ I' w'
/-- A chain of operations that change the memory, among others that only tell; the values are known ahead, of the memory what Is says. -/
structure Det (P : Program) (ops : Array Oper) (F : Act) (p m : Nat) (e : Nat → Nat) (Is : Nat → World → Prop) (val : Nat → Value) : Prop where
  guard : ∀ (i : Nat) (o : Oper), ops[i]? = some o → Region.wanted o (yielded ops F.tmps) = true
  gp : ∀ (i : Nat) (o : Oper) (g : Nat) (b : Bool), ops[i]? = some o → o.guard = some (g, b) → g < p
  lt : ∀ j, j < m → e j < p
  inj : ∀ i j, i < m → j < m → e i = e j → i = j
  quiet : ∀ (i : Nat) (o : Oper), ops[i]? = some o → (∀ j, j < m → e j ≠ i) → ∀ c, c ≤ m → ∀ w, Is c w → (execOp F.eval o).run P w = .ok (.value (val i)) w
  eff : ∀ (j : Nat) (o : Oper), j < m → ops[e j]? = some o → EffOk P F o (val (e j)) (Is j) (Is (j + 1))
section
variable {P : Program} {ops : Array Oper} {ks : List Kind} {a₀ : Act} {Q : Exit → Act → World → Prop}
theorem first_det {full : Array Oper} {n p m : Nat} {e : Nat → Nat} {Is : Nat → World → Prop} {val : Nat → Value} (hO : Orderly ops ks n) (hn : n = a₀.tmps.size)
    (hp : ops.size = p) (hpf : p ≤ full.size) (hfull : ∀ i, i < p → full[i]? = ops[i]?)
    (hup : ∀ {i : Nat} {o : Oper}, full[i]? = some o → ∀ e ∈ o.after, Region.binds .any e = true → e.on < i)
    (hwt : ∀ {i : Nat} {o : Oper}, full[i]? = some o → p ≤ i → ∀ j, j < i → waitsQ full 6 o j = true)
    (hch : ∀ (j : Nat) (o : Oper), j + 1 < m → full[e (j + 1)]? = some o → waitsQ full 6 o (e j) = true)
    (hk : ∀ i, i < p → ks[i]? = some (.quiet (val i)))
    (hD : Det P ops (fill (fun _ => 0) 0 ops.toList ks a₀) p m e Is val)
    (hend : ∀ w, Is m w → wpOps P full Q (List.range' p (full.size - p)) (fill (fun _ => 0) 0 ops.toList ks a₀) w) :
    ∀ (fuel : Nat) (l : Array Bool) (a : Act) (w : World), l.size = full.size → l.toList.count false ≤ fuel → full.size - p ≤ fuel → (∀ i, p ≤ i → i < full.size → l.getD i true = false) → Down full l → Agree ops ks a₀ l (fun _ => 0) a → (∃ c, c ≤ m ∧ Is c w ∧ (∀ j, j < c → l.getD (e j) false = true) ∧ ∀ j, c ≤ j → j < m → l.getD (e j) true = false) → wpAny P .any full Q fuel l a w := by
  have hfin : ∀ (l : Array Bool) (a : Act) (w : World), l.size = full.size → Agree ops ks a₀ l (fun _ => 0) a → (∃ c, c ≤ m ∧ Is c w ∧ (∀ j, j < c → l.getD (e j) false = true) ∧ ∀ j, c ≤ j → j < m → l.getD (e j) true = false) → (∀ i, i < p → l.getD i false = true) → a = fill (fun _ => 0) 0 ops.toList ks a₀ ∧ Is m w := by
    rintro l a w hsz hA ⟨c, hc, hI, h1, h2⟩ hall
    refine ⟨whole_of hp hA hall, ?_⟩
    by_cases h : c = m
    · rw [← h]; exact hI
    · have h3 := h2 c (Nat.le_refl _) (by omega)
      have h4 := hall (e c) (hD.lt c (by omega))
      rw [(getD_same h3).1] at h4
      cases h4
  intro fuel
  induction fuel with
  | zero =>
    intro l a w hsz hc hpl hu hdn hA hC
    have hall : ∀ i, i < p → l.getD i false = true := fun i hi => by
      cases hb : l.getD i true with
      | false => have := count_set hb; omega
      | true =>
        have hi' : i < l.size := by omega
        simpa [hi'] using hb
    obtain ⟨rfl, hI⟩ := hfin l a w hsz hA hC hall
    exact rest_any p hup hwt (full.size - p) 0 p l _ _ (by omega) (Nat.le_refl _) hsz (by omega) hall hu (hend _ hI)
  | succ fuel ih =>
    intro l a w hsz hc hpl hu hdn hA hC
    by_cases hall : ∀ i, i < p → l.getD i false = true
    · obtain ⟨rfl, hI⟩ := hfin l a w hsz hA hC hall
      exact rest_any p hup hwt (full.size - p) (fuel + 1) p l _ _ (by omega) (Nat.le_refl _) hsz (by omega) hall hu (hend _ hI)
    · have hex : ∃ x, x < p ∧ l.getD x false = false := by
        apply Classical.byContradiction
        intro hno
        apply hall
        intro i hi
        cases hb : l.getD i false with
        | true => rfl
        | false => exact absurd ⟨i, hi, hb⟩ hno
      obtain ⟨x, hx, hxf⟩ := hex
      have hlow : ∀ i ∈ Region.ready .any full l, i < p := fun i hi => by
        obtain ⟨hun, o, ho, hedge⟩ := mem_ready.1 hi
        rcases Nat.lt_or_ge i p with h' | h'
        · exact h'
        · have := waitsQ_spec hdn 6 (hwt ho h' x (by omega)) hedge
          rw [hxf] at this
          cases this
      have hcnt : full.size - p + 1 ≤ l.toList.count false := by
        have h1 : l.getD x true = false := by
          have hx' : x < l.size := by omega
          simpa [hx'] using hxf
        have h2 := count_set h1
        have h3 : ∀ (m : Nat) (l : Array Bool), l.size = full.size → m ≤ full.size - p → (∀ i, full.size - m ≤ i → i < full.size → l.getD i true = false) → m ≤ l.toList.count false := by
          intro m
          induction m with
          | zero => intro l _ _ _; omega
          | succ m ih =>
            intro l hs hm hl
            have h4 := count_set (hl (full.size - (m + 1)) (Nat.le_refl _) (by omega))
            have h5 := ih (l.setIfInBounds (full.size - (m + 1)) true) (by simp [hs]) (by omega) (fun i hi1 hi2 => by rw [getD_set_ne true (by omega)]; exact hl i (by omega) hi2)
            omega
        have h6 := h3 (full.size - p) (l.setIfInBounds x true) (by simp [hsz]) (Nat.le_refl _) (fun i hi1 hi2 => by rw [getD_set_ne true (by omega)]; exact hu i (by omega) hi2)
        omega
      refine ⟨fun hr => ?_, fun i hi => ?_⟩
      · exfalso
        have : ∀ i, i < full.size → l.getD i false = true := by
          intro i
          induction i using Nat.strongRecOn with
          | _ i ih2 =>
            intro hi
            have hi' : i < l.size := by omega
            cases hl : l.getD i true with
            | true => simpa [hi'] using hl
            | false =>
              exfalso
              have : i ∈ Region.ready .any full l := mem_ready.2 ⟨hl, full[i], Array.getElem?_eq_getElem hi, fun e he hb => by
                have h1 := hup (Array.getElem?_eq_getElem hi) e he hb
                exact ih2 e.on h1 (by omega)⟩
              rw [hr] at this
              cases this
        rw [this x (by omega)] at hxf
        cases hxf
      · have hip := hlow i hi
        obtain ⟨hun, o, ho, hedge⟩ := mem_ready.1 hi
        have ho' : ops[i]? = some o := by rw [← hfull i hip]; exact ho
        have hc' := count_set hun
        have hki := hk i hip
        obtain ⟨c, hcm, hI, h1, h2⟩ := hC
        have hsee := hA.sees hO ho' hedge
        have hwn : Region.wanted o (yielded full a.tmps) = true := by
          have h6 : Region.wanted o (yielded full a.tmps) = Region.wanted o (yielded ops a.tmps) := by
            unfold Region.wanted
            cases hg : o.guard with
            | none => rfl
            | some gw =>
              obtain ⟨g, want⟩ := gw
              have hy : yielded full a.tmps g = yielded ops a.tmps g := by
                unfold yielded
                rw [hfull g (hD.gp i o g want ho' hg)]
              simp only [hy]
          rw [h6, hsee.2]
          exact hD.guard i o ho'
        have hA' : Agree ops ks a₀ (l.setIfInBounds i true) (fun _ => 0) (a.put o.dst (val i)) := hA.step (γ' := fun _ => 0) hO hn ho' hki (fun _ _ _ _ => rfl)
        have key : ((∃ w1, (execOp (fill (fun _ => 0) 0 ops.toList ks a₀).eval o).run P w = .ok (.value (val i)) w1 ∧ (∃ c', c' ≤ m ∧ Is c' w1 ∧ (∀ j, j < c' → (l.setIfInBounds i true).getD (e j) false = true) ∧ ∀ j, c' ≤ j → j < m → (l.setIfInBounds i true).getD (e j) true = false)) ∨ ∃ f args, (execOp (fill (fun _ => 0) 0 ops.toList ks a₀).eval o).run P w = .ok (.enter f args) w ∧ Calls P f args w fun x w1 => x = .returned (val i) ∧ (∃ c', c' ≤ m ∧ Is c' w1 ∧ (∀ j, j < c' → (l.setIfInBounds i true).getD (e j) false = true) ∧ ∀ j, c' ≤ j → j < m → (l.setIfInBounds i true).getD (e j) true = false)) → wpOp P full Q i (wpAny P .any full Q fuel (l.setIfInBounds i true)) a w := fun hx => by
          refine wpOp_step ho (fun K' hK => ?_)
          rw [if_pos hwn]
          unfold Oper.wp
          rw [hsee.1]
          rcases hx with ⟨w1, hx, hC1⟩ | ⟨f, args, hx, hcall⟩
          · rw [hx]
            exact hK _ _ (ih _ _ _ (by simp [hsz]) (by omega) (by omega) (fun j hj hj2 => by rw [getD_set_ne true (by omega)]; exact hu j hj hj2) (down_set hdn ho hedge) hA' hC1)
          · rw [hx]
            refine Calls.mono hcall ?_
            rintro _ w1 ⟨rfl, hC1⟩
            exact hK _ _ (ih _ _ _ (by simp [hsz]) (by omega) (by omega) (fun j hj hj2 => by rw [getD_set_ne true (by omega)]; exact hu j hj hj2) (down_set hdn ho hedge) hA' hC1)
        by_cases hE : ∃ j, j < m ∧ e j = i
        · obtain ⟨j, hj, rfl⟩ := hE
          have hjc : c ≤ j := by
            apply Classical.byContradiction
            intro hno
            have := h1 j (by omega)
            rw [(getD_same hun).1] at this
            cases this
          have hjc2 : j = c := by
            apply Classical.byContradiction
            intro hno
            obtain ⟨k, rfl⟩ : ∃ k, j = k + 1 := ⟨j - 1, by omega⟩
            have h3 := waitsQ_spec hdn 6 (hch k o hj ho) hedge
            have h4 := h2 k (by omega) (by omega)
            rw [(getD_same h4).1] at h3
            cases h3
          subst hjc2
          have hnew : ∀ w1, Is (j + 1) w1 → ∃ c', c' ≤ m ∧ Is c' w1 ∧ (∀ k, k < c' → (l.setIfInBounds (e j) true).getD (e k) false = true) ∧ ∀ k, c' ≤ k → k < m → (l.setIfInBounds (e j) true).getD (e k) true = false := fun w1 hI1 => by
            refine ⟨j + 1, by omega, hI1, fun k hk' => ?_, fun k hk' hk2 => ?_⟩
            · by_cases h5 : k = j
              · subst h5; exact (getD_same hun).2
              · exact getD_true (h1 k (by omega))
            · rw [getD_set_ne true (fun h6 => by have := hD.inj j k hj hk2 h6; omega)]
              exact h2 k (by omega) hk2
          rcases hD.eff j o hj ho' w hI with ⟨w1, hx, hI1⟩ | ⟨f, args, hx, hcall⟩
          · exact key (.inl ⟨w1, hx, hnew w1 hI1⟩)
          · exact key (.inr ⟨f, args, hx, Calls.mono hcall fun x w1 hh => ⟨hh.1, hnew w1 hh.2⟩⟩)
        · have hE' : ∀ j, j < m → e j ≠ i := fun j hj h => hE ⟨j, hj, h⟩
          refine key (.inl ⟨w, hD.quiet i o ho' hE' c hcm w hI, c, hcm, hI, fun k hk' => getD_true (h1 k hk'), fun k hk' hk2 => ?_⟩)
          rw [getD_set_ne true (fun h6 => hE' k hk2 h6.symm)]
          exact h2 k hk' hk2
end
/-- What each operation tells; which of them are the chain's. -/
def DetOk (P : Program) (F : Act) (m : Nat) (Is : Nat → World → Prop) : List Oper → List Value → List (Option Nat) → Prop
  | o :: os, v :: vs, none :: fs => (∀ c, c ≤ m → ∀ w, Is c w → (execOp F.eval o).run P w = .ok (.value v) w) ∧ DetOk P F m Is os vs fs
  | o :: os, v :: vs, some j :: fs => EffOk P F o v (Is j) (Is (j + 1)) ∧ DetOk P F m Is os vs fs
  | _, _, _ => True
theorem DetOk.at {P : Program} {F : Act} {m : Nat} {Is : Nat → World → Prop} : ∀ {os : List Oper} {vs : List Value} {fs : List (Option Nat)}, DetOk P F m Is os vs fs → ∀ {i : Nat} {o : Oper} {v : Value} {f : Option Nat}, os[i]? = some o → vs[i]? = some v → fs[i]? = some f →
    match f with | none => ∀ c, c ≤ m → ∀ w, Is c w → (execOp F.eval o).run P w = .ok (.value v) w | some j => EffOk P F o v (Is j) (Is (j + 1))
  | [], _, _, _, _, _, _, _, h, _, _ => by simp at h
  | _ :: _, [], _, _, _, _, _, _, _, h, _ => by simp at h
  | _ :: _, _ :: _, [], _, _, _, _, _, _, _, h => by simp at h
  | _ :: _, _ :: _, none :: _, hD, 0, _, _, _, ho, hv, hf => by
    simp at ho hv hf
    subst ho hv hf
    exact hD.1
  | _ :: _, _ :: _, some _ :: _, hD, 0, _, _, _, ho, hv, hf => by
    simp at ho hv hf
    subst ho hv hf
    exact hD.1
  | _ :: os, _ :: vs, none :: fs, hD, i + 1, _, _, _, ho, hv, hf => DetOk.at (os := os) (vs := vs) (fs := fs) hD.2 (by simpa using ho) (by simpa using hv) (by simpa using hf)
  | _ :: os, _ :: vs, some _ :: fs, hD, i + 1, _, _, _, ho, hv, hf => DetOk.at (os := os) (vs := vs) (fs := fs) hD.2 (by simpa using ho) (by simpa using hv) (by simpa using hf)
def detB (full : Array Oper) (p : Nat) (fl : List (Option Nat)) (es : List Nat) : Bool :=
  fl.length == p &&
  (List.range es.length).all (fun j => decide (es.getD j 0 < p) && (fl.getD (es.getD j 0) none == some j)) &&
  (List.range p).all (fun i => match fl.getD i none with | some j => decide (j < es.length) && es.getD j 0 == i | none => true) &&
  (List.range es.length).all (fun j => decide (es.length ≤ j + 1) || (match full[es.getD (j + 1) 0]? with | some o => waitsQ full 6 o (es.getD j 0) | none => true)) &&
  guarded (full.toList.take p).toArray p
theorem walk_det {P : Program} {Q : Exit → Act → World → Prop} {full : Array Oper} {a : Act} {w : World} {id : Nat} (hm : P.follows .mixedOrders = true) (p : Nat) (vs : List Value) (fl : List (Option Nat)) (es : List Nat) (Is : Nat → World → Prop) (pre : List Oper) (F : Act) (hpre : full.toList.take p = pre)
    (hF : fill (fun _ => 0) 0 pre (vs.map Kind.quiet) a = F) (hor : (orderly pre.toArray (vs.map Kind.quiet) a.tmps.size && chained full p && decide (p ≤ full.size) && detB full p fl es) = true) (hW : (pre.all fun o => Region.wanted o (yielded pre.toArray F.tmps)) = true) (h0 : Is 0 w.drew)
    (hops : DetOk P F es.length Is pre vs fl) (hend : ∀ w', Is es.length w' → wpOps P full Q (List.range' p (full.size - p)) F w') :
    (Code.region id full true).wp P Q a w := by
  subst hpre
  subst hF
  simp only [Bool.and_eq_true, decide_eq_true_eq] at hor
  obtain ⟨⟨⟨h1, h3⟩, h4⟩, h5⟩ := hor
  unfold detB at h5
  simp only [Bool.and_eq_true, List.all_eq_true, List.mem_range, decide_eq_true_eq, beq_iff_eq, Bool.or_eq_true] at h5
  obtain ⟨⟨⟨⟨k0, k1⟩, k2⟩, k3⟩, k4⟩ := h5
  unfold chained at h3
  simp only [Bool.and_eq_true] at h3
  obtain ⟨h6, h7⟩ := h3
  have hO := Orderly.of h1
  have hvl : vs.length = p := by
    have := hO.size
    simp at this
    omega
  have hat : ∀ (i : Nat) (o : Oper), (full.toList.take p).toArray[i]? = some o → i < p ∧ (full.toList.take p)[i]? = some o ∧ full[i]? = some o := fun i o ho => by
    have h8 : (full.toList.take p)[i]? = some o := by simpa using ho
    have h9 := (List.getElem?_eq_some_iff.1 h8).1
    rw [List.length_take] at h9
    refine ⟨by omega, h8, ?_⟩
    rw [List.getElem?_take, if_pos (by omega)] at h8
    simpa using h8
  have hsz : (full.toList.take p).toArray.size = p := by simp; omega
  refine wp_region_any hm (first_det (ops := (full.toList.take p).toArray) (ks := vs.map Kind.quiet) (p := p) (m := es.length) (e := fun j => es.getD j 0) (Is := Is) (val := fun i => vs.getD i undef) hO rfl hsz h4 (fun i hi => ?_) (fun ho e he hb => ?_) (fun ho hi j hj => ?_) (fun j o hj ho => ?_) (fun i hi => ?_) ⟨fun i o ho => ?_, fun i o g b ho hg => guarded_spec k4 ho hg, fun j hj => (k1 j hj).1, fun i j hi hj he => ?_, fun i o ho hne c hc => ?_, fun j o hj ho => ?_⟩ hend full.size _ a w.drew (by simp) (by simp) (by omega) (fun i _ hi => none_listed' hi) (fun _ hl _ _ _ => by rw [none_listed] at hl; cases hl) (start_agree _ _) ⟨0, Nat.zero_le _, h0, fun j hj => absurd hj (Nat.not_lt_zero _), fun j _ hj => none_listed' (Nat.lt_of_lt_of_le (k1 j hj).1 h4)⟩)
  · rw [show (full.toList.take p).toArray[i]? = (full.toList.take p)[i]? by simp, List.getElem?_take, if_pos hi]
    simp
  · have := Array.all_eq_true_iff_forall_mem.1 (eachOp_spec h6 ho) e he
    simpa [hb] using this
  · have := eachOp_spec h7 ho
    simp only [Bool.or_eq_true, decide_eq_true_eq] at this
    rcases this with h8 | h8
    · omega
    · exact List.all_eq_true.1 h8 j (List.mem_range.2 hj)
  · rcases k3 j (by omega) with h8 | h8
    · omega
    · rw [ho] at h8
      exact h8
  · rw [List.getElem?_map, List.getElem?_eq_getElem (by omega), List.getD_eq_getElem?_getD, List.getElem?_eq_getElem (by omega)]
    rfl
  · exact List.all_eq_true.1 hW o (List.mem_of_getElem? (hat i o ho).2.1)
  · have e1 := (k1 i hi).2
    have e2 := (k1 j hj).2
    have he : es.getD i 0 = es.getD j 0 := he
    rw [he, e2] at e1
    injection e1 with e1
    exact e1.symm
  · obtain ⟨hi, ho1, _⟩ := hat i o ho
    have hf : fl[i]? = some (fl.getD i none) := by rw [List.getD_eq_getElem?_getD, List.getElem?_eq_getElem (by omega)]; rfl
    have hv : vs[i]? = some (vs.getD i undef) := by rw [List.getD_eq_getElem?_getD, List.getElem?_eq_getElem (by omega)]; rfl
    have h8 := hops.at ho1 hv hf
    have h9 := k2 i hi
    cases hx : fl.getD i none with
    | none =>
      rw [hx] at h8
      exact h8 c hc
    | some j =>
      rw [hx] at h9
      simp only [Bool.and_eq_true, decide_eq_true_eq, beq_iff_eq] at h9
      exact absurd h9.2 (hne j h9.1)
  · obtain ⟨hi, ho1, _⟩ := hat _ o ho
    have hf : fl[es.getD j 0]? = some (fl.getD (es.getD j 0) none) := by rw [List.getD_eq_getElem?_getD (l := fl), List.getElem?_eq_getElem (by omega)]; rfl
    have hv : vs[es.getD j 0]? = some (vs.getD (es.getD j 0) undef) := by rw [List.getD_eq_getElem?_getD (l := vs), List.getElem?_eq_getElem (by omega)]; rfl
    have h8 := hops.at ho1 hv hf
    rw [(k1 j hj).2] at h8
    exact h8
end Rg
end Go.Proofs.YtkkloakcphigeaaDoor
end
section
namespace Go.Proofs.YtkkloakcphigeaaDoor
open Go.RowKit
/-- What Divide makes of its divisor: s + 1 words, shifted by sh. -/
theorem div_parts (b : Nat) (hb : b < big) (h0 : b ≠ 0) : ∃ s sh : Nat, s ≤ 5 ∧ sh < 64 ∧ bl b + sh = 64 * (s + 1) ∧ (bl b + 63) / 64 = s + 1 ∧ 0 < b * 2 ^ sh ∧ b * 2 ^ sh < 2 ^ (64 * (s + 1)) ∧ 2 ^ (64 * (s + 1) - 1) ≤ b * 2 ^ sh := by
  have hlt : bl b ≤ 384 := by
    obtain ⟨n, hn, e⟩ := big_pow
    rw [e] at hb
    have := bl_le_of b _ hb
    omega
  have hp := bl_pos b h0
  have h1 := bl_lt b
  have h2 := bl_le b h0
  refine ⟨(bl b + 63) / 64 - 1, 64 * ((bl b + 63) / 64) - bl b, by omega, by omega, by omega, by omega, Nat.mul_pos (by omega) (Nat.two_pow_pos _), ?_, ?_⟩
  · have e : 64 * ((bl b + 63) / 64 - 1 + 1) = bl b + (64 * ((bl b + 63) / 64) - bl b) := by omega
    rw [e, Nat.pow_add]
    exact Nat.mul_lt_mul_of_pos_right h1 (Nat.two_pow_pos _)
  · have e : 64 * ((bl b + 63) / 64 - 1 + 1) - 1 = (bl b - 1) + (64 * ((bl b + 63) / 64) - bl b) := by omega
    rw [e, Nat.pow_add]
    exact Nat.mul_le_mul_right _ h2
/-- The words of v from place k on, noughts below. -/
def topPart (v k j : Nat) : Int := if k ≤ j then wd v j else 0
theorem topPart_step {v k : Nat} {x : Int} (h : x = wd v k) (j : Nat) : upd (topPart v (k + 1)) k x j = topPart v k j := by
  unfold upd topPart
  by_cases h1 : j = k
  · subst h1; simp [h]
  · rw [if_neg h1]
    by_cases h2 : k ≤ j
    · rw [if_pos h2, if_pos (by omega)]
    · rw [if_neg h2, if_neg (by omega)]
theorem step_quo (A d i : Nat) : A % (d * 2 ^ (64 * (i + 1))) / 2 ^ (64 * i) / d = wn (A / d) i := by
  rw [pow_step, ← Nat.mul_assoc, Nat.div_div_eq_div_mul, Nat.mul_comm (2 ^ (64 * i)) d, Nat.mod_mul_right_div_self]
  unfold wn
  rw [Nat.div_div_eq_div_mul]
theorem step_rest (A d i : Nat) : glue (A % (d * 2 ^ (64 * (i + 1)))) i (A % (d * 2 ^ (64 * (i + 1))) / 2 ^ (64 * i) % d) = A % (d * 2 ^ (64 * i)) := by
  unfold glue
  rw [← Nat.mod_mul, Nat.mul_comm (2 ^ (64 * i)) d, pow_step, ← Nat.mul_assoc, Nat.mod_mul_right_mod]
theorem step_lt (A d i : Nat) (hd : 0 < d) : A % (d * 2 ^ (64 * (i + 1))) / 2 ^ (64 * i) < d * 18446744073709551616 := by
  have hp := pow_pos' i
  rw [Nat.div_lt_iff_lt_mul hp, Nat.mul_assoc, Nat.mul_comm 18446744073709551616, ← pow_step]
  exact Nat.mod_lt _ (Nat.mul_pos hd (pow_pos' _))
theorem start_rest (a d s sh : Nat) (ha : a < big) (hs : s ≤ 5) (hsh : sh < 64) (hd : 2 ^ (64 * (s + 1) - 1) ≤ d) : a * 2 ^ sh < d * 2 ^ (64 * (6 - s)) := by
  have h1 : a * 2 ^ sh < big * 2 ^ sh := Nat.mul_lt_mul_of_pos_right ha (Nat.two_pow_pos sh)
  obtain ⟨n, hn, e⟩ := big_pow
  rw [e, ← Nat.pow_add] at h1
  have h2 : 2 ^ (64 * (s + 1) - 1) * 2 ^ (64 * (6 - s)) ≤ d * 2 ^ (64 * (6 - s)) := Nat.mul_le_mul_right _ hd
  rw [← Nat.pow_add] at h2
  exact Nat.lt_of_lt_of_le h1 (Nat.le_trans (pow_le' _ _ (by omega)) h2)
theorem quo_high (Q A d k j : Nat) (hQ : Q = A / d) (hd : 0 < d) (h : A < d * 2 ^ (64 * k)) (hj : k ≤ j) : wd Q j = 0 :=
  wd_top' Q k j (by rw [hQ, Nat.div_lt_iff_lt_mul hd, Nat.mul_comm]; exact h) hj
theorem shv_back (x sh : Nat) (hx : x < big) (hsh : sh < 64) : shv x (-(sh : Int)) = x / 2 ^ sh := by
  unfold shv
  rw [if_neg (by omega)]
  by_cases h : sh = 0
  · subst h
    rw [if_neg (by omega), Int.natCast_zero, Int.neg_zero, Int.toNat_zero, Nat.pow_zero, Nat.mul_one, Nat.div_one, Nat.mod_eq_of_lt hx]
  · rw [if_pos (by omega), Int.neg_neg, Int.toNat_natCast]
theorem mod_back (a b sh : Nat) : a * 2 ^ sh % (b * 2 ^ sh) / 2 ^ sh = a % b := by
  rw [Nat.mul_mod_mul_right, Nat.mul_div_cancel _ (Nat.two_pow_pos sh)]
end Go.Proofs.YtkkloakcphigeaaDoor
end
section
namespace Go.Proofs.YtkkloakcphigeaaDoor
open Go.RowKit
/-- What stands in memory while Divide runs: a, b, two results. -/
structure DM (w wr : World) (a b : Nat) : Prop where
  ra : Row wr w.heap.size 6 (wd a)
  rb : Row wr (w.heap.size + 1) 6 (wd b)
  r2 : Row wr (w.heap.size + 1 + 1) 6 (fun _ => 0)
  r3 : Row wr (w.heap.size + 1 + 1 + 1) 6 (fun _ => 0)
  bl : Below w.heap.size w wr
  sz : w.heap.size + 1 + 1 + 1 < wr.heap.size
theorem DM.start (w : World) (a b : Nat) : DM w ((((w.alloc (O6 a)).alloc (O6 b)).alloc Z6).alloc Z6) a b :=
  ⟨(((Row.new w _ 33 rfl (six_lt rfl)).alloc (by first | omega | (simp <;> omega)) _).alloc (by first | omega | (simp <;> omega)) _).alloc (by first | omega | (simp <;> omega)) _,
   ((Row.new _ _ 33 (by first | omega | (simp <;> omega)) (six_lt rfl)).alloc (by first | omega | (simp <;> omega)) _).alloc (by first | omega | (simp <;> omega)) _,
   (Row.new _ _ 33 (by first | omega | (simp <;> omega)) (six_lt (f := fun _ => 0) rfl)).alloc (by first | omega | (simp <;> omega)) _,
   Row.new _ _ 33 (by first | omega | (simp <;> omega)) (six_lt (f := fun _ => 0) rfl),
   ((((Below.refl _ _).alloc (Nat.le_refl _) _).alloc (by first | omega | (simp <;> omega)) _).alloc (by first | omega | (simp <;> omega)) _).alloc (by first | omega | (simp <;> omega)) _,
   by simp⟩
theorem DM.below {w wr w1 : World} {a b : Nat} (h : DM w wr a b) (hb : Below wr.heap.size wr w1) : DM w w1 a b :=
  have := h.sz
  ⟨Row.below hb h.ra (by omega), Row.below hb h.rb (by omega), Row.below hb h.r2 (by omega), Row.below hb h.r3 (by omega), h.bl.trans (hb.mono (by omega)), Nat.lt_of_lt_of_le h.sz hb.size⟩
theorem DM.alloc {w wr : World} {a b : Nat} (h : DM w wr a b) (o : Obj) : DM w (wr.alloc o) a b :=
  have := h.sz
  ⟨h.ra.alloc (by omega) o, h.rb.alloc (by omega) o, h.r2.alloc (by omega) o, h.r3.alloc (by omega) o, h.bl.alloc (by omega) o, by simp; omega⟩
theorem DM.drew {w wr : World} {a b : Nat} (h : DM w wr a b) : DM w wr.drew a b := ⟨h.ra.drew, h.rb.drew, h.r2.drew, h.r3.drew, h.bl.drew, h.sz⟩
theorem DM.set {w wr : World} {a b : Nat} (h : DM w wr a b) {p : Addr} (hp : w.heap.size + 1 + 1 + 1 < p.block) (v : Value) : DM w (wr.setCell p v) a b :=
  ⟨h.ra.set_other _ (by omega), h.rb.set_other _ (by omega), h.r2.set_other _ (by omega), h.r3.set_other _ (by omega), h.bl.setCell (by omega) _, by simpa [World.setCell] using h.sz⟩
theorem DM.past7 {w wr : World} {a b : Nat} (h : DM w wr a b) {g : Nat} (hp : w.heap.size + 1 + 1 + 1 < g) (v0 v1 v2 v3 v4 v5 v6 : Value) : DM w (((((((wr.setCell ⟨g, 0, none⟩ v0).setCell ⟨g, 1, none⟩ v1).setCell ⟨g, 2, none⟩ v2).setCell ⟨g, 3, none⟩ v3).setCell ⟨g, 4, none⟩ v4).setCell ⟨g, 5, none⟩ v5).setCell ⟨g, 6, none⟩ v6) a b :=
  ((((((h.set (p := ⟨g, 0, none⟩) hp _).set (p := ⟨g, 1, none⟩) hp _).set (p := ⟨g, 2, none⟩) hp _).set (p := ⟨g, 3, none⟩) hp _).set (p := ⟨g, 4, none⟩) hp _).set (p := ⟨g, 5, none⟩) hp _).set (p := ⟨g, 6, none⟩) hp _
set_option maxHeartbeats 4000000 in
set_option maxRecDepth 100000 in
theorem divide_some (a b : Nat) (ha : a < big) (hb : b < big) (h0 : b ≠ 0) (w : World) :
    Calls Tryd.prog 21 #[N a, N b] w fun e w' => e = .returned (.tuple #[N (a / b), N (a % b), .int .i64 0]) ∧ Below w.heap.size w w' := by
  obtain ⟨s, sh, hs, hsh, hbl, hbl2, hd0, hd1, hd2⟩ := div_parts b hb h0
  have he := fun w => run_eqZ b hb w
  simp only [decide_eq_false h0] at he
  have cl := fun w => len_any b hb w
  have c1 := fun w => shift_up b sh (by omega) w
  have c2 := fun w => shiftLong_any a sh ha hsh w
  have hdb : b * 2 ^ sh < big := Nat.lt_of_lt_of_le hd1 (by
    obtain ⟨n, hn, e⟩ := big_pow
    rw [e]; exact pow_mono _ _ (by omega))
  rw [Nat.mod_eq_of_lt hdb] at c1
  obtain ⟨d, hd⟩ : ∃ d, d = b * 2 ^ sh := ⟨_, rfl⟩
  obtain ⟨A, hA⟩ : ∃ A, A = a * 2 ^ sh := ⟨_, rfl⟩
  obtain ⟨Q, hQ⟩ : ∃ Q, Q = a / b := ⟨_, rfl⟩
  have hQA : Q = A / d := by rw [hQ, hA, hd, Nat.mul_div_mul_right _ _ (Nat.two_pow_pos sh)]
  have hR : A % d / 2 ^ sh = a % b := by rw [hA, hd, mod_back]
  have hst := start_rest a d s sh ha hs hsh (by rw [hd]; exact hd2)
  rw [← hd] at c1 hd0 hd1 hdb
  rw [← hA] at c2 hst
  rw [← hQ]
  have HCL : Hid _ := cl
  have HC1 : Hid _ := c1
  have HC2 : Hid _ := c2
  have HM : Hid (Q = A / d ∧ A % d / 2 ^ sh = a % b ∧ A < d * 2 ^ (64 * (6 - s)) ∧ 0 < d ∧ d < 2 ^ (64 * (s + 1)) ∧ d < big) := ⟨hQA, hR, hst, hd0, hd1, hdb⟩
  have HL : Hid (bl b + sh = 64 * (s + 1)) := hbl
  have hl1 : (bl b : Int) ≤ 384 := by omega
  have hl2 : ((bl b : Int) + 64 - 1) / 64 = (s : Int) + 1 := by omega
  have hl3 : ((s : Int) + 1) * 64 - (bl b : Int) = (sh : Int) := by omega
  clear cl c1 c2 hdb hd hA hQ hQA hR hst hd0 hd1 hd2 ha hb h0 hbl hbl2
  go_enter Tryd.func21, Tryd.ntmps21
  go_wp2_with fail
  refine (HCL.out _).mono ?_
  rintro e w1 ⟨rfl, hb1⟩
  have d1 := (DM.start w a b).below hb1
  obtain ⟨b0, b1, b2, b3, b4, b5⟩ := d1.rb.reads
  have D1 : Hid _ := d1
  clear d1 hb1
  go_wp2_with fail
  refine (HCL.out _).mono ?_
  rintro e w2 ⟨rfl, hb2⟩
  have d2 := D1.out.below hb2
  clear b0 b1 b2 b3 b4 b5 hb2 D1
  obtain ⟨b0, b1, b2, b3, b4, b5⟩ := d2.rb.reads
  have D2 : Hid _ := d2
  clear d2
  go_wp2_with fail
  refine (HC1.out _).mono ?_
  rintro e w3 ⟨rfl, hb3⟩
  have d3 := D2.out.below hb3
  clear b0 b1 b2 b3 b4 b5 hb3 D2
  obtain ⟨a0, a1, a2, a3, a4, a5⟩ := d3.ra.reads
  have z3 : w.heap.size < w3.heap.size := by have := d3.sz; omega
  have D3 : Hid _ := d3
  clear d3
  go_wp2_with fail
  refine (HC2.out _).mono ?_
  rintro e w4 ⟨rfl, hb4⟩
  have d4 := (D3.out.alloc (O6 d)).below hb4
  have r4 : Row w4 w3.heap.size 6 (wd d) := Row.below hb4 (Row.new w3 _ 33 rfl (six_lt rfl)) (by simp)
  have z4 : w3.heap.size < w4.heap.size := by have := hb4.size; simp at this; omega
  have z5 : w.heap.size + 1 + 1 + 1 < w3.heap.size := D3.out.sz
  have D4 : Hid (_ ∧ _ ∧ _ ∧ _) := ⟨d4, r4, z4, z5⟩
  clear a0 a1 a2 a3 a4 a5 z3 hb4 D3 d4 r4 HCL HC1 HC2 z4 z5
  go_wp2
  go_loopw [12] (fun iv wr => ∃ k : Nat, k + s ≤ 6 ∧ iv = .int .i64 ((k : Int) - 1) ∧ DM w wr a b ∧ Row wr w3.heap.size 6 (wd d) ∧ Row wr w4.heap.size 7 (wd (A % (d * 2 ^ (64 * k)))) ∧ Row wr (w4.heap.size + 1) 6 (topPart Q k) ∧ w4.heap.size + 1 < wr.heap.size) (fun i _ => (RowKit.intOf i + 1).toNat)
  case atStart =>
    obtain ⟨d4, r4, z4, z5⟩ := D4.out
    obtain ⟨m1, m2, m3, m4, m5, m6⟩ := HM.out
    refine ⟨6 - s, by omega, congrArg (Value.int .i64) (by omega), (d4.alloc _).alloc _, (r4.alloc z4 _).alloc (by simp; omega) _, ?_, ?_, by simp⟩
    · rw [Nat.mod_eq_of_lt m3]
      exact (Row.new w4 _ 73 rfl (seven_lt (f := wd A) rfl)).alloc (by simp) _
    · refine (Row.new _ _ 33 (by simp) (six_lt (f := fun _ => 0) rfl)).congr (fun j _ => ?_)
      unfold topPart
      split
      · exact (quo_high Q A d (6 - s) j m1 m4 m3 ‹_›).symm
      · rfl
  case round =>
    obtain ⟨k, hk, rfl, q1, q2, q3, q4, q5⟩ := hrel
    have z4 := D4.out.2.2.1
    have z5 := D4.out.2.2.2
    obtain ⟨b0, b1, b2, b3, b4, b5⟩ := q2.reads
    obtain ⟨a0, a1, a2, a3, a4, a5, a6⟩ := q3.reads7
    by_cases hk0 : 1 ≤ k
    · obtain ⟨i, rfl⟩ : ∃ i, k = i + 1 := ⟨k - 1, by omega⟩
      rw [show (((i + 1 : Nat) : Int) - 1) = (i : Int) by omega]
      have hc : Hid (∀ (wz : World), Calls Tryd.prog 38 #[L7 (A % (d * 2 ^ (64 * (i + 1)))), N d, .int .i64 i, .int .i64 ((s : Int) + 1)] wz fun e w' => e = .returned (.tuple #[.int .u64 (wn Q i : Nat), L7 (A % (d * 2 ^ (64 * i)))]) ∧ Below wz.heap.size wz w') := by
        intro wz
        obtain ⟨m1, m2, m3, m4, m5, m6⟩ := HM.out
        have := divideStep_any (A % (d * 2 ^ (64 * (i + 1)))) d i s m4 m5 (step_lt A d i m4) (by omega) wz
        rw [step_quo, step_rest, ← m1] at this
        exact this
      have HF : Hid (_ ∧ _ ∧ _ ∧ _ ∧ _ ∧ _ ∧ _) := ⟨q1, q2, q3, q4, q5, z4, z5⟩
      clear q1 q2 q3 q4 q5 z4 z5
      generalize hRe : A % (d * 2 ^ (64 * (i + 1))) = R at a0 a1 a2 a3 a4 a5 a6 hc
      generalize hRn : A % (d * 2 ^ (64 * i)) = R2 at hc
      have HRe : Hid _ := hRe
      have HRn : Hid _ := hRn
      clear hRe hRn
      go_wp2_with fail
      refine (hc.out _).mono ?_
      rintro e wt ⟨rfl, hbt⟩
      obtain ⟨q1, q2, q3, q4, q5, z4, z5⟩ := HF.out
      have r1 := q1.below hbt
      have r2 := Row.below hbt q2 (by omega)
      have r3 := Row.below hbt q3 (by omega)
      have r4 := Row.below hbt q4 q5
      have r5 : w4.heap.size + 1 < wt.heap.size := Nat.lt_of_lt_of_le q5 hbt.size
      clear hbt a0 a1 a2 a3 a4 a5 a6 b0 b1 b2 b3 b4 b5 q1 q2 q3 q4 q5 HF
      obtain ⟨a0, a1, a2, a3, a4, a5, a6⟩ := r3.reads7
      obtain ⟨w0, w1', w2', w3', w4', w5, w6⟩ := r3.writes7
      obtain ⟨k1, k2⟩ := r4 i (by omega)
      have HF : Hid (_ ∧ _ ∧ _ ∧ _ ∧ _ ∧ _ ∧ _) := ⟨r1, r2, r3, r4, r5, z4, z5⟩
      clear r1 r2 r3 r4 r5 z4 z5
      go_wp2
      go_roundw
      case rel =>
        obtain ⟨r1, r2, r3, r4, r5, z4, z5⟩ := HF.out
        refine ⟨i, by omega, by go_num, (r1.set (by simp <;> omega) _).past7 (by omega) _ _ _ _ _ _ _, (r2.set_other _ (by simp <;> omega)).past7 (by omega) _ _ _ _ _ _ _, ?_, (((r4.set _).congr (fun j _ => topPart_step (v := Q) (k := i) rfl j)).past7 (by omega) _ _ _ _ _ _ _), by rw [size7]; simpa [World.setCell] using r5⟩
        rw [HRn.out]
        exact (r3.set_other (a := ⟨w4.heap.size + 1, i, none⟩) _ (by simp)).store7 (wd R2)
      case measure => simp [RowKit.intOf] <;> omega
    · have hk00 : k = 0 := by omega
      subst hk00
      rw [show (((0 : Nat) : Int) - 1) = -1 from rfl]
      obtain ⟨m1, m2, m3, m4, m5, m6⟩ := HM.out
      have hRlt : A % d < big := Nat.lt_trans (Nat.mod_lt A m4) m6
      have eR : A % (d * 2 ^ (64 * 0)) = A % d := by rw [Nat.mul_zero, Nat.pow_zero, Nat.mul_one]
      rw [eR] at a0 a1 a2 a3 a4 a5 a6
      have cl := fun w => lower_any (A % d) w
      rw [Nat.mod_eq_of_lt hRlt] at cl
      have cs := fun w => shift_any (A % d) (-(sh : Int)) hRlt w
      rw [shv_back _ _ hRlt hsh, m2] at cs
      have CL : Hid _ := cl
      have CS : Hid _ := cs
      obtain ⟨e0, e1, e2, e3, e4, e5⟩ := q4.reads
      have et : ∀ j, topPart Q 0 j = wd Q j := fun j => if_pos (Nat.zero_le _)
      rw [et] at e0 e1 e2 e3 e4 e5
      have p0_0 : w.heap.size + 1 + 1 < wr.heap.size := by have := q1.sz; omega
      have p0_1 : w.heap.size + 1 + 1 + 1 < wr.heap.size := q1.sz
      have p0_2 : w4.heap.size < wr.heap.size := by omega
      have p0_3 : w4.heap.size + 1 < wr.heap.size := q5
      obtain ⟨x0, x1, x2, x3, x4, x5⟩ := q1.r2.reads
      obtain ⟨t0, t1, t2, t3, t4, t5⟩ := q1.r2.writes
      obtain ⟨y0, y1, y2, y3, y4, y5⟩ := q1.r3.reads
      obtain ⟨u0, u1, u2, u3, u4, u5⟩ := q1.r3.writes
      have ew : IntKind.i64.wrap (-(sh : Int)) = -(sh : Int) := by rw [IntKind.wrap_i64]; omega
      have HW : Hid (Below w.heap.size w wr) := q1.bl
      have n1 : ¬ (w.heap.size + 1 = w4.heap.size) := by omega
      have n2 : ¬ (w.heap.size + 1 + 1 = w4.heap.size) := by omega
      have n3 : ¬ (w.heap.size + 1 + 1 + 1 = w4.heap.size) := by omega
      clear cl cs q1 q2 q3 q4 q5 z4 z5 m1 m2 m3 m4 m5 m6 hRlt eR et D4 HM HL b0 b1 b2 b3 b4 b5
      generalize A % d = R at a0 a1 a2 a3 a4 a5 a6 CL CS
      go_wp2
      go_region_held3 (fun w' => w'.cell? ⟨w4.heap.size, 0, none⟩ = some (.int .u64 (wd R 0)) ∧ w'.cell? ⟨w4.heap.size, 1, none⟩ = some (.int .u64 (wd R 1)) ∧ w'.cell? ⟨w4.heap.size, 2, none⟩ = some (.int .u64 (wd R 2)) ∧ w'.cell? ⟨w4.heap.size, 3, none⟩ = some (.int .u64 (wd R 3)) ∧ w'.cell? ⟨w4.heap.size, 4, none⟩ = some (.int .u64 (wd R 4)) ∧ w'.cell? ⟨w4.heap.size, 5, none⟩ = some (.int .u64 (wd R 5)) ∧ w'.cell? ⟨w4.heap.size, 6, none⟩ = some (.int .u64 (wd R 6)) ∧ w'.cell? ⟨w4.heap.size + 1, 0, none⟩ = some (.int .u64 (wd Q 0)) ∧ w'.cell? ⟨w4.heap.size + 1, 1, none⟩ = some (.int .u64 (wd Q 1)) ∧ w'.cell? ⟨w4.heap.size + 1, 2, none⟩ = some (.int .u64 (wd Q 2)) ∧ w'.cell? ⟨w4.heap.size + 1, 3, none⟩ = some (.int .u64 (wd Q 3)) ∧ w'.cell? ⟨w4.heap.size + 1, 4, none⟩ = some (.int .u64 (wd Q 4)) ∧ w'.cell? ⟨w4.heap.size + 1, 5, none⟩ = some (.int .u64 (wd Q 5))) (simp [go_sem, *])
        (first
          | (go_at_call 39; refine (CL.out _).mono ?_; rintro e v1 ⟨rfl, hb1⟩; obtain ⟨hc1, hf1⟩ := bcell hb1; have c1_0 := fun o => hc1 _ o p0_0; have f1_0 := fun o => hf1 _ o p0_0; have p1_0 := Nat.lt_of_lt_of_le p0_0 hb1.size; have c1_1 := fun o => hc1 _ o p0_1; have f1_1 := fun o => hf1 _ o p0_1; have p1_1 := Nat.lt_of_lt_of_le p0_1 hb1.size; have c1_2 := fun o => hc1 _ o p0_2; have f1_2 := fun o => hf1 _ o p0_2; have p1_2 := Nat.lt_of_lt_of_le p0_2 hb1.size; have c1_3 := fun o => hc1 _ o p0_3; have f1_3 := fun o => hf1 _ o p0_3; have p1_3 := Nat.lt_of_lt_of_le p0_3 hb1.size; clear hc1 hf1)
          | (go_at_call 36; refine (CS.out _).mono ?_; rintro e v2 ⟨rfl, hb2⟩; obtain ⟨hc2, hf2⟩ := bcell hb2; have c2_0 := fun o => hc2 _ o p1_0; have f2_0 := fun o => hf2 _ o p1_0; have p2_0 := Nat.lt_of_lt_of_le p1_0 hb2.size; have c2_1 := fun o => hc2 _ o p1_1; have f2_1 := fun o => hf2 _ o p1_1; have p2_1 := Nat.lt_of_lt_of_le p1_1 hb2.size; have c2_2 := fun o => hc2 _ o p1_2; have f2_2 := fun o => hf2 _ o p1_2; have p2_2 := Nat.lt_of_lt_of_le p1_2 hb2.size; have c2_3 := fun o => hc2 _ o p1_3; have f2_3 := fun o => hf2 _ o p1_3; have p2_3 := Nat.lt_of_lt_of_le p1_3 hb2.size; clear hc2 hf2))
      go_wp2
      have hw2 : Below w.heap.size w v2 := (HW.out.drew.trans (hb1.mono (show w.heap.size ≤ wr.heap.size by omega))).trans (hb2.mono (by omega))
      refine bodyPost_ret (v := .tuple #[N Q, N (a % b), .int .i64 0]) ?_ rfl ⟨rfl, ?_⟩
      · simp [results, Tryd.results21, go_sem, *]
      · exact below6 (below6 hw2 (by omega) _ _ _ _ _ _) (by omega) _ _ _ _ _ _
end Go.Proofs.YtkkloakcphigeaaDoor
end
section
namespace Go.Proofs.YtkkloakcphigeaaDoor
open Go.RowKit
theorem small_big (n : Nat) (h : n < 18446744073709551616) : n < big := Nat.lt_of_lt_of_le (show n < 2 ^ 64 from h) (by
  obtain ⟨m, hm, e⟩ := big_pow
  rw [e]; exact pow_le' _ _ (by omega))
end Go.Proofs.YtkkloakcphigeaaDoor
end
section
namespace Go.Proofs.YtkkloakcphigeaaDoor
open Go.RowKit Go.Lib
/-- What stands in memory while Mul runs: a, b, two results, the product. -/
structure MulMem (w wr : World) (a b : Nat) (p : Nat → Int) : Prop where
  ra : Row wr w.heap.size 6 (wd a)
  rb : Row wr (w.heap.size + 1) 6 (wd b)
  rl : Row wr (w.heap.size + 1 + 1) 6 (fun _ => 0)
  rh : Row wr (w.heap.size + 1 + 1 + 1) 6 (fun _ => 0)
  rp : Row wr (w.heap.size + 1 + 1 + 1 + 1) 12 p
  bl : Below w.heap.size w wr
  sz : wr.heap.size = w.heap.size + 1 + 1 + 1 + 1 + 1
theorem MulMem.store {w wr : World} {a b : Nat} {p : Nat → Int} (h : MulMem w wr a b p) (k : Nat) (v : Int) : MulMem w (wr.setCell ⟨w.heap.size + 1 + 1 + 1 + 1, k, none⟩ (.int .u64 v)) a b (upd p k v) :=
  ⟨h.ra.set_other _ (by first | omega | (simp <;> omega)), h.rb.set_other _ (by first | omega | (simp <;> omega)), h.rl.set_other _ (by first | omega | (simp <;> omega)), h.rh.set_other _ (by first | omega | (simp <;> omega)), h.rp.set _, h.bl.setCell (by first | omega | (simp <;> omega)) _, by simp [World.setCell, h.sz]⟩
theorem MulMem.drew {w wr : World} {a b : Nat} {p : Nat → Int} (h : MulMem w wr a b p) : MulMem w wr.drew a b p :=
  ⟨h.ra.drew, h.rb.drew, h.rl.drew, h.rh.drew, h.rp.drew, h.bl.drew, h.sz⟩
theorem MulMem.congr {w wr : World} {a b : Nat} {p p' : Nat → Int} (h : MulMem w wr a b p) (e : ∀ j, j < 12 → p j = p' j) : MulMem w wr a b p' :=
  ⟨h.ra, h.rb, h.rl, h.rh, h.rp.congr e, h.bl, h.sz⟩
end Go.Proofs.YtkkloakcphigeaaDoor
end
section
namespace Go.Proofs.YtkkloakcphigeaaDoor
open Go.RowKit
/-! The plain law. -/
end Go.Proofs.YtkkloakcphigeaaDoor
end
section
namespace Go.Proofs.YtkkloakcphigeaaDoor
open Go.RowKit
namespace Rg
/-! The word that makes -1 with an odd word. -/
def newt (x i : Int) : Int := (i * ((2 - x * i % 18446744073709551616) % 18446744073709551616)) % 18446744073709551616
def newts (x : Int) : Nat → Int
  | 0 => x
  | k + 1 => newt x (newts x k)
def wrapZ (x : Int) : Int := (-(newts x 5)) % 18446744073709551616
theorem newt_dvd (x i d e : Int) (h : d ∣ 1 - x * i) (he : e ∣ d * d) (hW : e ∣ 18446744073709551616) : e ∣ 1 - x * newt x i := by
  obtain ⟨q, hq⟩ : ∃ q, newt x i = i * (2 - x * i) + 18446744073709551616 * q := by
    unfold newt
    have h1 := Int.emod_def (x * i) 18446744073709551616
    have h2 := Int.emod_def (2 - x * i % 18446744073709551616) 18446744073709551616
    have h3 := Int.emod_def (i * ((2 - x * i % 18446744073709551616) % 18446744073709551616)) 18446744073709551616
    rw [h3]
    rw [h2, h1]
    generalize x * i / 18446744073709551616 = p
    generalize (2 - (x * i - 18446744073709551616 * p)) / 18446744073709551616 = q
    generalize (i * (2 - (x * i - 18446744073709551616 * p) - 18446744073709551616 * q)) / 18446744073709551616 = r
    refine ⟨i * p - i * q - r, ?_⟩
    generalize hxi : x * i = y
    simp only [Int.mul_sub]
    have e1 : i * (18446744073709551616 * p) = 18446744073709551616 * (i * p) := Int.mul_left_comm ..
    have e2 : i * (18446744073709551616 * q) = 18446744073709551616 * (i * q) := Int.mul_left_comm ..
    rw [e1, e2]
    omega
  have e1 : 1 - x * newt x i = (1 - x * i) * (1 - x * i) - 18446744073709551616 * (x * q) := by
    rw [hq, Int.mul_add, ← Int.mul_assoc]
    have e2 : x * (18446744073709551616 * q) = 18446744073709551616 * (x * q) := Int.mul_left_comm ..
    rw [e2]
    generalize x * i = y
    have e3 : y * (2 - y) = 2 * y - y * y := by rw [Int.mul_sub, Int.mul_comm y 2]
    have e4 : (1 - y) * (1 - y) = 1 - 2 * y + y * y := by rw [Int.mul_sub, Int.sub_mul, Int.sub_mul]; omega
    rw [e3, e4]; omega
  rw [e1]
  refine Int.dvd_sub (Int.dvd_trans he ?_) (Int.dvd_trans hW (Int.dvd_mul_right _ _))
  obtain ⟨m, hm⟩ := h
  rw [hm]
  exact ⟨m * m, by rw [Int.mul_assoc, Int.mul_left_comm m d m, ← Int.mul_assoc]⟩
theorem newts_five (x : Int) (ho : x % 2 = 1) : (18446744073709551616 : Int) ∣ 1 - x * newts x 5 := by
  have h0 : (8 : Int) ∣ 1 - x * newts x 0 := by
    show (8 : Int) ∣ 1 - x * x
    obtain ⟨y, hy⟩ : ∃ y, x = 2 * y + 1 := ⟨x / 2, by omega⟩
    have e2 : 2 * y * (2 * y) = 4 * (y * y) := by rw [Int.mul_assoc, Int.mul_left_comm y 2 y, ← Int.mul_assoc]; rfl
    have e : x * x = 4 * (y * (y + 1)) + 1 := by
      rw [hy, Int.mul_add, Int.mul_add, Int.add_mul, e2]
      omega
    have h2 : y * (y + 1) % 2 = 0 := by
      rcases (by omega : y % 2 = 0 ∨ y % 2 = 1) with h | h
      · rw [Int.mul_emod, h]; simp
      · rw [Int.mul_emod, show (y + 1) % 2 = 0 by omega]; simp
    rw [e]
    omega
  have h1 := newt_dvd x _ 8 64 h0 (by decide) (by decide)
  have h2 := newt_dvd x _ 64 4096 h1 (by decide) (by decide)
  have h3 := newt_dvd x _ 4096 16777216 h2 (by decide) (by decide)
  have h4 := newt_dvd x _ 16777216 281474976710656 h3 (by decide) (by decide)
  exact newt_dvd x _ 281474976710656 18446744073709551616 h4 (by decide) (by decide)
theorem wrapZ_bd (x : Int) : 0 ≤ wrapZ x ∧ wrapZ x < 18446744073709551616 := by unfold wrapZ; omega
theorem wrapZ_spec (x : Int) (ho : x % 2 = 1) : wrapZ x * x % 18446744073709551616 = 18446744073709551615 := by
  obtain ⟨m, hm⟩ := newts_five x ho
  have h := Int.emod_def (-(newts x 5)) 18446744073709551616
  unfold wrapZ
  rw [h]
  generalize -(newts x 5) / 18446744073709551616 = q
  rw [Int.sub_mul, Int.neg_mul, Int.mul_comm (newts x 5) x, Int.mul_assoc]
  generalize x * newts x 5 = y at hm
  generalize q * x = z
  omega
/-- The word of a number's modulus, as a natural number. -/
def wrapN (n : Nat) : Nat := (wrapZ (wd n 0)).toNat
theorem wrapN_cast (n : Nat) : ((wrapN n : Nat) : Int) = wrapZ (wd n 0) := Int.toNat_of_nonneg (wrapZ_bd _).1
theorem wrapN_spec (n : Nat) (ho : n % 2 = 1) : wrapN n * n % 18446744073709551616 = 18446744073709551615 := by
  have h0 : wd n 0 = ((n % 18446744073709551616 : Nat) : Int) := by unfold wd; rw [Nat.mul_zero, Nat.pow_zero, Nat.div_one]
  have h := wrapZ_spec (wd n 0) (by rw [h0]; omega)
  rw [← wrapN_cast, h0, ← Int.natCast_mul] at h
  have h1 : wrapN n * (n % 18446744073709551616) % 18446744073709551616 = 18446744073709551615 := by omega
  rw [Nat.mul_mod, Nat.mod_mod, ← Nat.mul_mod] at h1
  exact h1
/-- What stands in memory of a modulus. -/
abbrev modx (n o s : Nat) : List Value := [.int .u64 (wd n 0), .int .u64 (wd n 1), .int .u64 (wd n 2), .int .u64 (wd n 3), .int .u64 (wd n 4), .int .u64 (wd n 5), .int .u64 (wrapZ (wd n 0)), .int .u64 (wd o 0), .int .u64 (wd o 1), .int .u64 (wd o 2), .int .u64 (wd o 3), .int .u64 (wd o 4), .int .u64 (wd o 5), .int .u64 (wd s 0), .int .u64 (wd s 1), .int .u64 (wd s 2), .int .u64 (wd s 3), .int .u64 (wd s 4), .int .u64 (wd s 5)]
abbrev modc (n : Nat) : List Value := modx n (big % n) (big * big % n)
theorem ex_zero6 {ρ : Operand → Value} {o : Oper} {w : World} (ho : o.op = .build 33 #[]) : (execOp ρ o).run Tryd.prog w = .ok (.value (N 0)) w := by
  simp only [execOp, ho]
  go_simp
  simp [wd_zero]
/-- What a modulus may be. -/
structure Ok (n : Nat) : Prop where
  odd : n % 2 = 1
  three : 3 ≤ n
  top : 4 * n < big
theorem Ok.big {n : Nat} (h : Ok n) : n < big := by have := h.top; omega
theorem Ok.pos {n : Nat} (h : Ok n) : 0 < n := by have := h.three; omega
theorem Ok.word {n : Nat} (h : Ok n) : ¬ wd n 0 = 0 := by
  have h0 : wd n 0 = ((n % 18446744073709551616 : Nat) : Int) := by unfold wd; rw [Nat.mul_zero, Nat.pow_zero, Nat.div_one]
  have := h.odd
  rw [h0]; omega
set_option maxRecDepth 100000 in
theorem made_any (g n o s : Nat) (ok : Ok n) (w : World) (hm : Mm w [(g, modx n o s)]) :
    Calls Tryd.prog 51 #[PT g 0] w fun e w' => e = .returned (.bool true) ∧ Below w.heap.size w w' := by
  have H0 : Hid (_ ∧ _) := ⟨hm, Below.refl w.heap.size w⟩
  clear hm
  have hw0 := ok.word
  go_enter Tryd.func51, Tryd.ntmps51
  refine wp_seq ?_
  refine walk_seqB 1 [.quiet (.bool false)] H0 ?ho1 ?he1
  case ho1 => exact ak (fun _ => ⟨rfl, fun _ _ => rfl⟩) trivial
  intro _ w1 H1
  refine rest0 rfl (then_normal (wp_seq ?_))
  refine walk_seqB 11 [.quiet (PT g 0), .quiet (.bool true), .quiet (.bool true), .quiet (PT g 0), .quiet (PT g 0), .quiet (PT g 0), .quiet (PT g 0), .quiet (.int .u64 (wd n 0)), .quiet (.bool true), .quiet (.bool true), .quiet (.bool true)] H1 ?ho2 ?he2
  case ho2 => exact ak (fun _ => ⟨rfl, fun _ _ => rfl⟩) (ak (by refine fun γ => ⟨rfl, fun w' h => ?_⟩; clear h; go_simp) (ak (fun _ => ⟨rfl, fun _ _ => rfl⟩) (ak (fun _ => ⟨rfl, fun _ _ => rfl⟩) (ak (by refine fun γ => ⟨rfl, fun w' h => ?_⟩; clear h; go_simp) (ak (by refine fun γ => ⟨rfl, fun w' h => ?_⟩; clear h; go_simp) (ak (by refine fun γ => ⟨rfl, fun w' h => ?_⟩; clear h; go_simp) (ak (fun γ => ⟨rfl, fun w' h => ex_load1 h 0 rfl rfl rfl rfl⟩) (ak (by refine fun γ => ⟨rfl, fun w' h => ?_⟩; clear h; go_simp) (ak (by refine fun γ => ⟨rfl, fun w' h => ?_⟩; clear h; go_simp) (ak (fun _ => ⟨rfl, fun _ _ => rfl⟩) trivial))))))))))
  intro _ w2 H2
  clear H1
  refine rest0 rfl (then_normal (wp_ret ?_))
  repeat (first | refine then_ret ?_ | refine block_ret ?_)
  refine bodyPost_ret (v := .bool true) (by simp [results, Tryd.results51, go_sem, *]) rfl ?_
  exact ⟨rfl, H2.out.2⟩
end Rg
end Go.Proofs.YtkkloakcphigeaaDoor
end
section
namespace Go.Proofs.YtkkloakcphigeaaDoor
open Go.RowKit
namespace Rg
set_option maxHeartbeats 400000 in
theorem mulAddM_any (a b m c : Int) (ha : 0 ≤ a) (ha' : a < 18446744073709551616) (hb : 0 ≤ b) (hb' : b < 18446744073709551616) (hm : 0 ≤ m) (hm' : m < 18446744073709551616) (hc : 0 ≤ c) (hc' : c < 18446744073709551616) (w : World) :
    Calls Tryd.prog 72 #[.int .u64 a, .int .u64 b, .int .u64 m, .int .u64 c] w fun e w' => e = .returned (.tuple #[.int .u64 (mulLo a b m c), .int .u64 (mulHi a b m c)]) ∧ w' = w := by
  obtain ⟨x, rfl⟩ := Int.eq_ofNat_of_zero_le ha
  obtain ⟨y, rfl⟩ := Int.eq_ofNat_of_zero_le hb
  have hx : x < 18446744073709551616 := by omega
  have hy : y < 18446744073709551616 := by omega
  have e1 : Hid _ := mulAdd_hi x y m c hx hy hm hm' hc hc'
  have e2 : Hid _ := mulAdd_lo x y m c
  have h1 := fun w => add64' (pLo x y) m 0 (by unfold pLo; omega) hm (by omega) (by omega) w
  have h2 := fun w => add64' (addLo (pLo x y) m 0) c 0 (by unfold addLo; omega) hc (by omega) (by omega) w
  have h3 := fun w => mul64' x y hx hy w
  have H3 : Hid _ := h3
  clear ha ha' hb hb' hm hm' hc hc' hx hy h3
  go_enter Tryd.func72, Tryd.ntmps72
  go_wp2_with (go_at_call 70; refine (H3.out _).mono ?_; rintro e w' ⟨rfl, rfl⟩)
  rw [e1.out, e2.out]
  go_ret2
  exact ⟨rfl, rfl⟩
set_option maxHeartbeats 1000000 in
set_option maxRecDepth 100000 in
theorem wrapOf_any (x : Int) (w : World) : Calls Tryd.prog 67 #[.int .u64 x] w fun e w' => e = .returned (.int .u64 (wrapZ x)) ∧ w' = w := by
  have hs : ∀ k, IntKind.u64.wrap (newts x k * IntKind.u64.wrap (2 - IntKind.u64.wrap (x * newts x k))) = newts x (k + 1) := fun k => by
    simp only [IntKind.wrap_u64, newts, newt]
  have HS : Hid _ := hs
  have he : IntKind.u64.wrap (-(newts x 5)) = wrapZ x := by rw [IntKind.wrap_u64]; rfl
  have HE : Hid _ := he
  clear hs he
  go_enter Tryd.func67, Tryd.ntmps67
  go_wp2
  go_loopw [3, 4] (fun c i wr => ∃ k : Nat, k ≤ 5 ∧ c = .int .u64 (newts x k) ∧ i = .int .i64 (3 * 2 ^ k) ∧ wr = w) (fun _ i _ => 96 - (RowKit.intOf i).toNat)
  case atStart => exact ⟨0, by omega, rfl, rfl, rfl⟩
  case round =>
    obtain ⟨k, hk, rfl, rfl, rfl⟩ := hrel
    rcases (by omega : k = 0 ∨ k = 1 ∨ k = 2 ∨ k = 3 ∨ k = 4 ∨ k = 5) with rfl | rfl | rfl | rfl | rfl | rfl
    · go_wp2
      go_roundw
      case rel => exact ⟨1, by omega, congrArg (Value.int .u64) (HS.out 0), by simp⟩
      case measure => simp [RowKit.intOf]
    · go_wp2
      go_roundw
      case rel => exact ⟨2, by omega, congrArg (Value.int .u64) (HS.out 1), by simp⟩
      case measure => simp [RowKit.intOf]
    · go_wp2
      go_roundw
      case rel => exact ⟨3, by omega, congrArg (Value.int .u64) (HS.out 2), by simp⟩
      case measure => simp [RowKit.intOf]
    · go_wp2
      go_roundw
      case rel => exact ⟨4, by omega, congrArg (Value.int .u64) (HS.out 3), by simp⟩
      case measure => simp [RowKit.intOf]
    · go_wp2
      go_roundw
      case rel => exact ⟨5, by omega, congrArg (Value.int .u64) (HS.out 4), by simp⟩
      case measure => simp [RowKit.intOf]
    · go_wp2
      rw [HE.out]
      go_ret
      exact ⟨rfl, rfl⟩
set_option maxRecDepth 100000 in
theorem below_t (g n o s a r : Nat) (c40 : ∀ w, Calls Tryd.prog 53 #[N a, N n] w fun e w' => e = .returned (.tuple #[N r, .bool true]) ∧ Below w.heap.size w w') (w : World) (hm : Mm w [(g, modx n o s)]) :
    Calls Tryd.prog 73 #[PT g 0, N a] w fun e w' => e = .returned (N a) ∧ Below w.heap.size w w' := by
  have H0 : Hid (_ ∧ _) := ⟨hm, Below.refl w.heap.size w⟩
  clear hm
  have C40 : Hid _ := c40
  clear c40
  go_enter Tryd.func73, Tryd.ntmps73
  refine wp_seq ?_
  refine walk_seqA 2 [.made (cells6 a) 33, .made zero6 33] (sB H0) ?ho1 ?he1
  case ho1 => exact ak (fun γ => ⟨rfl, fun w' => ex_box6 rfl rfl⟩) (ak (fun γ => ⟨rfl, fun w' => exec_made6 rfl⟩) trivial)
  intro γ w1 l hM hl
  have H1 : Hid (Mm w1 [(γ 0, cells6 a), (γ 1, zero6), (g, modx n o s)] ∧ _) := growB H0 hM (Nat.le_refl _) hl [0, 1] rfl (by decide)
  have o1_0 := ownB H0 hM (Nat.le_refl _) hl (i := 0) rfl
  have o1_1 := ownB H0 hM (Nat.le_refl _) hl (i := 1) rfl
  clear hM hl l
  generalize γ 0 = γ1_0 at H1 o1_0 ⊢
  generalize γ 1 = γ1_1 at H1 o1_1 ⊢
  clear γ
  refine rest0 rfl (then_normal (wp_seq ?_))
  refine walk_anyA 12 [.quiet (N a), .quiet (PT g 0), .quiet (PT g 0), .quiet (PT g 0), .quiet (N n), .call (.tuple #[N r, .bool true]), .quiet (.tuple #[N r, .bool true]), .quiet (N r), .quiet (.bool true), .made zero6 33, .laid 9 zero6 (cells6 r), .quiet (.bool true)] (sB H1) ?ho2 ?he2 (hL := ?hL2)
  case hL2 => exact ⟨⟨_, rfl⟩, trivial⟩
  case ho2 => exact ak (fun γ => ⟨rfl, fun w' h => ex_load6 h 0 rfl rfl rfl rfl⟩) (ak (fun _ => ⟨rfl, fun _ _ => rfl⟩) (ak (by refine fun γ => ⟨rfl, fun w' h => ?_⟩; clear h; go_simp) (ak (by refine fun γ => ⟨rfl, fun w' h => ?_⟩; clear h; go_simp) (ak (fun γ => ⟨rfl, fun w' h => ex_load6 h 2 rfl rfl rfl rfl⟩) (ak (fun γ => ⟨rfl, fun w' h => ⟨53, #[N a, N n], exec_call rfl call53 rfl (mpn rfl), C40.out w'⟩⟩) (ak (fun _ => ⟨rfl, fun _ _ => rfl⟩) (ak (by refine fun γ => ⟨rfl, fun w' h => ?_⟩; clear h; go_simp) (ak (by refine fun γ => ⟨rfl, fun w' h => ?_⟩; clear h; go_simp) (ak (fun γ => ⟨rfl, fun w' => exec_made6 rfl⟩) (ak (fun γ => ⟨rfl, rfl, rfl, fun w' h => exec_laid6 h rfl rfl rfl⟩) (ak (fun _ => ⟨rfl, fun _ _ => rfl⟩) trivial)))))))))))
  intro γ w2 l hM hl
  have H2 : Hid (Mm w2 [(γ 9, cells6 r), (γ1_0, cells6 a), (γ1_1, zero6), (g, modx n o s)] ∧ _) := growB H1 hM (Nat.le_refl _) hl [9] rfl (by decide)
  have o2_9 := ownB H1 hM (Nat.le_refl _) hl (i := 9) rfl
  clear hM hl l H1
  generalize γ 9 = γ2_9 at H2 o2_9 ⊢
  clear γ
  refine rest0 rfl (then_normal (wp_seq (wp_seq ?_)))
  refine walk_seqB 1 [.quiet (.bool true)] H2 ?ho3 ?he3
  case ho3 => exact ak (fun _ => ⟨rfl, fun _ _ => rfl⟩) trivial
  intro _ w3 H3
  clear H2
  refine rest0 rfl (then_normal (wp_cond_true rfl (wp_seq ?_)))
  refine walk_seqB 1 [.quiet (N a)] H3 ?ho4 ?he4
  case ho4 => exact ak (fun γ => ⟨rfl, fun w' h => ex_load6 h 1 rfl rfl rfl rfl⟩) trivial
  intro _ w4 H4
  clear H3
  refine rest_at (l := [1]) rfl ?_
  refine rest_store rfl rfl rfl (ex_store6 H4.out.1 2 rfl rfl rfl rfl (Nat.le_of_ble_eq_true rfl)) ?_
  have H5 : Hid (Mm (w4.setCells γ1_1 0 (cells6 a)) [(γ2_9, cells6 r), (γ1_0, cells6 a), (γ1_1, cells6 a), (g, modx n o s)] ∧ Below w.heap.size w (w4.setCells γ1_1 0 (cells6 a))) := ⟨H4.out.1.put 2 (off := 0) (vs := cells6 a) rfl (Nat.le_of_ble_eq_true rfl), below_setCells _ o1_1.out _ _ _ H4.out.2⟩
  clear H4
  generalize hgw : World.setCells _ _ _ _ = w5 at H5 ⊢
  clear hgw
  refine rest_nil (then_normal (wp_ret ?_))
  repeat (first | refine then_ret ?_ | refine block_ret ?_)
  have c0 := H5.out.1.get 2 rfl 0 rfl
  have c1 := H5.out.1.get 2 rfl 1 rfl
  have c2 := H5.out.1.get 2 rfl 2 rfl
  have c3 := H5.out.1.get 2 rfl 3 rfl
  have c4 := H5.out.1.get 2 rfl 4 rfl
  have c5 := H5.out.1.get 2 rfl 5 rfl
  refine bodyPost_ret (v := N a) (by simp [results, Tryd.results73, go_sem, *]) rfl ?_
  exact ⟨rfl, H5.out.2⟩
set_option maxRecDepth 100000 in
theorem below_f (g n o s a r : Nat) (c40 : ∀ w, Calls Tryd.prog 53 #[N a, N n] w fun e w' => e = .returned (.tuple #[N r, .bool false]) ∧ Below w.heap.size w w') (w : World) (hm : Mm w [(g, modx n o s)]) :
    Calls Tryd.prog 73 #[PT g 0, N a] w fun e w' => e = .returned (N r) ∧ Below w.heap.size w w' := by
  have H0 : Hid (_ ∧ _) := ⟨hm, Below.refl w.heap.size w⟩
  clear hm
  have C40 : Hid _ := c40
  clear c40
  go_enter Tryd.func73, Tryd.ntmps73
  refine wp_seq ?_
  refine walk_seqA 2 [.made (cells6 a) 33, .made zero6 33] (sB H0) ?ho1 ?he1
  case ho1 => exact ak (fun γ => ⟨rfl, fun w' => ex_box6 rfl rfl⟩) (ak (fun γ => ⟨rfl, fun w' => exec_made6 rfl⟩) trivial)
  intro γ w1 l hM hl
  have H1 : Hid (Mm w1 [(γ 0, cells6 a), (γ 1, zero6), (g, modx n o s)] ∧ _) := growB H0 hM (Nat.le_refl _) hl [0, 1] rfl (by decide)
  have o1_0 := ownB H0 hM (Nat.le_refl _) hl (i := 0) rfl
  have o1_1 := ownB H0 hM (Nat.le_refl _) hl (i := 1) rfl
  clear hM hl l
  generalize γ 0 = γ1_0 at H1 o1_0 ⊢
  generalize γ 1 = γ1_1 at H1 o1_1 ⊢
  clear γ
  refine rest0 rfl (then_normal (wp_seq ?_))
  refine walk_anyA 12 [.quiet (N a), .quiet (PT g 0), .quiet (PT g 0), .quiet (PT g 0), .quiet (N n), .call (.tuple #[N r, .bool false]), .quiet (.tuple #[N r, .bool false]), .quiet (N r), .quiet (.bool false), .made zero6 33, .laid 9 zero6 (cells6 r), .quiet (.bool false)] (sB H1) ?ho2 ?he2 (hL := ?hL2)
  case hL2 => exact ⟨⟨_, rfl⟩, trivial⟩
  case ho2 => exact ak (fun γ => ⟨rfl, fun w' h => ex_load6 h 0 rfl rfl rfl rfl⟩) (ak (fun _ => ⟨rfl, fun _ _ => rfl⟩) (ak (by refine fun γ => ⟨rfl, fun w' h => ?_⟩; clear h; go_simp) (ak (by refine fun γ => ⟨rfl, fun w' h => ?_⟩; clear h; go_simp) (ak (fun γ => ⟨rfl, fun w' h => ex_load6 h 2 rfl rfl rfl rfl⟩) (ak (fun γ => ⟨rfl, fun w' h => ⟨53, #[N a, N n], exec_call rfl call53 rfl (mpn rfl), C40.out w'⟩⟩) (ak (fun _ => ⟨rfl, fun _ _ => rfl⟩) (ak (by refine fun γ => ⟨rfl, fun w' h => ?_⟩; clear h; go_simp) (ak (by refine fun γ => ⟨rfl, fun w' h => ?_⟩; clear h; go_simp) (ak (fun γ => ⟨rfl, fun w' => exec_made6 rfl⟩) (ak (fun γ => ⟨rfl, rfl, rfl, fun w' h => exec_laid6 h rfl rfl rfl⟩) (ak (fun _ => ⟨rfl, fun _ _ => rfl⟩) trivial)))))))))))
  intro γ w2 l hM hl
  have H2 : Hid (Mm w2 [(γ 9, cells6 r), (γ1_0, cells6 a), (γ1_1, zero6), (g, modx n o s)] ∧ _) := growB H1 hM (Nat.le_refl _) hl [9] rfl (by decide)
  have o2_9 := ownB H1 hM (Nat.le_refl _) hl (i := 9) rfl
  clear hM hl l H1
  generalize γ 9 = γ2_9 at H2 o2_9 ⊢
  clear γ
  refine rest0 rfl (then_normal (wp_seq (wp_seq ?_)))
  refine walk_seqB 1 [.quiet (.bool false)] H2 ?ho3 ?he3
  case ho3 => exact ak (fun _ => ⟨rfl, fun _ _ => rfl⟩) trivial
  intro _ w3 H3
  clear H2
  refine rest0 rfl (then_normal (wp_cond_false rfl ?_))
  refine wp_skip (then_normal (wp_seq ?_))
  refine walk_seqB 1 [.quiet (N r)] H3 ?ho4 ?he4
  case ho4 => exact ak (fun γ => ⟨rfl, fun w' h => ex_load6 h 0 rfl rfl rfl rfl⟩) trivial
  intro _ w4 H4
  clear H3
  refine rest_at (l := [1]) rfl ?_
  refine rest_store rfl rfl rfl (ex_store6 H4.out.1 2 rfl rfl rfl rfl (Nat.le_of_ble_eq_true rfl)) ?_
  have H5 : Hid (Mm (w4.setCells γ1_1 0 (cells6 r)) [(γ2_9, cells6 r), (γ1_0, cells6 a), (γ1_1, cells6 r), (g, modx n o s)] ∧ Below w.heap.size w (w4.setCells γ1_1 0 (cells6 r))) := ⟨H4.out.1.put 2 (off := 0) (vs := cells6 r) rfl (Nat.le_of_ble_eq_true rfl), below_setCells _ o1_1.out _ _ _ H4.out.2⟩
  clear H4
  generalize hgw : World.setCells _ _ _ _ = w5 at H5 ⊢
  clear hgw
  refine rest_nil (then_normal (wp_ret ?_))
  repeat (first | refine then_ret ?_ | refine block_ret ?_)
  have c0 := H5.out.1.get 2 rfl 0 rfl
  have c1 := H5.out.1.get 2 rfl 1 rfl
  have c2 := H5.out.1.get 2 rfl 2 rfl
  have c3 := H5.out.1.get 2 rfl 3 rfl
  have c4 := H5.out.1.get 2 rfl 4 rfl
  have c5 := H5.out.1.get 2 rfl 5 rfl
  refine bodyPost_ret (v := N r) (by simp [results, Tryd.results73, go_sem, *]) rfl ?_
  exact ⟨rfl, H5.out.2⟩
theorem below_any (g n o s a : Nat) (ha : a < big) (hn : n < big) (w : World) (hm : Mm w [(g, modx n o s)]) :
    Calls Tryd.prog 73 #[PT g 0, N a] w fun e w' => e = .returned (N (if a < n then a else a - n)) ∧ Below w.heap.size w w' := by
  have c := fun w => sub_any a n ha hn w
  by_cases h : a < n
  · rw [if_pos h]
    simp only [decide_eq_true h] at c
    exact below_t g n o s a _ c w hm
  · rw [if_neg h]
    simp only [decide_eq_false h] at c
    have e : (a + big - n) % big = a - n := by
      rw [show a + big - n = a - n + big by omega, Nat.add_mod_right, Nat.mod_eq_of_lt (by omega)]
    rw [e] at c
    exact below_f g n o s a _ c w hm
end Rg
end Go.Proofs.YtkkloakcphigeaaDoor
end
section
namespace Go.Proofs.YtkkloakcphigeaaDoor
open Go.RowKit
namespace Rg
/-- Slots of a frame, by a list. -/
def slotfn (l : List Value) (d : Nat) : Value := l.getD d undef
/-! Rows of six words. -/
abbrev rowc (f : Nat → Int) : List Value := [.int .u64 (f 0), .int .u64 (f 1), .int .u64 (f 2), .int .u64 (f 3), .int .u64 (f 4), .int .u64 (f 5)]
theorem row_at {f : Nat → Int} {j : Nat} (hj : j < 6) : (rowc f)[0 + j]? = some (.int .u64 (f j)) := by
  match j, hj with
  | 0, _ => rfl
  | 1, _ => rfl
  | 2, _ => rfl
  | 3, _ => rfl
  | 4, _ => rfl
  | 5, _ => rfl
theorem modn_at {n o s j : Nat} (hj : j < 6) : (modx n o s)[0 + j]? = some (.int .u64 (wd n j)) := by
  match j, hj with
  | 0, _ => rfl
  | 1, _ => rfl
  | 2, _ => rfl
  | 3, _ => rfl
  | 4, _ => rfl
  | 5, _ => rfl
theorem patch_row {f : Nat → Int} {j : Nat} {v : Int} (hj : j < 6) : patch (rowc f) (0 + j) [.int .u64 v] = rowc (upd f j v) := by
  match j, hj with
  | 0, _ => rfl
  | 1, _ => rfl
  | 2, _ => rfl
  | 3, _ => rfl
  | 4, _ => rfl
  | 5, _ => rfl
theorem row_bd {f : Nat → Int} {j : Nat} (hj : j < 6) : 0 + j < (rowc f).length := by
  show 0 + j < 6
  omega
theorem row_congr {f g : Nat → Int} (h : ∀ j, j < 6 → f j = g j) : rowc f = rowc g := by
  unfold rowc
  rw [h 0 (by decide), h 1 (by decide), h 2 (by decide), h 3 (by decide), h 4 (by decide), h 5 (by decide)]
theorem ex_indexAddr6 {ρ : Operand → Value} {o : Oper} {x y : Operand} {g off j : Nat} {w : World} (ho : o.op = .indexAddr 33 x y) (hx : ρ x = PT g off) (hy : ρ y = .int .i64 ((j : Nat) : Int)) (hj : j < 6) :
    (execOp ρ o).run Tryd.prog w = .ok (.value (PT g (off + j))) w := by
  have h1 : (j : Int) < 6 := by omega
  simp only [execOp, ho, hx, hy]
  clear ho hx hy
  go_simp
theorem ex_index6 {ρ : Operand → Value} {o : Oper} {x y : Operand} {a j : Nat} {w : World} (ho : o.op = .index 33 x y) (hx : ρ x = N a) (hy : ρ y = .int .i64 ((j : Nat) : Int)) (hj : j < 6) :
    (execOp ρ o).run Tryd.prog w = .ok (.value (.int .u64 (wd a j))) w := by
  simp only [execOp, ho, hx, hy]
  clear ho hx hy
  rcases (by omega : j = 0 ∨ j = 1 ∨ j = 2 ∨ j = 3 ∨ j = 4 ∨ j = 5) with rfl | rfl | rfl | rfl | rfl | rfl <;> kernel_rfl
theorem cells_zero : cells6 0 = zero6 := by simp [cells6, zero6, wd_zero]
theorem cells_start (n wr a b : Nat) : zero6 = cells6 (mrun n wr a b 0) := by show zero6 = cells6 0; exact cells_zero.symm
theorem Mm.at0 {w : World} {g : Nat} {cs cs' : List Value} {l : List (Nat × List Value)} (h : Mm w ((g, cs) :: l)) (e : cs = cs') : Mm w ((g, cs') :: l) := e ▸ h
/-! One round's row. -/
def inn (S Y j m : Nat) : Int := if m + 1 < j then wd Y (m + 1) else wd S m
theorem inn_at {S Y m : Nat} (hj : m + 1 < 6) : (rowc (inn S Y (m + 1)))[0 + (m + 1)]? = some (.int .u64 (wd S (m + 1))) := by
  rw [row_at hj]
  unfold inn
  rw [if_neg (by omega)]
theorem inn_step {S Y m : Nat} {v : Int} (h : v = wd Y (m + 1)) : rowc (upd (inn S Y (m + 1)) m v) = rowc (inn S Y (m + 1 + 1)) := row_congr fun j _ => by
  unfold upd inn
  by_cases h1 : j = m
  · subst h1; rw [if_pos rfl, if_pos (by omega), h]
  · rw [if_neg h1]
    by_cases h2 : j + 1 < m + 1
    · rw [if_pos h2, if_pos (by omega)]
    · rw [if_neg h2, if_neg (by omega)]
theorem patch_row5 {f : Nat → Int} {v : Int} : patch (rowc f) 5 [.int .u64 v] = rowc (upd f 5 v) := rfl
theorem inn_end {S Y Z : Nat} {v : Int} (hv : v = wd Z 5) (h : ∀ k, k < 5 → wd Z k = wd Y (k + 1)) : rowc (upd (inn S Y 6) 5 v) = cells6 Z := by
  show _ = rowc (wd Z)
  refine row_congr fun j hj => ?_
  unfold upd inn
  by_cases h1 : j = 5
  · subst h1; rw [if_pos rfl, hv]
  · rw [if_neg h1, if_pos (by omega), h j (by omega)]
theorem first_lo (x y : Nat) (m : Int) : addLo (pLo x y) m 0 = mulLo x y m 0 := by
  unfold addLo pLo mulLo
  rw [← Int.natCast_mul]
  generalize x * y = p
  omega
theorem first_hi (x y : Nat) (m : Int) (hx : x < 18446744073709551616) (hy : y < 18446744073709551616) (hm : 0 ≤ m) (hm' : m < 18446744073709551616) :
    IntKind.u64.wrap (pHi x y + addHi (pLo x y) m 0) = mulHi x y m 0 := by
  have h := prod_le x y hx hy
  rw [IntKind.wrap_u64]
  unfold addHi pLo pHi mulHi
  rw [← Int.natCast_mul]
  generalize x * y = p at h ⊢
  omega
theorem call73 : ∀ args w, (callFunc 73 args).run Tryd.prog w = .ok (.enter 73 args) w := by intro args w; go_simp
theorem call70 : ∀ args w, (callFunc 70 args).run Tryd.prog w = .ok (.enter 70 args) w := by intro args w; go_simp
theorem call72 : ∀ args w, (callFunc 72 args).run Tryd.prog w = .ok (.enter 72 args) w := by intro args w; go_simp
end Rg
end Go.Proofs.YtkkloakcphigeaaDoor
end
section
namespace Go.Proofs.YtkkloakcphigeaaDoor
open Go.RowKit
namespace Rg
set_option maxHeartbeats 4000000 in
set_option maxRecDepth 100000 in
theorem product_any (g n o s a b : Nat) (ok : Ok n) (ha : a < big) (hbn : b < n) (w : World) (hm : Mm w [(g, modx n o s)]) :
    Calls Tryd.prog 52 #[PT g 0, N a, N b] w fun e w' => e = .returned (N (mont n a b)) ∧ Below w.heap.size w w' := by
  have H0 : Hid (_ ∧ _) := ⟨hm, Below.refl w.heap.size w⟩
  clear hm
  have hb : b < big := Nat.lt_trans hbn ok.big
  have cG : ∀ w, Mm w [(g, modx n o s)] → Calls Tryd.prog 73 #[PT g 0, N (mrun n (wrapN n) a b 6)] w fun e w' => e = .returned (N (mont n a b)) ∧ Below w.heap.size w w' := fun w hm => by
    have h1 := mrun_lt n (wrapN n) a b ok.pos 6
    have h2 := below_any g n o s (mrun n (wrapN n) a b 6) (by have := ok.top; omega) ok.big w hm
    rw [low_cut n _ _ (mrun_end n (wrapN n) a b ok.odd (wrapN_spec n ok.odd) ha) (by omega) (mont_lt n a b ok.pos)] at h2
    exact h2
  have CG : Hid _ := cG
  have HA : Hid _ := ha
  clear cG ha
  go_enter Tryd.func52, Tryd.ntmps52
  refine wp_seq ?_
  refine walk_seqA 3 [.made (cells6 a) 33, .made (cells6 b) 33, .made zero6 33] (sB H0) ?ho1 ?he1
  case ho1 => exact ak (fun γ => ⟨rfl, fun w' => ex_box6 rfl rfl⟩) (ak (fun γ => ⟨rfl, fun w' => ex_box6 rfl rfl⟩) (ak (fun γ => ⟨rfl, fun w' => exec_made6 rfl⟩) trivial))
  intro γ w1 l hM hl
  have M1 : Mm w1 [(γ 0, cells6 a), (γ 1, cells6 b), (γ 2, zero6), (g, modx n o s)] := H0.out.1.grow hM (Nat.le_refl _) hl [0, 1, 2] rfl (by decide)
  have B1 : Below w.heap.size w w1 := H0.out.2.trans ((hM.below).mono H0.out.2.size)
  have o1_0 : Hid (w.heap.size ≤ γ 0) := Nat.le_trans H0.out.2.size (hM.fin (Nat.le_refl _) hl (i := 0) rfl).2.1
  have o1_1 : Hid (w.heap.size ≤ γ 1) := Nat.le_trans H0.out.2.size (hM.fin (Nat.le_refl _) hl (i := 1) rfl).2.1
  have o1_2 : Hid (w.heap.size ≤ γ 2) := Nat.le_trans H0.out.2.size (hM.fin (Nat.le_refl _) hl (i := 2) rfl).2.1
  clear hM hl l
  generalize γ 0 = γ1_0 at M1 o1_0 ⊢
  generalize γ 1 = γ1_1 at M1 o1_1 ⊢
  generalize γ 2 = γ1_2 at M1 o1_2 ⊢
  clear γ
  have H1 : Hid (_ ∧ _) := ⟨M1, B1⟩
  clear M1 B1
  refine rest0 rfl (then_normal (wp_seq ?_))
  refine walk_seqA 1 [.made zero6 33] (sB H1) ?ho2 ?he2
  case ho2 => exact ak (fun γ => ⟨rfl, fun w' => exec_made6 rfl⟩) trivial
  intro γ w2 l hM hl
  have M2 : Mm w2 [(γ 0, zero6), (γ1_0, cells6 a), (γ1_1, cells6 b), (γ1_2, zero6), (g, modx n o s)] := H1.out.1.grow hM (Nat.le_refl _) hl [0] rfl (by decide)
  have B2 : Below w.heap.size w w2 := H1.out.2.trans ((hM.below).mono H1.out.2.size)
  have o2_0 : Hid (w.heap.size ≤ γ 0) := Nat.le_trans H1.out.2.size (hM.fin (Nat.le_refl _) hl (i := 0) rfl).2.1
  clear hM hl l H1
  generalize γ 0 = γ2_0 at M2 o2_0 ⊢
  clear γ
  have H2 : Hid (_ ∧ _) := ⟨M2, B2⟩
  clear M2 B2
  refine rest0 rfl (then_normal (wp_seq (wp_seq ?_)))
  refine walk_seqA 2 [.quiet (N a), .quiet (.int .i64 0)] (sB H2) ?ho3 ?he3
  case ho3 => exact ak (fun γ => ⟨rfl, fun w' h => ex_load6 h 1 rfl rfl rfl rfl⟩) (ak (fun _ => ⟨rfl, fun _ _ => rfl⟩) trivial)
  intro γ w3 l hM hl
  have M3 : Mm w3 [(γ2_0, zero6), (γ1_0, cells6 a), (γ1_1, cells6 b), (γ1_2, zero6), (g, modx n o s)] := H2.out.1.grow hM (Nat.le_refl _) hl [] rfl (by decide)
  have B3 : Below w.heap.size w w3 := H2.out.2.trans ((hM.below).mono H2.out.2.size)
  clear hM hl l H2
  clear γ
  have H3 : Hid (_ ∧ _) := ⟨M3, B3⟩
  clear M3 B3
  refine rest0 rfl (then_normal (wp_block ?_))
  refine loop_ghost (α := Nat) (fun i a' w' => ∃ s0 : Nat → Value, a' = ⟨#[PT g 0, N a, N b, undef, PT γ1_0 0, PT γ1_1 0, PT γ1_2 0, PT γ2_0 0, undef, s0 9, s0 10, s0 11, s0 12, s0 13, s0 14, s0 15, s0 16, s0 17, N a, .int .i64 ((i : Nat) : Int), s0 20, s0 21, s0 22, s0 23, s0 24, s0 25, s0 26, s0 27, s0 28, s0 29, s0 30, s0 31, s0 32, s0 33, s0 34, s0 35, s0 36, s0 37, s0 38, s0 39, s0 40, s0 41, s0 42, s0 43, s0 44, s0 45, s0 46, s0 47, s0 48, s0 49, s0 50, s0 51, s0 52, s0 53, s0 54, s0 55, s0 56, s0 57, s0 58, s0 59, s0 60, s0 61, s0 62, s0 63, s0 64, s0 65, s0 66, s0 67, s0 68, s0 69, s0 70, s0 71, s0 72, s0 73, s0 74, s0 75, s0 76, s0 77, s0 78, s0 79, s0 80, s0 81, s0 82, s0 83, s0 84, s0 85, s0 86, s0 87, s0 88, s0 89, s0 90, s0 91, s0 92, s0 93, s0 94, s0 95, s0 96, s0 97, s0 98, s0 99, s0 100, undef, undef, undef], []⟩ ∧ (Mm w' [(γ2_0, cells6 (mrun n (wrapN n) a b i)), (γ1_0, cells6 a), (γ1_1, cells6 b), (γ1_2, zero6), (g, modx n o s)] ∧ Below w.heap.size w w') ∧ i ≤ 6) (fun i => 6 - i) 0 ?st0 ?rd0
  case st0 => exact ⟨(slotfn [undef, undef, undef, undef, undef, undef, undef, undef, undef, undef, undef, undef, undef, undef, undef, undef, undef, undef, undef, undef, undef, undef, undef, undef, undef, undef, undef, undef, undef, undef, undef, undef, undef, undef, undef, undef, undef, undef, undef, undef, undef, undef, undef, undef, undef, undef, undef, undef, undef, undef, undef, undef, undef, undef, undef, undef, undef, undef, undef, undef, undef, undef, undef, undef, undef, undef, undef, undef, undef, undef, undef, undef, undef, undef, undef, undef, undef, undef, undef, undef, undef, undef, undef, undef, undef, undef, undef, undef, undef, undef, undef, undef, undef, undef, undef, undef, undef, undef, undef, undef, undef]), rfl, ⟨H3.out.1.at0 (cells_start n (wrapN n) a b), H3.out.2⟩, by omega⟩
  intro i a' w4 hI
  obtain ⟨s0, rfl, hMB, hk0⟩ := hI
  have H4 : Hid (_ ∧ _) := hMB
  clear hMB H3
  by_cases hlt : i < 6
  · have hrd : True := trivial
    clear hrd
    have hx := wn_lt a i
    have hS0 := mrun_lt n (wrapN n) a b (by have := ok.three; omega) i
    obtain ⟨S, hS⟩ : ∃ S, S = mrun n (wrapN n) a b i := ⟨_, rfl⟩
    obtain ⟨X, hX⟩ : ∃ X, X = S + wn a i * b := ⟨_, rfl⟩
    obtain ⟨t, ht⟩ : ∃ t, t = mt X (wrapN n) := ⟨_, rfl⟩
    obtain ⟨Y, hY⟩ : ∃ Y, Y = X + t * n := ⟨_, rfl⟩
    obtain ⟨Z, hZ⟩ : ∃ Z, Z = mrun n (wrapN n) a b (i + 1) := ⟨_, rfl⟩
    have hZ1 : Z = mstep n (wrapN n) b S (wn a i) := by rw [hZ, hS]; rfl
    have htl : t < 18446744073709551616 := by rw [ht]; exact mt_lt _ _
    have hZ2 : Z < big := by have h1 := mrun_lt n (wrapN n) a b ok.pos (i + 1); have h2 := ok.top; rw [hZ]; omega
    have hS2 : S < big := by have h2 := ok.top; rw [hS]; omega
    have e1 : addLo (pLo (wn a i) (wn b 0)) (wd S 0) 0 = wd X 0 := by
      have h := cc_lo S (wn a i) b 0
      rw [cc_zero] at h
      rw [first_lo, hX, ← h]; rfl
    have e2 : IntKind.u64.wrap (pHi (wn a i) (wn b 0) + addHi (pLo (wn a i) (wn b 0)) (wd S 0) 0) = (cc S (wn a i) b 1 : Nat) := by
      have h := cc_hi S (wn a i) b 0
      rw [cc_zero] at h
      rw [first_hi _ _ _ hx (wn_lt b 0) (wd_bd S 0).1 (wd_bd S 0).2, ← h]; rfl
    have e3 : IntKind.u64.wrap (wd X 0 * wrapZ (wd n 0)) = (t : Nat) := by
      rw [IntKind.wrap_u64, ← wrapN_cast, ht, wd_wn]
      unfold mt wn
      rw [Nat.mul_zero, Nat.pow_zero, Nat.div_one, ← Int.natCast_mul]; rfl
    have e4 : IntKind.u64.wrap (pHi t (wn n 0) + addHi (pLo t (wn n 0)) (wd X 0) 0) = (cc X t n 1 : Nat) := by
      have h := cc_hi X t n 0
      rw [cc_zero] at h
      rw [first_hi _ _ _ htl (wn_lt n 0) (wd_bd X 0).1 (wd_bd X 0).2, ← h]; rfl
    have e5 : IntKind.u64.wrap (((cc S (wn a i) b 6 : Nat) : Int) + ((cc X t n 6 : Nat) : Int)) = wd Z 5 := by
      have h := step_top n (wrapN n) b S (wn a i) hS2 hb ok.big (by rw [← hZ1]; exact hZ2)
      rw [← hX, ← ht, ← hZ1] at h
      have h2 := wn_lt Z 5
      rw [IntKind.wrap_u64, wd_wn, ← h]
      omega
    have e6 : ∀ k, k < 5 → wd Z k = wd Y (k + 1) := fun k _ => by rw [hZ1, step_word, hY, hX, ht, ← hX]
    have cA : ∀ m, ∀ w, Calls Tryd.prog 72 #[.int .u64 (wd a i), .int .u64 (wd b m), .int .u64 (wd S m), .int .u64 ((cc S (wn a i) b m : Nat) : Int)] w fun e w' => e = .returned (.tuple #[.int .u64 (wd X m), .int .u64 ((cc S (wn a i) b (m + 1) : Nat) : Int)]) ∧ Below w.heap.size w w' := fun m w => by
      have h := mulAddM_any (wd a i) (wd b m) (wd S m) ((cc S (wn a i) b m : Nat) : Int) (wd_bd _ _).1 (wd_bd _ _).2 (wd_bd _ _).1 (wd_bd _ _).2 (wd_bd _ _).1 (wd_bd _ _).2 (Int.natCast_nonneg _) (by have := cc_lt S (wn a i) b m hx; omega) w
      rw [wd_wn a i, cc_lo, cc_hi, ← hX] at h
      exact h.mono fun e w2 ⟨h1, h2⟩ => ⟨h1, h2 ▸ Below.refl _ _⟩
    have cB : ∀ m, ∀ w, Calls Tryd.prog 72 #[.int .u64 ((t : Nat) : Int), .int .u64 (wd n m), .int .u64 (wd X m), .int .u64 ((cc X t n m : Nat) : Int)] w fun e w' => e = .returned (.tuple #[.int .u64 (wd Y m), .int .u64 ((cc X t n (m + 1) : Nat) : Int)]) ∧ Below w.heap.size w w' := fun m w => by
      have h := mulAddM_any ((t : Nat) : Int) (wd n m) (wd X m) ((cc X t n m : Nat) : Int) (Int.natCast_nonneg _) (by omega) (wd_bd _ _).1 (wd_bd _ _).2 (wd_bd _ _).1 (wd_bd _ _).2 (Int.natCast_nonneg _) (by have := cc_lt X t n m htl; omega) w
      rw [cc_lo, cc_hi, ← hY] at h
      exact h.mono fun e w2 ⟨h1, h2⟩ => ⟨h1, h2 ▸ Below.refl _ _⟩
    have cC : ∀ w, Calls Tryd.prog 70 #[.int .u64 (wd a i), .int .u64 (wd b 0)] w fun e w' => e = .returned (.tuple #[.int .u64 (pHi (wn a i) (wn b 0)), .int .u64 (pLo (wn a i) (wn b 0))]) ∧ Below w.heap.size w w' := fun w =>
      (mul64' (wn a i) (wn b 0) hx (wn_lt b 0) w).mono fun e w2 ⟨h1, h2⟩ => ⟨h1, h2 ▸ Below.refl _ _⟩
    have cD : ∀ w, Calls Tryd.prog 70 #[.int .u64 ((t : Nat) : Int), .int .u64 (wd n 0)] w fun e w' => e = .returned (.tuple #[.int .u64 (pHi t (wn n 0)), .int .u64 (pLo t (wn n 0))]) ∧ Below w.heap.size w w' := fun w =>
      (mul64' t (wn n 0) htl (wn_lt n 0) w).mono fun e w2 ⟨h1, h2⟩ => ⟨h1, h2 ▸ Below.refl _ _⟩
    have cE := fun w => add64' (pLo (wn a i) (wn b 0)) (wd S 0) 0 (by unfold pLo; omega) (wd_bd S 0).1 (by omega) (by omega) w
    rw [e1] at cE
    have cF := fun w => add64' (pLo t (wn n 0)) (wd X 0) 0 (by unfold pLo; omega) (wd_bd X 0).1 (by omega) (by omega) w
    have CA : Hid _ := cA
    have CB : Hid _ := cB
    have CC : Hid _ := cC
    have CD : Hid _ := cD
    have CE : Hid _ := cE
    have CF : Hid _ := cF
    have E6 : Hid _ := e6
    have HZ : Hid _ := hZ
    rw [← hS] at H4
    clear cA cB cC cD cE cF e6 hZ hZ1 hZ2 hS hS2 hS0 hX ht hY htl hx e1
    generalize addHi (pLo (wn a i) (wn b 0)) (wd S 0) 0 = k1 at e2 CE
    generalize addHi (pLo t (wn n 0)) (wd X 0) 0 = k2 at e4 CF
    generalize addLo (pLo t (wn n 0)) (wd X 0) 0 = z2 at CF
    generalize pHi (wn a i) (wn b 0) = h1 at e2 CC
    generalize pLo (wn a i) (wn b 0) = l1 at CC CE
    generalize pHi t (wn n 0) = h2 at e4 CD
    generalize pLo t (wn n 0) = l2 at CD CF
    refine wp_seq ?_
    refine walk_seqA 1 [.quiet (.bool true)] (sB H4) ?ho4 ?he4
    case ho4 => exact ak (by refine fun γ => ⟨rfl, fun w' h => ?_⟩; clear h; go_simp <;> omega) trivial
    intro γ w5 l hM hl
    have M5 : Mm w5 [(γ2_0, cells6 S), (γ1_0, cells6 a), (γ1_1, cells6 b), (γ1_2, zero6), (g, modx n o s)] := H4.out.1.grow hM (Nat.le_refl _) hl [] rfl (by decide)
    have B5 : Below w.heap.size w w5 := H4.out.2.trans ((hM.below).mono H4.out.2.size)
    clear hM hl l H4
    clear γ
    have H5 : Hid (_ ∧ _) := ⟨M5, B5⟩
    clear M5 B5
    refine rest0 rfl (then_normal (wp_seq ?_))
    refine wp_cond_true rfl (wp_skip ?_)
    refine then_normal (wp_seq ?_)
    refine wp_block (wp_seq ?_)
    refine walk_seqA 2 [.quiet (.int .u64 (wd a i)), .quiet (.int .u64 (wd a i))] (sB H5) ?ho5 ?he5
    case ho5 => exact ak (fun γ => ⟨rfl, fun w' _ => ex_index6 rfl rfl rfl hlt⟩) (ak (fun _ => ⟨rfl, fun _ _ => rfl⟩) trivial)
    intro γ w6 l hM hl
    have M6 : Mm w6 [(γ2_0, cells6 S), (γ1_0, cells6 a), (γ1_1, cells6 b), (γ1_2, zero6), (g, modx n o s)] := H5.out.1.grow hM (Nat.le_refl _) hl [] rfl (by decide)
    have B6 : Below w.heap.size w w6 := H5.out.2.trans ((hM.below).mono H5.out.2.size)
    clear hM hl l H5
    clear γ
    have H6 : Hid (_ ∧ _) := ⟨M6, B6⟩
    clear M6 B6
    refine rest0 rfl (then_normal (wp_seq ?_))
    refine walk_seqA 9 [.quiet (.int .u64 (wd a i)), .quiet (PT γ1_1 0), .quiet (.int .u64 (wd b 0)), .call (.tuple #[.int .u64 h1, .int .u64 l1]), .quiet (.tuple #[.int .u64 h1, .int .u64 l1]), .quiet (.int .u64 h1), .quiet (.int .u64 l1), .quiet (.int .u64 h1), .quiet (.int .u64 l1)] (sB H6) ?ho6 ?he6
    case ho6 => exact ak (fun _ => ⟨rfl, fun _ _ => rfl⟩) (ak (by refine fun γ => ⟨rfl, fun w' h => ?_⟩; clear h; go_simp) (ak (fun γ => ⟨rfl, fun w' h => ex_load1 h 2 rfl rfl rfl rfl⟩) (ak (fun γ => ⟨rfl, fun w' h => ⟨70, #[.int .u64 (wd a i), .int .u64 (wd b 0)], exec_call rfl call70 rfl (mpn rfl), CC.out w'⟩⟩) (ak (fun _ => ⟨rfl, fun _ _ => rfl⟩) (ak (by refine fun γ => ⟨rfl, fun w' h => ?_⟩; clear h; go_simp) (ak (by refine fun γ => ⟨rfl, fun w' h => ?_⟩; clear h; go_simp) (ak (fun _ => ⟨rfl, fun _ _ => rfl⟩) (ak (fun _ => ⟨rfl, fun _ _ => rfl⟩) trivial))))))))
    intro γ w7 l hM hl
    have M7 : Mm w7 [(γ2_0, cells6 S), (γ1_0, cells6 a), (γ1_1, cells6 b), (γ1_2, zero6), (g, modx n o s)] := H6.out.1.grow hM (Nat.le_refl _) hl [] rfl (by decide)
    have B7 : Below w.heap.size w w7 := H6.out.2.trans ((hM.below).mono H6.out.2.size)
    clear hM hl l H6
    clear γ
    have H7 : Hid (_ ∧ _) := ⟨M7, B7⟩
    clear M7 B7
    refine rest0 rfl (then_normal (wp_seq ?_))
    refine walk_seqA 7 [.quiet (.int .u64 l1), .quiet (PT γ2_0 0), .quiet (.int .u64 (wd S 0)), .quiet (.tuple #[.int .u64 (wd X 0), .int .u64 k1]), .quiet (.tuple #[.int .u64 (wd X 0), .int .u64 k1]), .quiet (.int .u64 (wd X 0)), .quiet (.int .u64 k1)] (sB H7) ?ho7 ?he7
    case ho7 => exact ak (fun _ => ⟨rfl, fun _ _ => rfl⟩) (ak (by refine fun γ => ⟨rfl, fun w' h => ?_⟩; clear h; go_simp) (ak (fun γ => ⟨rfl, fun w' h => ex_load1 h 0 rfl rfl rfl rfl⟩) (ak (fun γ => ⟨rfl, fun w' h => ex_extern rfl (CE.out w') rfl (mpn rfl)⟩) (ak (fun _ => ⟨rfl, fun _ _ => rfl⟩) (ak (by refine fun γ => ⟨rfl, fun w' h => ?_⟩; clear h; go_simp) (ak (by refine fun γ => ⟨rfl, fun w' h => ?_⟩; clear h; go_simp) trivial))))))
    intro γ w8 l hM hl
    have M8 : Mm w8 [(γ2_0, cells6 S), (γ1_0, cells6 a), (γ1_1, cells6 b), (γ1_2, zero6), (g, modx n o s)] := H7.out.1.grow hM (Nat.le_refl _) hl [] rfl (by decide)
    have B8 : Below w.heap.size w w8 := H7.out.2.trans ((hM.below).mono H7.out.2.size)
    clear hM hl l H7
    clear γ
    have H8 : Hid (_ ∧ _) := ⟨M8, B8⟩
    clear M8 B8
    refine rest_at (l := [7, 8]) rfl ?_
    refine rest_set (d := 11) rfl rfl rfl rfl ?_
    simp only [Act.put, sa, sz, ss]
    refine rest_set (d := 12) rfl rfl rfl rfl ?_
    simp only [Act.put, sa, sz, ss]
    refine rest_nil (then_normal (wp_seq ?_))
    refine walk_seqA 4 [.quiet (.int .u64 h1), .quiet (.int .u64 k1), .quiet (.int .u64 ((cc S (wn a i) b 1 : Nat) : Int)), .quiet (.int .u64 ((cc S (wn a i) b 1 : Nat) : Int))] (sB H8) ?ho8 ?he8
    case ho8 => exact ak (fun _ => ⟨rfl, fun _ _ => rfl⟩) (ak (fun _ => ⟨rfl, fun _ _ => rfl⟩) (ak (by refine fun γ => ⟨rfl, fun w' h => ?_⟩; clear h; go_simp) (ak (fun _ => ⟨rfl, fun _ _ => rfl⟩) trivial)))
    intro γ w9 l hM hl
    have M9 : Mm w9 [(γ2_0, cells6 S), (γ1_0, cells6 a), (γ1_1, cells6 b), (γ1_2, zero6), (g, modx n o s)] := H8.out.1.grow hM (Nat.le_refl _) hl [] rfl (by decide)
    have B9 : Below w.heap.size w w9 := H8.out.2.trans ((hM.below).mono H8.out.2.size)
    clear hM hl l H8
    clear γ
    have H9 : Hid (_ ∧ _) := ⟨M9, B9⟩
    clear M9 B9
    refine rest0 rfl (then_normal (wp_seq ?_))
    refine walk_seqA 7 [.quiet (.int .u64 (wd X 0)), .quiet (PT g 0), .quiet (PT g 0), .quiet (PT g 6), .quiet (.int .u64 (wrapZ (wd n 0))), .quiet (.int .u64 ((t : Nat) : Int)), .quiet (.int .u64 ((t : Nat) : Int))] (sB H9) ?ho9 ?he9
    case ho9 => exact ak (fun _ => ⟨rfl, fun _ _ => rfl⟩) (ak (fun _ => ⟨rfl, fun _ _ => rfl⟩) (ak (by refine fun γ => ⟨rfl, fun w' h => ?_⟩; clear h; go_simp) (ak (by refine fun γ => ⟨rfl, fun w' h => ?_⟩; clear h; go_simp) (ak (fun γ => ⟨rfl, fun w' h => ex_load1 h 4 rfl rfl rfl rfl⟩) (ak (by refine fun γ => ⟨rfl, fun w' h => ?_⟩; clear h; go_simp) (ak (fun _ => ⟨rfl, fun _ _ => rfl⟩) trivial))))))
    intro γ w10 l hM hl
    have M10 : Mm w10 [(γ2_0, cells6 S), (γ1_0, cells6 a), (γ1_1, cells6 b), (γ1_2, zero6), (g, modx n o s)] := H9.out.1.grow hM (Nat.le_refl _) hl [] rfl (by decide)
    have B10 : Below w.heap.size w w10 := H9.out.2.trans ((hM.below).mono H9.out.2.size)
    clear hM hl l H9
    clear γ
    have H10 : Hid (_ ∧ _) := ⟨M10, B10⟩
    clear M10 B10
    refine rest0 rfl (then_normal (wp_seq ?_))
    refine walk_seqA 12 [.quiet (.int .u64 ((t : Nat) : Int)), .quiet (PT g 0), .quiet (PT g 0), .quiet (PT g 0), .quiet (PT g 0), .quiet (.int .u64 (wd n 0)), .call (.tuple #[.int .u64 h2, .int .u64 l2]), .quiet (.tuple #[.int .u64 h2, .int .u64 l2]), .quiet (.int .u64 h2), .quiet (.int .u64 l2), .quiet (.int .u64 h2), .quiet (.int .u64 l2)] (sB H10) ?ho10 ?he10
    case ho10 => exact ak (fun _ => ⟨rfl, fun _ _ => rfl⟩) (ak (fun _ => ⟨rfl, fun _ _ => rfl⟩) (ak (by refine fun γ => ⟨rfl, fun w' h => ?_⟩; clear h; go_simp) (ak (by refine fun γ => ⟨rfl, fun w' h => ?_⟩; clear h; go_simp) (ak (by refine fun γ => ⟨rfl, fun w' h => ?_⟩; clear h; go_simp) (ak (fun γ => ⟨rfl, fun w' h => ex_load1 h 4 rfl rfl rfl rfl⟩) (ak (fun γ => ⟨rfl, fun w' h => ⟨70, #[.int .u64 ((t : Nat) : Int), .int .u64 (wd n 0)], exec_call rfl call70 rfl (mpn rfl), CD.out w'⟩⟩) (ak (fun _ => ⟨rfl, fun _ _ => rfl⟩) (ak (by refine fun γ => ⟨rfl, fun w' h => ?_⟩; clear h; go_simp) (ak (by refine fun γ => ⟨rfl, fun w' h => ?_⟩; clear h; go_simp) (ak (fun _ => ⟨rfl, fun _ _ => rfl⟩) (ak (fun _ => ⟨rfl, fun _ _ => rfl⟩) trivial)))))))))))
    intro γ w11 l hM hl
    have M11 : Mm w11 [(γ2_0, cells6 S), (γ1_0, cells6 a), (γ1_1, cells6 b), (γ1_2, zero6), (g, modx n o s)] := H10.out.1.grow hM (Nat.le_refl _) hl [] rfl (by decide)
    have B11 : Below w.heap.size w w11 := H10.out.2.trans ((hM.below).mono H10.out.2.size)
    clear hM hl l H10
    clear γ
    have H11 : Hid (_ ∧ _) := ⟨M11, B11⟩
    clear M11 B11
    refine rest0 rfl (then_normal (wp_seq ?_))
    refine walk_seqA 7 [.quiet (.int .u64 l2), .quiet (.int .u64 (wd X 0)), .quiet (.tuple #[.int .u64 z2, .int .u64 k2]), .quiet (.tuple #[.int .u64 z2, .int .u64 k2]), .quiet (.int .u64 z2), .quiet (.int .u64 k2), .quiet (.int .u64 k2)] (sB H11) ?ho11 ?he11
    case ho11 => exact ak (fun _ => ⟨rfl, fun _ _ => rfl⟩) (ak (fun _ => ⟨rfl, fun _ _ => rfl⟩) (ak (fun γ => ⟨rfl, fun w' h => ex_extern rfl (CF.out w') rfl (mpn rfl)⟩) (ak (fun _ => ⟨rfl, fun _ _ => rfl⟩) (ak (by refine fun γ => ⟨rfl, fun w' h => ?_⟩; clear h; go_simp) (ak (by refine fun γ => ⟨rfl, fun w' h => ?_⟩; clear h; go_simp) (ak (fun _ => ⟨rfl, fun _ _ => rfl⟩) trivial))))))
    intro γ w12 l hM hl
    have M12 : Mm w12 [(γ2_0, cells6 S), (γ1_0, cells6 a), (γ1_1, cells6 b), (γ1_2, zero6), (g, modx n o s)] := H11.out.1.grow hM (Nat.le_refl _) hl [] rfl (by decide)
    have B12 : Below w.heap.size w w12 := H11.out.2.trans ((hM.below).mono H11.out.2.size)
    clear hM hl l H11
    clear γ
    have H12 : Hid (_ ∧ _) := ⟨M12, B12⟩
    clear M12 B12
    refine rest0 rfl (then_normal (wp_seq ?_))
    refine walk_seqA 4 [.quiet (.int .u64 h2), .quiet (.int .u64 k2), .quiet (.int .u64 ((cc X t n 1 : Nat) : Int)), .quiet (.int .u64 ((cc X t n 1 : Nat) : Int))] (sB H12) ?ho12 ?he12
    case ho12 => exact ak (fun _ => ⟨rfl, fun _ _ => rfl⟩) (ak (fun _ => ⟨rfl, fun _ _ => rfl⟩) (ak (by refine fun γ => ⟨rfl, fun w' h => ?_⟩; clear h; go_simp) (ak (fun _ => ⟨rfl, fun _ _ => rfl⟩) trivial)))
    intro γ w13 l hM hl
    have M13 : Mm w13 [(γ2_0, cells6 S), (γ1_0, cells6 a), (γ1_1, cells6 b), (γ1_2, zero6), (g, modx n o s)] := H12.out.1.grow hM (Nat.le_refl _) hl [] rfl (by decide)
    have B13 : Below w.heap.size w w13 := H12.out.2.trans ((hM.below).mono H12.out.2.size)
    clear hM hl l H12
    clear γ
    have H13 : Hid (_ ∧ _) := ⟨M13, B13⟩
    clear M13 B13
    refine rest0 rfl (then_normal (wp_seq (wp_seq ?_)))
    refine walk_seqA 1 [.quiet (.int .i64 1)] (sB H13) ?ho13 ?he13
    case ho13 => exact ak (fun _ => ⟨rfl, fun _ _ => rfl⟩) trivial
    intro γ w14 l hM hl
    have M14 : Mm w14 [(γ2_0, cells6 S), (γ1_0, cells6 a), (γ1_1, cells6 b), (γ1_2, zero6), (g, modx n o s)] := H13.out.1.grow hM (Nat.le_refl _) hl [] rfl (by decide)
    have B14 : Below w.heap.size w w14 := H13.out.2.trans ((hM.below).mono H13.out.2.size)
    clear hM hl l H13
    clear γ
    have H14 : Hid (_ ∧ _) := ⟨M14, B14⟩
    clear M14 B14
    refine rest0 rfl (then_normal (wp_block ?_))
    refine loop_ghost (α := Nat) (fun m a' w' => ∃ s2 : Nat → Value, a' = ⟨#[PT g 0, N a, N b, undef, PT γ1_0 0, PT γ1_1 0, PT γ1_2 0, PT γ2_0 0, undef, .int .u64 (wd a i), .int .u64 h2, s2 11, .int .u64 k2, .int .u64 ((cc S (wn a i) b (m + 1) : Nat) : Int), .int .u64 ((t : Nat) : Int), .int .u64 l2, .int .u64 ((cc X t n (m + 1) : Nat) : Int), .int .i64 ((m + 1 : Nat) : Int), N a, .int .i64 ((i : Nat) : Int), .bool true, .int .u64 (wd a i), .tuple #[.int .u64 h1, .int .u64 l1], .int .u64 (wd a i), PT γ1_1 0, .int .u64 (wd b 0), .tuple #[.int .u64 h1, .int .u64 l1], .int .u64 h1, .int .u64 l1, .tuple #[.int .u64 (wd X 0), .int .u64 k1], .int .u64 l1, PT γ2_0 0, .int .u64 (wd S 0), .tuple #[.int .u64 (wd X 0), .int .u64 k1], .int .u64 (wd X 0), .int .u64 k1, .int .u64 h1, .int .u64 k1, .int .u64 ((cc S (wn a i) b 1 : Nat) : Int), .int .u64 (wd X 0), PT g 0, PT g 0, PT g 6, .int .u64 (wrapZ (wd n 0)), .int .u64 ((t : Nat) : Int), .tuple #[.int .u64 h2, .int .u64 l2], .int .u64 ((t : Nat) : Int), PT g 0, PT g 0, PT g 0, PT g 0, .int .u64 (wd n 0), .tuple #[.int .u64 h2, .int .u64 l2], .int .u64 h2, .int .u64 l2, .tuple #[.int .u64 z2, .int .u64 k2], .int .u64 l2, .int .u64 (wd X 0), .tuple #[.int .u64 z2, .int .u64 k2], .int .u64 z2, .int .u64 k2, .int .u64 h2, .int .u64 k2, .int .u64 ((cc X t n 1 : Nat) : Int), s2 64, s2 65, s2 66, s2 67, s2 68, s2 69, s2 70, s2 71, s2 72, s2 73, s2 74, s2 75, s2 76, s2 77, s2 78, s2 79, s2 80, s2 81, s2 82, s2 83, s2 84, s2 85, s2 86, s2 87, s2 88, s2 89, s2 90, s2 91, s2 92, s2 93, s2 94, s2 95, s0 96, s0 97, s0 98, s0 99, s0 100, undef, undef, undef], []⟩ ∧ (Mm w' [(γ2_0, rowc (inn S Y (m + 1))), (γ1_0, cells6 a), (γ1_1, cells6 b), (γ1_2, zero6), (g, modx n o s)] ∧ Below w.heap.size w w') ∧ m ≤ 5) (fun m => 5 - m) 0 ?st2 ?rd2
    case st2 => exact ⟨(slotfn [undef, undef, undef, undef, undef, undef, undef, undef, undef, undef, undef, .int .u64 (wd X 0), undef, undef, undef, undef, undef, undef, undef, undef, undef, undef, undef, undef, undef, undef, undef, undef, undef, undef, undef, undef, undef, undef, undef, undef, undef, undef, undef, undef, undef, undef, undef, undef, undef, undef, undef, undef, undef, undef, undef, undef, undef, undef, undef, undef, undef, undef, undef, undef, undef, undef, undef, undef, s0 64, s0 65, s0 66, s0 67, s0 68, s0 69, s0 70, s0 71, s0 72, s0 73, s0 74, s0 75, s0 76, s0 77, s0 78, s0 79, s0 80, s0 81, s0 82, s0 83, s0 84, s0 85, s0 86, s0 87, s0 88, s0 89, s0 90, s0 91, s0 92, s0 93, s0 94, s0 95]), rfl, ⟨H14.out.1, H14.out.2⟩, by omega⟩
    intro m a' w15 hI
    obtain ⟨s2, rfl, hMB, hk2⟩ := hI
    have H15 : Hid (_ ∧ _) := hMB
    clear hMB H14
    by_cases hlt2 : m < 5
    · have hrd : True := trivial
      clear hrd
      have hm6 : m + 1 < 6 := by omega
      refine wp_seq (wp_seq ?_)
      refine walk_seqA 2 [.quiet (.int .i64 ((m + 1 : Nat) : Int)), .quiet (.bool true)] (sB H15) ?ho14 ?he14
      case ho14 => exact ak (fun _ => ⟨rfl, fun _ _ => rfl⟩) (ak (by refine fun γ => ⟨rfl, fun w' h => ?_⟩; clear h; go_simp <;> omega) trivial)
      intro γ w16 l hM hl
      have M16 : Mm w16 [(γ2_0, rowc (inn S Y (m + 1))), (γ1_0, cells6 a), (γ1_1, cells6 b), (γ1_2, zero6), (g, modx n o s)] := H15.out.1.grow hM (Nat.le_refl _) hl [] rfl (by decide)
      have B16 : Below w.heap.size w w16 := H15.out.2.trans ((hM.below).mono H15.out.2.size)
      clear hM hl l H15
      clear γ
      have H16 : Hid (_ ∧ _) := ⟨M16, B16⟩
      clear M16 B16
      refine rest0 rfl (then_normal (wp_cond_true rfl ?_))
      refine wp_skip (then_normal ?_)
      refine wp_seq (wp_block (wp_seq ?_))
      refine walk_anyA 13 [.quiet (.int .u64 (wd a i)), .quiet (.int .i64 ((m + 1 : Nat) : Int)), .quiet (PT γ1_1 (0 + (m + 1))), .quiet (.int .u64 (wd b (m + 1))), .quiet (.int .i64 ((m + 1 : Nat) : Int)), .quiet (PT γ2_0 (0 + (m + 1))), .quiet (.int .u64 (wd S (m + 1))), .quiet (.int .u64 ((cc S (wn a i) b (m + 1) : Nat) : Int)), .call (.tuple #[.int .u64 (wd X (m + 1)), .int .u64 ((cc S (wn a i) b (m + 1 + 1) : Nat) : Int)]), .quiet (.tuple #[.int .u64 (wd X (m + 1)), .int .u64 ((cc S (wn a i) b (m + 1 + 1) : Nat) : Int)]), .quiet (.int .u64 (wd X (m + 1))), .quiet (.int .u64 ((cc S (wn a i) b (m + 1 + 1) : Nat) : Int)), .quiet (.int .u64 (wd X (m + 1)))] (sB H16) ?ho15 ?he15
      case ho15 => exact ak (fun _ => ⟨rfl, fun _ _ => rfl⟩) (ak (fun _ => ⟨rfl, fun _ _ => rfl⟩) (ak (fun γ => ⟨rfl, fun w' _ => ex_indexAddr6 rfl rfl rfl hm6⟩) (ak (fun γ => ⟨rfl, fun w' h => ex_load1 h 2 rfl rfl rfl (row_at (f := wd b) hm6)⟩) (ak (fun _ => ⟨rfl, fun _ _ => rfl⟩) (ak (fun γ => ⟨rfl, fun w' _ => ex_indexAddr6 rfl rfl rfl hm6⟩) (ak (fun γ => ⟨rfl, fun w' h => ex_load1 h 0 rfl rfl rfl (inn_at hm6)⟩) (ak (fun _ => ⟨rfl, fun _ _ => rfl⟩) (ak (fun γ => ⟨rfl, fun w' h => ⟨72, #[.int .u64 (wd a i), .int .u64 (wd b (m + 1)), .int .u64 (wd S (m + 1)), .int .u64 ((cc S (wn a i) b (m + 1) : Nat) : Int)], exec_call rfl call72 rfl (mpn rfl), CA.out (m + 1) w'⟩⟩) (ak (fun _ => ⟨rfl, fun _ _ => rfl⟩) (ak (by refine fun γ => ⟨rfl, fun w' h => ?_⟩; clear h; go_simp) (ak (by refine fun γ => ⟨rfl, fun w' h => ?_⟩; clear h; go_simp) (ak (fun _ => ⟨rfl, fun _ _ => rfl⟩) trivial))))))))))))
      intro γ w17 l hM hl
      have M17 : Mm w17 [(γ2_0, rowc (inn S Y (m + 1))), (γ1_0, cells6 a), (γ1_1, cells6 b), (γ1_2, zero6), (g, modx n o s)] := H16.out.1.grow hM (Nat.le_refl _) hl [] rfl (by decide)
      have B17 : Below w.heap.size w w17 := H16.out.2.trans ((hM.below).mono H16.out.2.size)
      clear hM hl l H16
      clear γ
      have H17 : Hid (_ ∧ _) := ⟨M17, B17⟩
      clear M17 B17
      refine rest_at (l := [13]) rfl ?_
      refine rest_set (d := 13) rfl rfl rfl rfl ?_
      simp only [Act.put, sa, sz, ss]
      refine rest_nil (then_normal ?_)
      refine walk_seqA 16 [.quiet (.int .i64 ((m + 1 : Nat) : Int)), .quiet (.int .i64 ((m : Nat) : Int)), .quiet (.int .u64 ((t : Nat) : Int)), .quiet (PT g 0), .quiet (.int .i64 ((m + 1 : Nat) : Int)), .quiet (PT g 0), .quiet (PT g 0), .quiet (PT g (0 + (m + 1))), .quiet (.int .u64 (wd n (m + 1))), .quiet (.int .u64 (wd X (m + 1))), .quiet (.int .u64 ((cc X t n (m + 1) : Nat) : Int)), .call (.tuple #[.int .u64 (wd Y (m + 1)), .int .u64 ((cc X t n (m + 1 + 1) : Nat) : Int)]), .quiet (.tuple #[.int .u64 (wd Y (m + 1)), .int .u64 ((cc X t n (m + 1 + 1) : Nat) : Int)]), .quiet (.int .u64 (wd Y (m + 1))), .quiet (.int .u64 ((cc X t n (m + 1 + 1) : Nat) : Int)), .quiet (PT γ2_0 (0 + m))] (sB H17) ?ho16 ?he16
      case ho16 => exact ak (fun _ => ⟨rfl, fun _ _ => rfl⟩) (ak (by refine fun γ => ⟨rfl, fun w' h => ?_⟩; clear h; go_simp; rw [IntKind.wrap_i64]; omega) (ak (fun _ => ⟨rfl, fun _ _ => rfl⟩) (ak (fun _ => ⟨rfl, fun _ _ => rfl⟩) (ak (fun _ => ⟨rfl, fun _ _ => rfl⟩) (ak (by refine fun γ => ⟨rfl, fun w' h => ?_⟩; clear h; go_simp) (ak (by refine fun γ => ⟨rfl, fun w' h => ?_⟩; clear h; go_simp) (ak (fun γ => ⟨rfl, fun w' _ => ex_indexAddr6 rfl rfl rfl hm6⟩) (ak (fun γ => ⟨rfl, fun w' h => ex_load1 h 4 rfl rfl rfl (modn_at hm6)⟩) (ak (fun _ => ⟨rfl, fun _ _ => rfl⟩) (ak (fun _ => ⟨rfl, fun _ _ => rfl⟩) (ak (fun γ => ⟨rfl, fun w' h => ⟨72, #[.int .u64 ((t : Nat) : Int), .int .u64 (wd n (m + 1)), .int .u64 (wd X (m + 1)), .int .u64 ((cc X t n (m + 1) : Nat) : Int)], exec_call rfl call72 rfl (mpn rfl), CB.out (m + 1) w'⟩⟩) (ak (fun _ => ⟨rfl, fun _ _ => rfl⟩) (ak (by refine fun γ => ⟨rfl, fun w' h => ?_⟩; clear h; go_simp) (ak (by refine fun γ => ⟨rfl, fun w' h => ?_⟩; clear h; go_simp) (ak (fun γ => ⟨rfl, fun w' _ => ex_indexAddr6 rfl rfl rfl (Nat.lt_of_succ_lt hm6)⟩) trivial)))))))))))))))
      intro γ w18 l hM hl
      have M18 : Mm w18 [(γ2_0, rowc (inn S Y (m + 1))), (γ1_0, cells6 a), (γ1_1, cells6 b), (γ1_2, zero6), (g, modx n o s)] := H17.out.1.grow hM (Nat.le_refl _) hl [] rfl (by decide)
      have B18 : Below w.heap.size w w18 := H17.out.2.trans ((hM.below).mono H17.out.2.size)
      clear hM hl l H17
      clear γ
      have H18 : Hid (_ ∧ _) := ⟨M18, B18⟩
      clear M18 B18
      refine rest_at (l := [16, 17]) rfl ?_
      refine rest_store rfl rfl rfl (ex_storeI H18.out.1 0 rfl rfl Tryd.sizeOf31 rfl rfl (row_bd (Nat.lt_of_succ_lt hm6))) ?_
      have H19 : Hid (Mm (w18.setCells γ2_0 (0 + m) [.int .u64 (wd Y (m + 1))]) [(γ2_0, rowc (inn S Y (m + 1 + 1))), (γ1_0, cells6 a), (γ1_1, cells6 b), (γ1_2, zero6), (g, modx n o s)] ∧ Below w.heap.size w (w18.setCells γ2_0 (0 + m) [.int .u64 (wd Y (m + 1))])) := ⟨by
        have h := H18.out.1.put 0 (off := (0 + m)) (vs := [.int .u64 (wd Y (m + 1))]) rfl (row_bd (Nat.lt_of_succ_lt hm6))
        rw [patch_row (Nat.lt_of_succ_lt hm6), inn_step rfl] at h
        exact h, below_setCells _ o2_0.out _ _ _ H18.out.2⟩
      clear H18
      generalize hgw : World.setCells _ _ _ _ = w19 at H19 ⊢
      clear hgw
      refine rest_set (d := 16) rfl rfl rfl rfl ?_
      simp only [Act.put, sa, sz, ss]
      refine rest_nil (block_normal (then_normal ?_))
      refine walk_seqA 2 [.quiet (.int .i64 ((m + 1 : Nat) : Int)), .quiet (.int .i64 ((m + 1 + 1 : Nat) : Int))] (sB H19) ?ho17 ?he17
      case ho17 => exact ak (fun _ => ⟨rfl, fun _ _ => rfl⟩) (ak (by refine fun γ => ⟨rfl, fun w' h => ?_⟩; clear h; go_simp; rw [IntKind.wrap_i64]; omega) trivial)
      intro γ w20 l hM hl
      have M20 : Mm w20 [(γ2_0, rowc (inn S Y (m + 1 + 1))), (γ1_0, cells6 a), (γ1_1, cells6 b), (γ1_2, zero6), (g, modx n o s)] := H19.out.1.grow hM (Nat.le_refl _) hl [] rfl (by decide)
      have B20 : Below w.heap.size w w20 := H19.out.2.trans ((hM.below).mono H19.out.2.size)
      clear hM hl l H19
      clear γ
      have H20 : Hid (_ ∧ _) := ⟨M20, B20⟩
      clear M20 B20
      refine rest_at (l := [2]) rfl ?_
      refine rest_set (d := 17) rfl rfl rfl rfl ?_
      simp only [Act.put, sa, sz, ss]
      refine rest_nil (then_normal ?_)
      exact ⟨m + 1, ⟨(slotfn [undef, undef, undef, undef, undef, undef, undef, undef, undef, undef, undef, .int .u64 (wd X (m + 1)), undef, undef, undef, undef, undef, undef, undef, undef, undef, undef, undef, undef, undef, undef, undef, undef, undef, undef, undef, undef, undef, undef, undef, undef, undef, undef, undef, undef, undef, undef, undef, undef, undef, undef, undef, undef, undef, undef, undef, undef, undef, undef, undef, undef, undef, undef, undef, undef, undef, undef, undef, undef, .int .i64 ((m + 1 : Nat) : Int), .bool true, .int .i64 ((m + 1 : Nat) : Int), .int .i64 ((m + 1 + 1 : Nat) : Int), .tuple #[.int .u64 (wd X (m + 1)), .int .u64 ((cc S (wn a i) b (m + 1 + 1) : Nat) : Int)], .int .u64 (wd a i), .int .i64 ((m + 1 : Nat) : Int), PT γ1_1 (0 + (m + 1)), .int .u64 (wd b (m + 1)), .int .i64 ((m + 1 : Nat) : Int), PT γ2_0 (0 + (m + 1)), .int .u64 (wd S (m + 1)), .int .u64 ((cc S (wn a i) b (m + 1) : Nat) : Int), .tuple #[.int .u64 (wd X (m + 1)), .int .u64 ((cc S (wn a i) b (m + 1 + 1) : Nat) : Int)], .int .u64 (wd X (m + 1)), .int .u64 ((cc S (wn a i) b (m + 1 + 1) : Nat) : Int), .tuple #[.int .u64 (wd Y (m + 1)), .int .u64 ((cc X t n (m + 1 + 1) : Nat) : Int)], .int .i64 ((m + 1 : Nat) : Int), .int .i64 ((m : Nat) : Int), .int .u64 ((t : Nat) : Int), PT g 0, .int .i64 ((m + 1 : Nat) : Int), PT g 0, PT g 0, PT g (0 + (m + 1)), .int .u64 (wd n (m + 1)), .int .u64 (wd X (m + 1)), .int .u64 ((cc X t n (m + 1) : Nat) : Int), .tuple #[.int .u64 (wd Y (m + 1)), .int .u64 ((cc X t n (m + 1 + 1) : Nat) : Int)], .int .u64 (wd Y (m + 1)), .int .u64 ((cc X t n (m + 1 + 1) : Nat) : Int), PT γ2_0 (0 + m)]), rfl, ⟨H20.out.1, H20.out.2⟩, by omega⟩, by omega⟩
    have hm5 : m = 5 := by omega
    subst hm5
    refine wp_seq (wp_seq ?_)
    refine walk_seqA 2 [.quiet (.int .i64 ((5 + 1 : Nat) : Int)), .quiet (.bool false)] (sB H15) ?ho18 ?he18
    case ho18 => exact ak (fun _ => ⟨rfl, fun _ _ => rfl⟩) (ak (by refine fun γ => ⟨rfl, fun w' h => ?_⟩; clear h; go_simp <;> omega) trivial)
    intro γ w21 l hM hl
    have M21 : Mm w21 [(γ2_0, rowc (inn S Y (5 + 1))), (γ1_0, cells6 a), (γ1_1, cells6 b), (γ1_2, zero6), (g, modx n o s)] := H15.out.1.grow hM (Nat.le_refl _) hl [] rfl (by decide)
    have B21 : Below w.heap.size w w21 := H15.out.2.trans ((hM.below).mono H15.out.2.size)
    clear hM hl l H15
    clear γ
    have H21 : Hid (_ ∧ _) := ⟨M21, B21⟩
    clear M21 B21
    refine rest0 rfl (then_normal (wp_cond_false rfl ?_))
    refine wp_exit ?_
    repeat refine then_exit ?_
    refine block_exit ?_
    refine then_normal ?_
    refine walk_seqA 4 [.quiet (.int .u64 ((cc S (wn a i) b (5 + 1) : Nat) : Int)), .quiet (.int .u64 ((cc X t n (5 + 1) : Nat) : Int)), .quiet (.int .u64 (wd Z 5)), .quiet (PT γ2_0 5)] (sB H21) ?ho19 ?he19
    case ho19 => exact ak (fun _ => ⟨rfl, fun _ _ => rfl⟩) (ak (fun _ => ⟨rfl, fun _ _ => rfl⟩) (ak (by refine fun γ => ⟨rfl, fun w' h => ?_⟩; clear h; go_simp) (ak (by refine fun γ => ⟨rfl, fun w' h => ?_⟩; clear h; go_simp) trivial)))
    intro γ w22 l hM hl
    have M22 : Mm w22 [(γ2_0, rowc (inn S Y (5 + 1))), (γ1_0, cells6 a), (γ1_1, cells6 b), (γ1_2, zero6), (g, modx n o s)] := H21.out.1.grow hM (Nat.le_refl _) hl [] rfl (by decide)
    have B22 : Below w.heap.size w w22 := H21.out.2.trans ((hM.below).mono H21.out.2.size)
    clear hM hl l H21
    clear γ
    have H22 : Hid (_ ∧ _) := ⟨M22, B22⟩
    clear M22 B22
    refine rest_at (l := [4]) rfl ?_
    refine rest_store rfl rfl rfl (ex_storeI H22.out.1 0 rfl rfl Tryd.sizeOf31 rfl rfl (Nat.le_of_ble_eq_true rfl)) ?_
    have H23 : Hid (Mm (w22.setCells γ2_0 5 [.int .u64 (wd Z 5)]) [(γ2_0, cells6 Z), (γ1_0, cells6 a), (γ1_1, cells6 b), (γ1_2, zero6), (g, modx n o s)] ∧ Below w.heap.size w (w22.setCells γ2_0 5 [.int .u64 (wd Z 5)])) := ⟨by
      have h := H22.out.1.put 0 (off := 5) (vs := [.int .u64 (wd Z 5)]) rfl (Nat.le_of_ble_eq_true rfl)
      rw [patch_row5, inn_end rfl E6.out] at h
      exact h, below_setCells _ o2_0.out _ _ _ H22.out.2⟩
    clear H22
    generalize hgw : World.setCells _ _ _ _ = w23 at H23 ⊢
    clear hgw
    refine rest_nil (block_normal (then_normal ?_))
    refine walk_seqA 1 [.quiet (.int .i64 ((i + 1 : Nat) : Int))] (sB H23) ?ho20 ?he20
    case ho20 => exact ak (by refine fun γ => ⟨rfl, fun w' h => ?_⟩; clear h; go_simp; rw [IntKind.wrap_i64]; omega) trivial
    intro γ w24 l hM hl
    have M24 : Mm w24 [(γ2_0, cells6 Z), (γ1_0, cells6 a), (γ1_1, cells6 b), (γ1_2, zero6), (g, modx n o s)] := H23.out.1.grow hM (Nat.le_refl _) hl [] rfl (by decide)
    have B24 : Below w.heap.size w w24 := H23.out.2.trans ((hM.below).mono H23.out.2.size)
    clear hM hl l H23
    clear γ
    have H24 : Hid (_ ∧ _) := ⟨M24, B24⟩
    clear M24 B24
    refine rest_at (l := [1]) rfl ?_
    refine rest_set (d := 19) rfl rfl rfl rfl ?_
    simp only [Act.put, sa, sz, ss]
    refine rest_nil (then_normal ?_)
    exact ⟨i + 1, ⟨(slotfn [undef, undef, undef, undef, undef, undef, undef, undef, undef, .int .u64 (wd a i), .int .u64 h2, s2 11, .int .u64 k2, .int .u64 ((cc S (wn a i) b (5 + 1) : Nat) : Int), .int .u64 ((t : Nat) : Int), .int .u64 l2, .int .u64 ((cc X t n (5 + 1) : Nat) : Int), .int .i64 ((5 + 1 : Nat) : Int), undef, undef, .bool true, .int .u64 (wd a i), .tuple #[.int .u64 h1, .int .u64 l1], .int .u64 (wd a i), PT γ1_1 0, .int .u64 (wd b 0), .tuple #[.int .u64 h1, .int .u64 l1], .int .u64 h1, .int .u64 l1, .tuple #[.int .u64 (wd X 0), .int .u64 k1], .int .u64 l1, PT γ2_0 0, .int .u64 (wd S 0), .tuple #[.int .u64 (wd X 0), .int .u64 k1], .int .u64 (wd X 0), .int .u64 k1, .int .u64 h1, .int .u64 k1, .int .u64 ((cc S (wn a i) b 1 : Nat) : Int), .int .u64 (wd X 0), PT g 0, PT g 0, PT g 6, .int .u64 (wrapZ (wd n 0)), .int .u64 ((t : Nat) : Int), .tuple #[.int .u64 h2, .int .u64 l2], .int .u64 ((t : Nat) : Int), PT g 0, PT g 0, PT g 0, PT g 0, .int .u64 (wd n 0), .tuple #[.int .u64 h2, .int .u64 l2], .int .u64 h2, .int .u64 l2, .tuple #[.int .u64 z2, .int .u64 k2], .int .u64 l2, .int .u64 (wd X 0), .tuple #[.int .u64 z2, .int .u64 k2], .int .u64 z2, .int .u64 k2, .int .u64 h2, .int .u64 k2, .int .u64 ((cc X t n 1 : Nat) : Int), .int .i64 ((5 + 1 : Nat) : Int), .bool false, s2 66, s2 67, s2 68, s2 69, s2 70, s2 71, s2 72, s2 73, s2 74, s2 75, s2 76, s2 77, s2 78, s2 79, s2 80, s2 81, s2 82, s2 83, s2 84, s2 85, s2 86, s2 87, s2 88, s2 89, s2 90, s2 91, s2 92, s2 93, s2 94, s2 95, .int .u64 ((cc S (wn a i) b (5 + 1) : Nat) : Int), .int .u64 ((cc X t n (5 + 1) : Nat) : Int), .int .u64 (wd Z 5), PT γ2_0 5, .int .i64 ((i + 1 : Nat) : Int)]), rfl, by rw [← HZ.out]; exact H24.out, by omega⟩, by omega⟩
  have hi6 : i = 6 := by omega
  subst hi6
  refine wp_seq ?_
  refine walk_seqA 1 [.quiet (.bool false)] (sB H4) ?ho21 ?he21
  case ho21 => exact ak (by refine fun γ => ⟨rfl, fun w' h => ?_⟩; clear h; go_simp <;> omega) trivial
  intro γ w25 l hM hl
  have M25 : Mm w25 [(γ2_0, cells6 (mrun n (wrapN n) a b 6)), (γ1_0, cells6 a), (γ1_1, cells6 b), (γ1_2, zero6), (g, modx n o s)] := H4.out.1.grow hM (Nat.le_refl _) hl [] rfl (by decide)
  have B25 : Below w.heap.size w w25 := H4.out.2.trans ((hM.below).mono H4.out.2.size)
  clear hM hl l H4
  clear γ
  have H25 : Hid (_ ∧ _) := ⟨M25, B25⟩
  clear M25 B25
  refine rest0 rfl (then_normal (wp_seq (wp_cond_false rfl ?_)))
  refine wp_exit ?_
  repeat refine then_exit ?_
  refine block_exit ?_
  refine then_normal (wp_seq ?_)
  refine walk_seqA 3 [.quiet (PT g 0), .quiet (N (mrun n (wrapN n) a b 6)), .call (N (mont n a b))] (sB H25) ?ho22 ?he22
  case ho22 => exact ak (fun _ => ⟨rfl, fun _ _ => rfl⟩) (ak (fun γ => ⟨rfl, fun w' h => ex_load6 h 0 rfl rfl rfl rfl⟩) (ak (fun γ => ⟨rfl, fun w' h => ⟨73, #[PT g 0, N (mrun n (wrapN n) a b 6)], exec_call rfl call73 rfl (mpn rfl), CG.out w' (h.one 4 rfl)⟩⟩) trivial))
  intro γ w26 l hM hl
  have M26 : Mm w26 [(γ2_0, cells6 (mrun n (wrapN n) a b 6)), (γ1_0, cells6 a), (γ1_1, cells6 b), (γ1_2, zero6), (g, modx n o s)] := H25.out.1.grow hM (Nat.le_refl _) hl [] rfl (by decide)
  have B26 : Below w.heap.size w w26 := H25.out.2.trans ((hM.below).mono H25.out.2.size)
  clear hM hl l H25
  clear γ
  have H26 : Hid (_ ∧ _) := ⟨M26, B26⟩
  clear M26 B26
  refine rest_at (l := [3]) rfl ?_
  refine rest_store rfl rfl rfl (ex_store6 H26.out.1 3 rfl rfl rfl rfl (Nat.le_of_ble_eq_true rfl)) ?_
  have H27 : Hid (Mm (w26.setCells γ1_2 0 (cells6 (mont n a b))) [(γ2_0, cells6 (mrun n (wrapN n) a b 6)), (γ1_0, cells6 a), (γ1_1, cells6 b), (γ1_2, cells6 (mont n a b)), (g, modx n o s)] ∧ Below w.heap.size w (w26.setCells γ1_2 0 (cells6 (mont n a b)))) := ⟨H26.out.1.put 3 (off := 0) (vs := cells6 (mont n a b)) rfl (Nat.le_of_ble_eq_true rfl), below_setCells _ o1_2.out _ _ _ H26.out.2⟩
  clear H26
  generalize hgw : World.setCells _ _ _ _ = w27 at H27 ⊢
  clear hgw
  refine rest_nil (then_normal (wp_ret ?_))
  repeat (first | refine then_ret ?_ | refine block_ret ?_)
  have c0 := H27.out.1.get 3 rfl 0 rfl
  have c1 := H27.out.1.get 3 rfl 1 rfl
  have c2 := H27.out.1.get 3 rfl 2 rfl
  have c3 := H27.out.1.get 3 rfl 3 rfl
  have c4 := H27.out.1.get 3 rfl 4 rfl
  have c5 := H27.out.1.get 3 rfl 5 rfl
  refine bodyPost_ret (v := N (mont n a b)) (by simp [results, Tryd.results52, go_sem, *]) rfl ?_
  exact ⟨rfl, H27.out.2⟩
end Rg
end Go.Proofs.YtkkloakcphigeaaDoor
end
section
namespace Go.Proofs.YtkkloakcphigeaaDoor
open Go.RowKit
namespace Rg
/-- All that was there is as it was, but block g. -/
structure Kp (g : Nat) (w w' : World) : Prop where
  os : w'.os = w.os
  tape : w'.tape = w.tape
  output : w'.output = w.output
  size : w.heap.size ≤ w'.heap.size
  block : ∀ k, k < w.heap.size → k ≠ g → w'.heap[k]? = w.heap[k]?
theorem Kp.refl (g : Nat) (w : World) : Kp g w w := ⟨rfl, rfl, rfl, Nat.le_refl _, fun _ _ _ => rfl⟩
theorem Kp.trans {g : Nat} {a b c : World} (h : Kp g a b) (k : Below b.heap.size b c) : Kp g a c :=
  ⟨k.os.trans h.os, k.tape.trans h.tape, k.output.trans h.output, Nat.le_trans h.size k.size, fun i hi hg => (k.block i (Nat.lt_of_lt_of_le hi h.size)).trans (h.block i hi hg)⟩
theorem heap_setCells (g : Nat) (k : Nat) (hk : k ≠ g) : ∀ (vs : List Value) (o : Nat) (w : World), (w.setCells g o vs).heap[k]? = w.heap[k]?
  | [], _, _ => rfl
  | v :: r, o, w => by
    rw [World.setCells, heap_setCells g k hk r, Below.heap_setCell _ _ _ _ hk]
theorem Kp.put {g b off : Nat} {vs : List Value} {a w : World} (h : Kp g a w) (hb : b = g ∨ a.heap.size ≤ b) : Kp g a (w.setCells b off vs) := by
  have hB := below_setCells (B := 0) (w0 := w) b (Nat.zero_le _) vs off w (Below.refl _ _)
  refine ⟨hB.os.trans h.os, hB.tape.trans h.tape, hB.output.trans h.output, by rw [size_setCells]; exact h.size, fun k hk hg => ?_⟩
  rw [heap_setCells b k (by rcases hb with e | e <;> omega) vs off w]
  exact h.block k hk hg
theorem Below.kp {B g : Nat} {a w w' : World} (h : Below B a w) (k : Kp g w w') (hg : B ≤ g) (hB : B ≤ w.heap.size) : Below B a w' :=
  ⟨k.os.trans h.os, k.tape.trans h.tape, k.output.trans h.output, Nat.le_trans h.size k.size, fun i hi => (k.block i (Nat.lt_of_lt_of_le hi hB) (by omega)).trans (h.block i hi)⟩
theorem Blk.kp {g b : Nat} {cs : List Value} {w w' : World} (h : Blk w b cs) (k : Kp g w w') (hb : b < w.heap.size) (hg : b ≠ g) : Blk w' b cs := fun j v hv => by
  have e := k.block b hb hg
  exact ⟨by rw [World.cell?_of_block (w := w) (a := ⟨b, j, none⟩) e]; exact (h j v hv).1, by rw [World.frozen?_of_block (w := w) (a := ⟨b, j, none⟩) e]; exact (h j v hv).2⟩
theorem Mm.change {w w' : World} {l : List (Nat × List Value)} (h : Mm w l) (k : Nat) {g : Nat} {cs cs' : List Value} (hk : l[k]? = some (g, cs)) (hp : Kp g w w') (hn : Mm w' [(g, cs')]) : Mm w' (l.set k (g, cs')) := by
  have hkl : k < l.length := (List.getElem?_eq_some_iff.1 hk).1
  have hke : l[k] = (g, cs) := (List.getElem?_eq_some_iff.1 hk).2
  have hpw := List.pairwise_iff_getElem.1 h.nd
  refine ⟨fun p hp2 => ?_, ?_⟩
  · obtain ⟨j, hj, e⟩ := List.getElem_of_mem hp2
    rw [List.getElem_set] at e
    have hj' : j < l.length := by simpa using hj
    split at e
    · subst e
      exact hn.blk _ (List.mem_singleton.2 rfl)
    · rename_i hne
      subst e
      have hb := h.blk _ (List.getElem_mem hj')
      refine ⟨Nat.lt_of_lt_of_le hb.1 hp.size, Blk.kp hb.2 hp hb.1 ?_⟩
      rcases Nat.lt_or_ge j k with h' | h'
      · have := hpw j k hj' hkl h'
        rw [hke] at this
        exact this
      · have := hpw k j hkl hj' (by omega)
        rw [hke] at this
        exact this.symm
  · refine List.pairwise_iff_getElem.2 fun i j hi hj hij => ?_
    have hi' : i < l.length := by simpa using hi
    have hj' : j < l.length := by simpa using hj
    have := hpw i j hi' hj' hij
    rw [List.getElem_set, List.getElem_set]
    split
    · rename_i e1
      subst e1
      rw [if_neg (by omega)]
      rw [hke] at this
      exact this
    · split
      · rename_i e2
        subst e2
        rw [hke] at this
        exact this
      · exact this
theorem Mm.two {w : World} {l : List (Nat × List Value)} (h : Mm w l) (i j : Nat) {p q : Nat × List Value} (hi : l[i]? = some p) (hj : l[j]? = some q) (hij : i ≠ j) : Mm w [p, q] := by
  have hpw := List.pairwise_iff_getElem.1 h.nd
  obtain ⟨hi1, hi2⟩ := List.getElem?_eq_some_iff.1 hi
  obtain ⟨hj1, hj2⟩ := List.getElem?_eq_some_iff.1 hj
  have hne : p.1 ≠ q.1 := by
    rcases Nat.lt_or_ge i j with h' | h'
    · have := hpw i j hi1 hj1 h'
      rw [hi2, hj2] at this
      exact this
    · have := hpw j i hj1 hi1 (by omega)
      rw [hi2, hj2] at this
      exact this.symm
  refine ⟨fun r hr => ?_, ?_⟩
  · simp only [List.mem_cons, List.not_mem_nil, or_false] at hr
    rcases hr with e | e
    · rw [e]; exact h.blk p (List.mem_of_getElem? hi)
    · rw [e]; exact h.blk q (List.mem_of_getElem? hj)
  · exact List.Pairwise.cons (fun r hr => by rw [List.mem_singleton.1 hr]; exact hne) (List.pairwise_singleton _ _)
theorem keepK {q : Nat} {w₀ w w' : World} {L : List (Nat × List Value)} (H : Hid (Mm w L ∧ Kp q w₀ w)) (hb : Below w.heap.size w w') : Hid (Mm w' L ∧ Kp q w₀ w') :=
  ⟨H.out.1.below hb, H.out.2.trans hb⟩
theorem growK {ks : List Kind} {q : Nat} {w₀ w w' : World} {l : Array Bool} {γ : Nat → Nat} {L : List (Nat × List Value)} (H : Hid (Mm w L ∧ Kp q w₀ w)) (h : Mem ks w l γ w') {p : Nat} (hp : ks.length ≤ p) (hl : ∀ i, i < p → l.getD i false = true)
    (is : List Nat) (ha : (is.all fun i => (fresh ks i).isSome) = true) (hn : is.Pairwise (· ≠ ·)) : Hid (Mm w' (is.map (fun i => (γ i, fin ks i)) ++ L) ∧ Kp q w₀ w') :=
  ⟨H.out.1.grow h hp hl is ha hn, H.out.2.trans h.below⟩
theorem ownK {ks : List Kind} {q : Nat} {w₀ w w' : World} {l : Array Bool} {γ : Nat → Nat} {L : List (Nat × List Value)} (H : Hid (Mm w L ∧ Kp q w₀ w)) (h : Mem ks w l γ w') {p : Nat} (hp : ks.length ≤ p) (hl : ∀ i, i < p → l.getD i false = true) {i : Nat} (hi : (fresh ks i).isSome = true) : Hid (w₀.heap.size ≤ γ i) :=
  Nat.le_trans H.out.2.size (h.fin hp hl hi).2.1
end Rg
end Go.Proofs.YtkkloakcphigeaaDoor
end
section
namespace Go.Proofs.YtkkloakcphigeaaDoor
open Go.RowKit
namespace Rg
theorem ex_shl {ρ : Operand → Value} {o : Oper} {x y : Operand} {a : Int} {k : Nat} {w : World} (ho : o.op = .binOp .shl 31 x y 3) (hx : ρ x = .int .u64 a) (hy : ρ y = .int .i64 ((k : Nat) : Int)) (hk : k ≤ 64) :
    (execOp ρ o).run Tryd.prog w = .ok (.value (.int .u64 (IntKind.u64.wrap (a * 2 ^ k)))) w := by
  simp only [execOp, ho, hx, hy]
  clear ho hx hy
  go_simp
theorem ex_shr {ρ : Operand → Value} {o : Oper} {x y : Operand} {a : Int} {k : Nat} {w : World} (ho : o.op = .binOp .shr 31 x y 3) (hx : ρ x = .int .u64 a) (hy : ρ y = .int .i64 ((k : Nat) : Int)) (hk : k ≤ 64) :
    (execOp ρ o).run Tryd.prog w = .ok (.value (.int .u64 (a / 2 ^ k))) w := by
  simp only [execOp, ho, hx, hy]
  clear ho hx hy
  go_simp
theorem ex_or {ρ : Operand → Value} {o : Oper} {x y : Operand} {a b : Int} {w : World} (ho : o.op = .binOp .or 31 x y 31) (hx : ρ x = .int .u64 a) (hy : ρ y = .int .u64 b) :
    (execOp ρ o).run Tryd.prog w = .ok (.value (.int .u64 (bits .or .u64 a b))) w := by
  simp only [execOp, ho, hx, hy]
  clear ho hx hy
  go_simp
set_option maxHeartbeats 400000 in
theorem guessM_any (h l t : Nat) (hl : l < 18446744073709551616) (ht : t < 18446744073709551616) (w : World) :
    Calls Tryd.prog 84 #[.int .u64 h, .int .u64 l, .int .u64 t] w fun e w' => e = .returned (.int .u64 ((gs h l t : Nat) : Int)) ∧ Below w.heap.size w w' := by
  unfold gs
  by_cases c : t ≤ h
  · rw [if_pos c]
    clear hl ht
    go_enter Tryd.func84, Tryd.ntmps84
    go_wp2
    go_ret
    exact ⟨rfl, Below.refl _ _⟩
  · rw [if_neg c]
    have hc := fun w => div64_any h l t (by omega) ht hl w
    generalize (h * 18446744073709551616 + l) / t = q at hc ⊢
    have HC : Hid _ := hc
    clear hc hl ht
    go_enter Tryd.func84, Tryd.ntmps84
    go_wp2_with (go_at_call 76; refine (HC.out _).mono ?_; rintro e w' ⟨rr, rfl, hb⟩)
    go_ret
    obtain ⟨k, rfl⟩ := hb
    exact ⟨rfl, below_drewN (Below.refl _ _) k⟩
/-- A divisor and what is left, in memory. -/
abbrev lec (b : Nat) (f : Nat → Int) : List Value := [.int .u64 (wd b 0), .int .u64 (wd b 1), .int .u64 (wd b 2), .int .u64 (wd b 3), .int .u64 (wd b 4), .int .u64 (wd b 5), .int .u64 (f 0), .int .u64 (f 1), .int .u64 (f 2), .int .u64 (f 3), .int .u64 (f 4), .int .u64 (f 5)]
theorem lec_hi {b : Nat} {f : Nat → Int} {j : Nat} (hj : j < 6) : (lec b f)[6 + j]? = some (.int .u64 (f j)) := by
  match j, hj with
  | 0, _ => rfl
  | 1, _ => rfl
  | 2, _ => rfl
  | 3, _ => rfl
  | 4, _ => rfl
  | 5, _ => rfl
theorem lec_lo {b : Nat} {f : Nat → Int} {j : Nat} (hj : j < 6) : (lec b f)[0 + j]? = some (.int .u64 (wd b j)) := by
  match j, hj with
  | 0, _ => rfl
  | 1, _ => rfl
  | 2, _ => rfl
  | 3, _ => rfl
  | 4, _ => rfl
  | 5, _ => rfl
theorem lec_put {b : Nat} {f : Nat → Int} {j : Nat} {v : Int} (hj : j < 6) : patch (lec b f) (6 + j) [.int .u64 v] = lec b (upd f j v) := by
  match j, hj with
  | 0, _ => rfl
  | 1, _ => rfl
  | 2, _ => rfl
  | 3, _ => rfl
  | 4, _ => rfl
  | 5, _ => rfl
theorem lec_bd {b : Nat} {f : Nat → Int} {j : Nat} (hj : j < 6) : 6 + j < (lec b f).length := by
  show 6 + j < 12
  omega
theorem lec_congr {b : Nat} {f g : Nat → Int} (h : ∀ j, j < 6 → f j = g j) : lec b f = lec b g := by
  unfold lec
  rw [h 0 (by decide), h 1 (by decide), h 2 (by decide), h 3 (by decide), h 4 (by decide), h 5 (by decide)]
/-! Words of a number that is shifted by at most a word. -/
theorem sh_bits (a n k : Nat) (hn : n ≤ 64) : ((a >>> (64 * (k + 1)) % 2 ^ 64) <<< n) % 2 ^ 64 ||| (a >>> (64 * k) % 2 ^ 64) >>> (64 - n) = (a <<< n) >>> (64 * (k + 1)) % 2 ^ 64 := by
  apply Nat.eq_of_testBit_eq
  intro i
  simp only [Nat.testBit_or, Nat.testBit_mod_two_pow, Nat.testBit_shiftLeft, Nat.testBit_shiftRight]
  by_cases hi : i < 64
  · have e1 : n ≤ 64 * (k + 1) + i := by omega
    by_cases ht : n ≤ i
    · have e2 : 64 * (k + 1) + (i - n) = 64 * (k + 1) + i - n := by omega
      have e3 : i - n < 64 := by omega
      have e4 : ¬ 64 - n + i < 64 := by omega
      simp [hi, ht, e1, e2, e3, e4]
    · have e4 : 64 - n + i < 64 := by omega
      have e5 : 64 * k + (64 - n + i) = 64 * (k + 1) + i - n := by omega
      simp [hi, ht, e1, e4, e5]
  · have e4 : ¬ 64 - n + i < 64 := by omega
    simp [hi, e4]
theorem sh_word (a n k : Nat) (hn : n ≤ 64) : bits .or .u64 (IntKind.u64.wrap (wd a (k + 1) * 2 ^ n)) (wd a k / 2 ^ (64 - n)) = wd (a * 2 ^ n) (k + 1) := by
  rw [wd_shr, wrap_shl, wd_shr, div_shr, wd_shr, ← Nat.shiftLeft_eq, ← sh_bits a n k hn]
  refine bits_or_u64_nat _ _ (Nat.mod_lt _ (by decide)) ?_
  rw [Nat.shiftRight_eq_div_pow]
  exact Nat.lt_of_le_of_lt (Nat.div_le_self _ _) (Nat.mod_lt _ (by decide))
theorem sh_low (a n : Nat) : IntKind.u64.wrap (wd a 0 * 2 ^ n) = wd (a * 2 ^ n) 0 := by
  rw [wd_shr, wrap_shl, wd_shr, Nat.mul_zero, Nat.shiftRight_zero, Nat.shiftRight_zero, Nat.shiftLeft_eq, Nat.mod_mul_mod]
theorem wd_last (a j : Nat) (h : a < 2 ^ (64 * (j + 1))) : wd a j = ((a / 2 ^ (64 * j) : Nat) : Int) := by
  unfold wd
  rw [Nat.mod_eq_of_lt]
  rw [Nat.div_lt_iff_lt_mul (pow_pos' j), Nat.mul_comm, ← pow_step]
  exact h
theorem sh_topj (a n j : Nat) (ha : a < 2 ^ (64 * (j + 1))) (hn : n ≤ 64) : wd a j / 2 ^ (64 - n) = ((a * 2 ^ n / 2 ^ (64 * (j + 1)) : Nat) : Int) := by
  rw [wd_last a j ha, div_shr, Nat.shiftRight_eq_div_pow, Nat.div_div_eq_div_mul]
  congr 1
  have hW : 18446744073709551616 = 2 ^ (64 - n) * 2 ^ n := by
    rw [← Nat.pow_add, Nat.sub_add_cancel hn]
  rw [pow_step j, hW, ← Nat.mul_assoc, Nat.mul_div_mul_right _ _ (Nat.two_pow_pos n)]
theorem big_j (j : Nat) (hj : j = 5) : big = 2 ^ (64 * (j + 1)) := by
  obtain ⟨m, hm, e⟩ := big_pow
  rw [e, show m = j + 1 by omega]
theorem sh_top (a n : Nat) (ha : a < big) (hn : n ≤ 64) : wd a 5 / 2 ^ (64 - n) = ((a * 2 ^ n / big : Nat) : Int) := by
  obtain ⟨j, hj⟩ : ∃ j, j = 5 := ⟨5, rfl⟩
  rw [big_j j hj] at ha ⊢
  rw [← hj]
  exact sh_topj a n j ha hn
/-- What is left, words above the k-th from above shifted. -/
def shf (a n k m : Nat) : Int := if 5 - k < m then wd (a * 2 ^ n) m else wd a m
theorem shf_at {a n k m b : Nat} (hm : m ≤ 5 - k) (h6 : m < 6) : (lec b (shf a n k))[6 + m]? = some (.int .u64 (wd a m)) := by
  rw [lec_hi h6]
  unfold shf
  rw [if_neg (by omega)]
theorem shf_step {a n k b : Nat} {v : Int} (hk : k < 5) (h : v = wd (a * 2 ^ n) (5 - k)) : lec b (upd (shf a n k) (5 - k) v) = lec b (shf a n (k + 1)) := lec_congr fun j _ => by
  unfold upd shf
  by_cases h1 : j = 5 - k
  · subst h1; rw [if_pos rfl, if_pos (by omega), h]
  · rw [if_neg h1]
    by_cases h2 : 5 - k < j
    · rw [if_pos h2, if_pos (by omega)]
    · rw [if_neg h2, if_neg (by omega)]
theorem shf_start (a n b : Nat) : lec b (wd a) = lec b (shf a n 0) := lec_congr fun j hj => by
  unfold shf
  rw [if_neg (by omega)]
theorem lec_put0 {b : Nat} {f : Nat → Int} {v : Int} : patch (lec b f) 6 [.int .u64 v] = lec b (upd f 0 v) := rfl
theorem shf_end (a n b : Nat) : lec b (upd (shf a n 5) 0 (IntKind.u64.wrap (wd a 0 * 2 ^ n))) = lec b (wd (a * 2 ^ n % big)) := lec_congr fun j hj => by
  rw [wd_mod _ _ hj]
  unfold upd shf
  by_cases h1 : j = 0
  · subst h1; rw [if_pos rfl, sh_low]
  · rw [if_neg h1, if_pos (by omega)]
set_option maxHeartbeats 1000000 in
set_option maxRecDepth 100000 in
theorem shift_gen (g b L i : Nat) (hi : i ≤ 64) (w : World) (hm : Mm w [(g, lec b (wd L))]) :
    Calls Tryd.prog 82 #[PT g 0, .int .i64 ((i : Nat) : Int)] w fun e w' => e = .returned (.int .u64 (wd L 5 / 2 ^ (64 - i))) ∧ Mm w' [(g, lec b (wd (L * 2 ^ i % big)))] ∧ Kp g w w' := by
  have H0 : Hid (_ ∧ _) := ⟨hm, Kp.refl g w⟩
  clear hm
  go_enter Tryd.func82, Tryd.ntmps82
  refine wp_seq ?_
  refine walk_seqA 1 [.quiet (.int .u64 0)] (sB H0) ?ho1 ?he1
  case ho1 => exact ak (fun _ => ⟨rfl, fun _ _ => rfl⟩) trivial
  intro γ w1 l hM hl
  have H1 := keepK H0 hM.below
  clear hM hl l γ
  refine rest0 rfl (then_normal (wp_seq ?_))
  refine walk_seqA 1 [.quiet (.int .i64 5)] (sB H1) ?ho2 ?he2
  case ho2 => exact ak (fun _ => ⟨rfl, fun _ _ => rfl⟩) trivial
  intro γ w2 l hM hl
  have H2 := keepK H1 hM.below
  clear hM hl l H1 γ
  refine rest0 rfl (then_normal (wp_seq ?_))
  refine walk_seqA 10 [.quiet (PT g 0), .quiet (.int .i64 5), .quiet (PT g 0), .quiet (PT g 6), .quiet (PT g 11), .quiet (.int .u64 (wd L 5)), .quiet (.int .i64 ((i : Nat) : Int)), .quiet (.int .i64 ((64 - i : Nat) : Int)), .quiet (.int .u64 ((wd L 5) / 2 ^ (64 - i))), .quiet (.int .u64 ((wd L 5) / 2 ^ (64 - i)))] (sB H2) ?ho3 ?he3
  case ho3 => exact ak (fun _ => ⟨rfl, fun _ _ => rfl⟩) (ak (fun _ => ⟨rfl, fun _ _ => rfl⟩) (ak (by refine fun γ => ⟨rfl, fun w' h => ?_⟩; clear h; go_simp) (ak (by refine fun γ => ⟨rfl, fun w' h => ?_⟩; clear h; go_simp) (ak (by refine fun γ => ⟨rfl, fun w' h => ?_⟩; clear h; go_simp) (ak (fun γ => ⟨rfl, fun w' h => ex_load1 h 0 rfl rfl rfl rfl⟩) (ak (fun _ => ⟨rfl, fun _ _ => rfl⟩) (ak (by refine fun γ => ⟨rfl, fun w' h => ?_⟩; clear h; go_simp; rw [IntKind.wrap_i64]; omega) (ak (fun γ => ⟨rfl, fun w' _ => ex_shr rfl rfl rfl (Nat.sub_le 64 i)⟩) (ak (fun _ => ⟨rfl, fun _ _ => rfl⟩) trivial)))))))))
  intro γ w3 l hM hl
  have H3 := keepK H2 hM.below
  clear hM hl l H2 γ
  refine rest0 rfl (then_normal (wp_seq (wp_seq ?_)))
  refine walk_seqA 2 [.quiet (.int .i64 5), .quiet (.int .i64 5)] (sB H3) ?ho4 ?he4
  case ho4 => exact ak (fun _ => ⟨rfl, fun _ _ => rfl⟩) (ak (fun _ => ⟨rfl, fun _ _ => rfl⟩) trivial)
  intro γ w4 l hM hl
  have H4 := keepK H3 hM.below
  clear hM hl l H3 γ
  refine rest0 rfl (then_normal (wp_block ?_))
  refine loop_ghost (α := Nat) (fun k a' w' => ∃ s0 : Nat → Value, a' = ⟨#[PT g 0, .int .i64 ((i : Nat) : Int), undef, undef, .int .u64 0, .int .i64 5, .int .u64 ((wd L 5) / 2 ^ (64 - i)), .int .i64 ((5 - k : Nat) : Int), PT g 0, .int .i64 5, PT g 0, PT g 6, PT g 11, .int .u64 (wd L 5), .int .i64 ((i : Nat) : Int), .int .i64 ((64 - i : Nat) : Int), .int .u64 ((wd L 5) / 2 ^ (64 - i)), .int .i64 5, s0 18, s0 19, s0 20, s0 21, s0 22, s0 23, s0 24, s0 25, s0 26, s0 27, s0 28, s0 29, s0 30, s0 31, s0 32, s0 33, s0 34, s0 35, s0 36, s0 37, s0 38, s0 39, s0 40, s0 41, s0 42, s0 43, s0 44, s0 45, undef, undef, undef, undef, undef, undef, undef, undef, undef, undef, undef], []⟩ ∧ (Mm w' [(g, lec b (shf L i k))] ∧ Kp g w w') ∧ k ≤ 5) (fun k => 5 - k) 0 ?st0 ?rd0
  case st0 => exact ⟨(slotfn [undef, undef, undef, undef, undef, undef, undef, undef, undef, undef, undef, undef, undef, undef, undef, undef, undef, undef, undef, undef, undef, undef, undef, undef, undef, undef, undef, undef, undef, undef, undef, undef, undef, undef, undef, undef, undef, undef, undef, undef, undef, undef, undef, undef, undef, undef]), rfl, ⟨H4.out.1.at0 (shf_start L i b), H4.out.2⟩, by omega⟩
  intro k a' w5 hI
  obtain ⟨s0, rfl, hMB, hk0⟩ := hI
  have H5 : Hid (_ ∧ _) := hMB
  clear hMB H4
  by_cases hlt : k < 5
  · have hrd : True := trivial
    clear hrd
    obtain ⟨m, hm⟩ : ∃ m, 5 - k = m + 1 := ⟨4 - k, by omega⟩
    have hm6 : m + 1 < 6 := by omega
    have hm5 : m < 6 := by omega
    have hk1 : m + 1 ≤ 5 - k := by omega
    have hk2 : m ≤ 5 - k := by omega
    refine wp_seq (wp_seq ?_)
    refine walk_seqA 2 [.quiet (.int .i64 ((5 - k : Nat) : Int)), .quiet (.bool true)] (sB H5) ?ho5 ?he5
    case ho5 => exact ak (fun _ => ⟨rfl, fun _ _ => rfl⟩) (ak (by refine fun γ => ⟨rfl, fun w' h => ?_⟩; clear h; go_simp <;> omega) trivial)
    intro γ w6 l hM hl
    have H6 := keepK H5 hM.below
    clear hM hl l H5 γ
    refine rest0 rfl (then_normal (wp_cond_true rfl ?_))
    refine wp_skip (then_normal ?_)
    refine wp_seq (wp_block ?_)
    refine walk_put (by kernel_rfl) 24 [] [.quiet (PT g 0), .quiet (.int .i64 ((5 - k : Nat) : Int)), .quiet (PT g 0), .quiet (.int .i64 ((5 - k : Nat) : Int)), .quiet (PT g 0), .quiet (PT g 6), .quiet (PT g (6 + (5 - k))), .quiet (.int .u64 (wd L (5 - k))), .quiet (.int .i64 ((i : Nat) : Int)), .quiet (.int .u64 (IntKind.u64.wrap ((wd L (5 - k)) * 2 ^ i))), .quiet (PT g 0), .quiet (.int .i64 ((5 - k : Nat) : Int)), .quiet (.int .i64 ((m : Nat) : Int)), .quiet (PT g 0), .quiet (PT g 6), .quiet (PT g (6 + m)), .quiet (.int .u64 (wd L m)), .quiet (.int .i64 ((i : Nat) : Int)), .quiet (.int .i64 ((64 - i : Nat) : Int)), .quiet (.int .u64 ((wd L m) / 2 ^ (64 - i))), .quiet (.int .u64 (bits .or .u64 (IntKind.u64.wrap ((wd L (5 - k)) * 2 ^ i)) ((wd L m) / 2 ^ (64 - i)))), .quiet (PT g 0), .quiet (PT g 6), .quiet (PT g (6 + (5 - k)))] _ ?pre6 ?F6 _ ?hpre6 (fun γ => ?hF6) (by kernel_rfl) rfl ?hL6 (sB H6) ?ho6 ?hla6 ?he6
    case hpre6 => simp only [tk, tz]; rfl
    case hF6 => simp only [fill, Kind.val, Act.put, sa, sz, ss]; rfl
    case hL6 => exact trivial
    case ho6 =>
      refine ak (fun _ => ⟨rfl, fun _ _ => rfl⟩) ?_
      refine ak (fun _ => ⟨rfl, fun _ _ => rfl⟩) ?_
      refine ak (fun _ => ⟨rfl, fun _ _ => rfl⟩) ?_
      refine ak (fun _ => ⟨rfl, fun _ _ => rfl⟩) ?_
      refine ak (by refine fun γ => ⟨rfl, fun w' h => ?_⟩; clear h; go_simp) ?_
      refine ak (by refine fun γ => ⟨rfl, fun w' h => ?_⟩; clear h; go_simp) ?_
      refine ak (fun γ => ⟨rfl, fun w' _ => ex_indexAddr6 rfl rfl rfl (Nat.lt_of_le_of_lt (Nat.sub_le 5 k) (by decide))⟩) ?_
      refine ak (fun γ => ⟨rfl, fun w' h => ex_load1 h 0 rfl rfl rfl (shf_at (Nat.le_refl _) (Nat.lt_of_le_of_lt (Nat.sub_le 5 k) (by decide)))⟩) ?_
      refine ak (fun _ => ⟨rfl, fun _ _ => rfl⟩) ?_
      refine ak (fun γ => ⟨rfl, fun w' _ => ex_shl rfl rfl rfl hi⟩) ?_
      refine ak (fun _ => ⟨rfl, fun _ _ => rfl⟩) ?_
      refine ak (fun _ => ⟨rfl, fun _ _ => rfl⟩) ?_
      refine ak (by refine fun γ => ⟨rfl, fun w' h => ?_⟩; clear h; go_simp; rw [IntKind.wrap_i64]; omega) ?_
      refine ak (by refine fun γ => ⟨rfl, fun w' h => ?_⟩; clear h; go_simp) ?_
      refine ak (by refine fun γ => ⟨rfl, fun w' h => ?_⟩; clear h; go_simp) ?_
      refine ak (fun γ => ⟨rfl, fun w' _ => ex_indexAddr6 rfl rfl rfl hm5⟩) ?_
      refine ak (fun γ => ⟨rfl, fun w' h => ex_load1 h 0 rfl rfl rfl (shf_at hk2 hm5)⟩) ?_
      refine ak (fun _ => ⟨rfl, fun _ _ => rfl⟩) ?_
      refine ak (by refine fun γ => ⟨rfl, fun w' h => ?_⟩; clear h; go_simp; rw [IntKind.wrap_i64]; omega) ?_
      refine ak (fun γ => ⟨rfl, fun w' _ => ex_shr rfl rfl rfl (Nat.sub_le 64 i)⟩) ?_
      refine ak (fun γ => ⟨rfl, fun w' _ => ex_or rfl rfl rfl⟩) ?_
      refine ak (by refine fun γ => ⟨rfl, fun w' h => ?_⟩; clear h; go_simp) ?_
      refine ak (by refine fun γ => ⟨rfl, fun w' h => ?_⟩; clear h; go_simp) ?_
      refine ak (fun γ => ⟨rfl, fun w' _ => ex_indexAddr6 rfl rfl rfl (Nat.lt_of_le_of_lt (Nat.sub_le 5 k) (by decide))⟩) ?_
      exact trivial
    case hla6 => exact trivial
    intro γ w7 l hM hl
    have H7 := keepK H6 hM.below
    clear hM hl l H6 γ
    refine ⟨_, ex_storeI H7.out.1 0 rfl rfl Tryd.sizeOf31 rfl rfl (lec_bd (Nat.lt_of_le_of_lt (Nat.sub_le 5 k) (by decide))), ?_⟩
    have H8 : Hid (Mm (w7.setCells g (6 + (5 - k)) [.int .u64 (bits .or .u64 (IntKind.u64.wrap ((wd L (5 - k)) * 2 ^ i)) ((wd L m) / 2 ^ (64 - i)))]) [(g, lec b (shf L i (k + 1)))] ∧ Kp g w (w7.setCells g (6 + (5 - k)) [.int .u64 (bits .or .u64 (IntKind.u64.wrap ((wd L (5 - k)) * 2 ^ i)) ((wd L m) / 2 ^ (64 - i)))])) := ⟨by
      have h := H7.out.1.put 0 (off := (6 + (5 - k))) (vs := [.int .u64 (bits .or .u64 (IntKind.u64.wrap ((wd L (5 - k)) * 2 ^ i)) ((wd L m) / 2 ^ (64 - i)))]) rfl (lec_bd (Nat.lt_of_le_of_lt (Nat.sub_le 5 k) (by decide)))
      rw [lec_put (Nat.lt_of_le_of_lt (Nat.sub_le 5 k) (by decide)), shf_step hlt (by rw [hm]; exact sh_word L i m hi)] at h
      exact h, H7.out.2.put (Or.inl rfl)⟩
    clear H7
    generalize hgw : World.setCells _ _ _ _ = w8 at H8 ⊢
    clear hgw
    refine rest0 rfl ?_
    refine block_normal (then_normal ?_)
    refine walk_seqA 2 [.quiet (.int .i64 ((5 - k : Nat) : Int)), .quiet (.int .i64 ((5 - (k + 1) : Nat) : Int))] (sB H8) ?ho7 ?he7
    case ho7 => exact ak (fun _ => ⟨rfl, fun _ _ => rfl⟩) (ak (by refine fun γ => ⟨rfl, fun w' h => ?_⟩; clear h; go_simp; rw [IntKind.wrap_i64]; omega) trivial)
    intro γ w9 l hM hl
    have H9 := keepK H8 hM.below
    clear hM hl l H8 γ
    refine rest_at (l := [2]) rfl ?_
    refine rest_set (d := 7) rfl rfl rfl rfl ?_
    simp only [Act.put, sa, sz, ss]
    refine rest_nil (then_normal ?_)
    exact ⟨k + 1, ⟨(slotfn [undef, undef, undef, undef, undef, undef, undef, undef, undef, undef, undef, undef, undef, undef, undef, undef, undef, undef, .int .i64 ((5 - k : Nat) : Int), .bool true, .int .i64 ((5 - k : Nat) : Int), .int .i64 ((5 - (k + 1) : Nat) : Int), PT g 0, .int .i64 ((5 - k : Nat) : Int), PT g 0, .int .i64 ((5 - k : Nat) : Int), PT g 0, PT g 6, PT g (6 + (5 - k)), .int .u64 (wd L (5 - k)), .int .i64 ((i : Nat) : Int), .int .u64 (IntKind.u64.wrap ((wd L (5 - k)) * 2 ^ i)), PT g 0, .int .i64 ((5 - k : Nat) : Int), .int .i64 ((m : Nat) : Int), PT g 0, PT g 6, PT g (6 + m), .int .u64 (wd L m), .int .i64 ((i : Nat) : Int), .int .i64 ((64 - i : Nat) : Int), .int .u64 ((wd L m) / 2 ^ (64 - i)), .int .u64 (bits .or .u64 (IntKind.u64.wrap ((wd L (5 - k)) * 2 ^ i)) ((wd L m) / 2 ^ (64 - i))), PT g 0, PT g 6, PT g (6 + (5 - k))]), rfl, ⟨H9.out.1, H9.out.2⟩, by omega⟩, by omega⟩
  have hk5 : k = 5 := by omega
  subst hk5
  refine wp_seq (wp_seq ?_)
  refine walk_seqA 2 [.quiet (.int .i64 ((5 - 5 : Nat) : Int)), .quiet (.bool false)] (sB H5) ?ho8 ?he8
  case ho8 => exact ak (fun _ => ⟨rfl, fun _ _ => rfl⟩) (ak (by refine fun γ => ⟨rfl, fun w' h => ?_⟩; clear h; go_simp <;> omega) trivial)
  intro γ w10 l hM hl
  have H10 := keepK H5 hM.below
  clear hM hl l H5 γ
  refine rest0 rfl (then_normal (wp_cond_false rfl ?_))
  refine wp_exit ?_
  repeat refine then_exit ?_
  refine block_exit ?_
  refine then_normal (wp_seq ?_)
  refine walk_put (by kernel_rfl) 10 [] [.quiet (PT g 0), .quiet (PT g 0), .quiet (PT g 6), .quiet (PT g 6), .quiet (.int .u64 (wd L 0)), .quiet (.int .i64 ((i : Nat) : Int)), .quiet (.int .u64 (IntKind.u64.wrap ((wd L 0) * 2 ^ i))), .quiet (PT g 0), .quiet (PT g 6), .quiet (PT g 6)] _ ?pre9 ?F9 _ ?hpre9 (fun γ => ?hF9) (by kernel_rfl) rfl trivial (sB H10) ?ho9 ?hla9 ?he9
  case hpre9 => simp only [tk, tz]; rfl
  case hF9 => simp only [fill, Kind.val, Act.put, sa, sz, ss]; rfl
  case ho9 =>
    refine ak (fun _ => ⟨rfl, fun _ _ => rfl⟩) ?_
    refine ak (by refine fun γ => ⟨rfl, fun w' h => ?_⟩; clear h; go_simp) ?_
    refine ak (by refine fun γ => ⟨rfl, fun w' h => ?_⟩; clear h; go_simp) ?_
    refine ak (by refine fun γ => ⟨rfl, fun w' h => ?_⟩; clear h; go_simp) ?_
    refine ak (fun γ => ⟨rfl, fun w' h => ex_load1 h 0 rfl rfl rfl rfl⟩) ?_
    refine ak (fun _ => ⟨rfl, fun _ _ => rfl⟩) ?_
    refine ak (fun γ => ⟨rfl, fun w' _ => ex_shl rfl rfl rfl hi⟩) ?_
    refine ak (by refine fun γ => ⟨rfl, fun w' h => ?_⟩; clear h; go_simp) ?_
    refine ak (by refine fun γ => ⟨rfl, fun w' h => ?_⟩; clear h; go_simp) ?_
    refine ak (by refine fun γ => ⟨rfl, fun w' h => ?_⟩; clear h; go_simp) ?_
    exact trivial
  case hla9 => exact trivial
  intro γ w11 l hM hl
  have H11 := keepK H10 hM.below
  clear hM hl l H10 γ
  refine ⟨_, ex_storeI H11.out.1 0 rfl rfl Tryd.sizeOf31 rfl rfl (Nat.le_of_ble_eq_true rfl), ?_⟩
  have H12 : Hid (Mm (w11.setCells g 6 [.int .u64 (IntKind.u64.wrap ((wd L 0) * 2 ^ i))]) [(g, lec b (wd (L * 2 ^ i % big)))] ∧ Kp g w (w11.setCells g 6 [.int .u64 (IntKind.u64.wrap ((wd L 0) * 2 ^ i))])) := ⟨by
    have h := H11.out.1.put 0 (off := 6) (vs := [.int .u64 (IntKind.u64.wrap ((wd L 0) * 2 ^ i))]) rfl (Nat.le_of_ble_eq_true rfl)
    rw [lec_put0, shf_end] at h
    exact h, H11.out.2.put (Or.inl rfl)⟩
  clear H11
  generalize hgw : World.setCells _ _ _ _ = w12 at H12 ⊢
  clear hgw
  refine rest0 rfl (then_normal (wp_seq ?_))
  refine walk_seqA 2 [.quiet (.int .u64 ((wd L 5) / 2 ^ (64 - i))), .quiet (.int .u64 ((wd L 5) / 2 ^ (64 - i)))] (sB H12) ?ho10 ?he10
  case ho10 => exact ak (fun _ => ⟨rfl, fun _ _ => rfl⟩) (ak (fun _ => ⟨rfl, fun _ _ => rfl⟩) trivial)
  intro γ w13 l hM hl
  have H13 := keepK H12 hM.below
  clear hM hl l H12 γ
  refine rest0 rfl (then_normal (wp_ret ?_))
  repeat (first | refine then_ret ?_ | refine block_ret ?_)
  refine bodyPost_ret (v := .int .u64 ((wd L 5) / 2 ^ (64 - i))) (by simp [results, Tryd.results82, go_sem, *]) rfl ?_
  exact ⟨rfl, H13.out.1.one 0 rfl, H13.out.2⟩
theorem shiftL_any (g b L i : Nat) (hi : i ≤ 64) (hL : L < big) (w : World) (hm : Mm w [(g, lec b (wd L))]) :
    Calls Tryd.prog 82 #[PT g 0, .int .i64 ((i : Nat) : Int)] w fun e w' => e = .returned (.int .u64 ((L * 2 ^ i / big : Nat) : Int)) ∧ Mm w' [(g, lec b (wd (L * 2 ^ i % big)))] ∧ Kp g w w' := by
  have h := shift_gen g b L i hi w hm
  rw [sh_top L i hL hi] at h
  exact h
end Rg
end Go.Proofs.YtkkloakcphigeaaDoor
end
section
namespace Go.Proofs.YtkkloakcphigeaaDoor
open Go.RowKit
namespace Rg
theorem call52 : ∀ args w, (callFunc 52 args).run Tryd.prog w = .ok (.enter 52 args) w := by intro args w; go_simp
theorem okLt {n : Nat} (ok : Ok n) (x : Nat) : x % n < big := Nat.lt_trans (Nat.mod_lt _ ok.pos) ok.big
theorem pow_is (k : Nat) (h : k = 64 * 6) : 2 ^ k = big := by subst h; exact big_eq.symm
end Rg
end Go.Proofs.YtkkloakcphigeaaDoor
end
