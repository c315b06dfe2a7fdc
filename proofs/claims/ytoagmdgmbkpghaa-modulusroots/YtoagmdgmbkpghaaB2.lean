/- A region that draws its order, and whose last operation waits for all others: that one is taken last, as the walk takes it. -/
import Derived.Test.YtoagmdgmbkpghaaPA3
namespace Go.Proofs.Ytoagmdgmbkpghaa
open Go.RowKit

section
variable {P : Program} {ops : Array Oper} {ks : List Kind} {a₀ : Act} {w₀ : World} {Q : Exit → Act → World → Prop}

theorem none_ready {l : Array Bool} (hl : ∀ i, i < ops.size → l.getD i false = true) : Region.ready .any ops l = [] := by
  refine List.eq_nil_iff_forall_not_mem.2 fun i hi => ?_
  obtain ⟨h1, o, ho, _⟩ := mem_ready.1 hi
  have h2 := hl i (Array.getElem?_eq_some_iff.1 ho).1
  rcases Nat.lt_or_ge i l.size with h' | h'
  · simp [h'] at h1 h2
    rw [h1] at h2
    cases h2
  · simp [Array.getElem?_eq_none h'] at h2
theorem any_done {l : Array Bool} {a : Act} {w : World} (hr : Region.ready .any ops l = []) (h : Q .normal a w) : ∀ fuel, wpAny P .any ops Q fuel l a w
  | 0 => ⟨hr, h⟩
  | _ + 1 => ⟨fun _ => h, by rw [hr]; simp⟩

set_option maxHeartbeats 1000000 in
theorem any_last {n p : Nat} {op : Oper} (hO : Orderly ops ks n) (hn : n = a₀.tmps.size) (hL : LaidOk ks ks) {S : World → Prop} (hS : ∀ w, Below w₀.heap.size w₀ w → S w)
    (hp : ops[p]? = some op) (hlen : p + 1 = ops.size) (hdst : op.dst = none) (hkp : ks[p]? = some .gone) (hwt : ∀ j, j < p → waits op j = true)
    (hops : AllOk P ops S (fun γ => fill γ 0 ops.toList ks a₀) (ops.toList.take p) ks)
    (hlast : ∀ γ w l, Mem ks w₀ l γ w → (∀ i, i < p → l.getD i false = true) → ∀ K' : Act → World → Prop, (∀ a w, Q .normal a w → K' a w) →
      if Region.wanted op (yielded ops (fill γ 0 ops.toList ks a₀).tmps) = true then Oper.wp P op (fill γ 0 ops.toList ks a₀) w K' Q else K' ((fill γ 0 ops.toList ks a₀).put op.dst undef) w) :
    ∀ (fuel : Nat) (l : Array Bool) (γ : Nat → Nat) (a : Act) (w : World), l.size = ops.size → l.toList.count false ≤ fuel → l.getD p true = false → Agree ops ks a₀ l γ a → Mem ks w₀ l γ w → wpAny P .any ops Q fuel l a w := by
  intro fuel
  induction fuel with
  | zero =>
    intro l γ a w hsz hc hpu hA hM
    have h1 := count_set hpu
    omega
  | succ fuel ih =>
    intro l γ a w hsz hc hpu hA hM
    refine ⟨fun hr => ?_, fun i hi => ?_⟩
    · exfalso
      have hall := all_listed hO hsz hr p (by omega)
      rw [(getD_same hpu).1] at hall
      cases hall
    · obtain ⟨hun, o, ho, hedge⟩ := mem_ready.1 hi
      have hilt : i < ops.size := (Array.getElem?_eq_some_iff.1 ho).1
      by_cases hip : i = p
      · subst hip
        rw [hp] at ho
        injection ho with ho
        subst ho
        have hoth : ∀ j, j < i → l.getD j false = true := fun j hj => waits_spec (hwt j hj) hedge
        have hwh : a = fill γ 0 ops.toList ks a₀ := by
          have ht : a.tmps = (fill γ 0 ops.toList ks a₀).tmps := Array.ext_getElem? fun d =>
            hA.slots d (fun j oj hj hd => by
              have hjl := (Array.getElem?_eq_some_iff.1 hj).1
              rcases Nat.lt_or_ge j i with h' | h'
              · exact hoth j h'
              · have : j = i := by omega
                subst this
                rw [hp] at hj
                injection hj with hj
                subst hj
                rw [hdst] at hd
                cases hd)
          have hd : a.defers = (fill γ 0 ops.toList ks a₀).defers := by rw [hA.defers, fill_defers]
          cases a
          cases hf : fill γ 0 ops.toList ks a₀
          rw [hf] at ht hd
          simp only at ht hd
          rw [ht, hd]
        refine wpOp_step hp (fun K' hK => ?_)
        rw [hwh]
        refine hlast γ w l hM hoth K' (fun a' w' hq => hK a' w' (any_done (none_ready (fun j hj => ?_)) hq fuel))
        rcases Nat.lt_or_ge j i with h' | h'
        · exact getD_true (hoth j h')
        · have : j = i := by omega
          subst this
          exact (getD_same hun).2
      · obtain ⟨k, hk⟩ := kind_at hO ho
        have hok := hops.at (by rw [List.getElem?_take, if_pos (by omega)]; simpa using ho) hk
        obtain ⟨he, hw⟩ := hA.sees hO ho hedge
        have hc' := count_set hun
        have hpu' : (l.setIfInBounds i true).getD p true = false := by rw [getD_set_ne true hip]; exact hpu
        have next : ∀ (γ' : Nat → Nat) (w' : World), (∀ j, j ≠ i → γ' j = γ j) → Mem ks w₀ (l.setIfInBounds i true) γ' w' → wpAny P .any ops Q fuel (l.setIfInBounds i true) (a.put o.dst (k.val γ' i)) w' := fun γ' w' hγ hM' =>
          ih _ γ' _ w' (by simp [hsz]) (by omega) hpu' (hA.step hO hn ho hk hγ) hM'
        refine wpOp_step ho (fun K' hK => ?_)
        rw [hw]
        cases k using Kind.each with
        | quiet v =>
          obtain ⟨h1, h2⟩ := hok γ
          rw [if_pos h1]
          unfold Oper.wp
          rw [he, h2 w (hS w hM.below)]
          exact hK _ _ (next γ w (fun _ _ => rfl) (hM.still (Below.refl _ _) hk (fun _ _ h => by cases h) (fun _ _ _ h => by cases h)))
        | gone =>
          rw [if_neg (by rw [hok γ]; decide)]
          exact hK _ _ (next γ w (fun _ _ => rfl) (hM.still (Below.refl _ _) hk (fun _ _ h => by cases h) (fun _ _ _ h => by cases h)))
        | call v =>
          obtain ⟨h1, h2⟩ := hok γ
          rw [if_pos h1]
          obtain ⟨f, args, h3, h4⟩ := h2 w (hS w hM.below)
          unfold Oper.wp
          rw [he, h3]
          refine Calls.mono h4 ?_
          rintro e w' ⟨rfl, hb⟩
          exact hK _ _ (next γ w' (fun _ _ => rfl) (hM.still hb hk (fun _ _ h => by cases h) (fun _ _ _ h => by cases h)))
        | made zs t =>
          obtain ⟨h1, h2⟩ := hok γ
          rw [if_pos h1]
          unfold Oper.wp
          rw [he, h2 w]
          have := next _ _ (fun j hj => if_neg hj) (hM.make hk hun)
          simp only [Kind.val, if_pos] at this
          exact hK _ _ this
        | laid j zs cs =>
          obtain ⟨h1, h2, h3, h4⟩ := hok γ
          rw [if_pos h1]
          have hli : l.getD j false = true := waits_spec (hO.laid ho hk) hedge
          obtain ⟨hr, hM'⟩ := hM.lay hO hL ho hk h3 hun hli
          unfold Oper.wp
          rw [he, h4 w hr]
          exact hK _ _ (next γ _ (fun _ _ => rfl) hM')
/-- The law, the last operation left to the walk. -/
theorem region_last {id : Nat} {a : Act} {w : World} (hm : P.follows .mixedOrders = true) (ks : List Kind) (S : World → Prop) (F : (Nat → Nat) → Act) {p : Nat} (op : Oper)
    (hF : ∀ γ, fill γ 0 ops.toList ks a = F γ) (hor : orderly ops ks a.tmps.size = true) (hL : LaidOk ks ks) (hS : ∀ w', Below w.heap.size w w' → S w')
    (hp : ops[p]? = some op) (hlen : p + 1 = ops.size) (hdst : op.dst = none) (hkp : ks[p]? = some .gone) (hwt : ((List.range p).all fun j => waits op j) = true)
    (hops : AllOk P ops S F (ops.toList.take p) ks)
    (hlast : ∀ γ w' l, Mem ks w l γ w' → (∀ i, i < p → l.getD i false = true) → ∀ K' : Act → World → Prop, Hid (∀ a w, Q .normal a w → K' a w) →
      if Region.wanted op (yielded ops (F γ).tmps) = true then Oper.wp P op (F γ) w' K' Q else K' ((F γ).put op.dst undef) w') : (Code.region id ops true).wp P Q a w := by
  obtain rfl : (fun γ => fill γ 0 ops.toList ks a) = F := funext hF
  have none_listed : ∀ i, (Array.replicate ops.size false).getD i false = false := fun i => by
    rcases Nat.lt_or_ge i ops.size with h | h <;> simp [h]
  refine wp_region_any hm (any_last (Orderly.of hor) rfl hL hS hp hlen hdst hkp (fun j hj => List.all_eq_true.1 hwt j (List.mem_range.2 hj)) hops (fun γ w' l h1 h2 K' hK => hlast γ w' l h1 h2 K' hK) ops.size _ (fun _ => 0) a w.drew (by simp) (by simp) (by simp [show p < ops.size by omega]) ⟨rfl, rfl, fun d hd => ?_⟩ ?_)
  · have hno : ∀ o' ∈ ops.toList, o'.dst ≠ some d := fun o' ho' hd' => by
      obtain ⟨j, hj, ej⟩ := List.getElem_of_mem ho'
      have := hd j o' (by rw [← Array.getElem?_toList, List.getElem?_eq_getElem hj, ej]) hd'
      rw [none_listed] at this
      cases this
    rw [fill_other _ d 0 _ _ _ hno]
  · refine ⟨(Below.refl _ _).drew, ?_, ?_, ?_, ?_, ?_⟩
    · intro i zs t _ h; rw [none_listed] at h; cases h
    · intro i zs t _ h; rw [none_listed] at h; cases h
    · intro s i zs cs _ h; rw [none_listed] at h; cases h
    · intro s i zs cs _ h; rw [none_listed] at h; cases h
    · intro i j zs t zs' t' _ _ h; rw [none_listed] at h; cases h
end
end Go.Proofs.Ytoagmdgmbkpghaa
