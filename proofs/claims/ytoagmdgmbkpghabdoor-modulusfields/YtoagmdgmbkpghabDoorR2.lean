/- The operations on blocks of the list. -/
import Derived.Test.YtoagmdgmbkpghabDoorR1
import Derived.Test.YtoagmdgmbkpghabDoorM0
namespace Go.Proofs.YtoagmdgmbkpghabDoor
open Go.RowKit
namespace Rg

abbrev PT (g off : Nat) : Value := .pointer (some ⟨g, off, none⟩)
theorem six_of {cs : List Value} {off v : Nat} (hc : (cs.drop off).take 6 = cells6 v) : cs[off]? = some (.int .u64 (wd v 0)) ∧ cs[off + 1]? = some (.int .u64 (wd v 1)) ∧ cs[off + 2]? = some (.int .u64 (wd v 2)) ∧ cs[off + 3]? = some (.int .u64 (wd v 3)) ∧ cs[off + 4]? = some (.int .u64 (wd v 4)) ∧ cs[off + 5]? = some (.int .u64 (wd v 5)) := by
  have h : ∀ k, k < 6 → cs[off + k]? = (cells6 v)[k]? := fun k hk => by
    rw [← hc, List.getElem?_take, if_pos hk, List.getElem?_drop]
  exact ⟨h 0 (by decide), h 1 (by decide), h 2 (by decide), h 3 (by decide), h 4 (by decide), h 5 (by decide)⟩
theorem ex_load6 {ρ : Operand → Value} {o : Oper} {x : Operand} {g off v : Nat} {cs : List Value} {w : World} {l : List (Nat × List Value)} (h : Mm w l) (k : Nat) (hk : l[k]? = some (g, cs)) (ho : o.op = .load 24 x) (hx : ρ x = PT g off) (hc : (cs.drop off).take 6 = cells6 v) :
    (execOp ρ o).run Tryd.prog w = .ok (.value (N v)) w := by
  have hm := List.mem_of_getElem? hk
  obtain ⟨k0, k1, k2, k3, k4, k5⟩ := six_of hc
  have c0 := h.cell hm k0
  have c1 := h.cell hm k1
  have c2 := h.cell hm k2
  have c3 := h.cell hm k3
  have c4 := h.cell hm k4
  have c5 := h.cell hm k5
  clear h hk hm hc k0 k1 k2 k3 k4 k5
  simp only [execOp, ho, hx]
  go_simp
theorem ex_load1 {ρ : Operand → Value} {o : Oper} {x : Operand} {g off : Nat} {v : Value} {cs : List Value} {w : World} {l : List (Nat × List Value)} (h : Mm w l) (k : Nat) (hk : l[k]? = some (g, cs)) (ho : o.op = .load 22 x) (hx : ρ x = PT g off) (hc : cs[off]? = some v) :
    (execOp ρ o).run Tryd.prog w = .ok (.value v) w := by
  have c0 := h.cell (List.mem_of_getElem? hk) hc
  clear h hk hc
  simp only [execOp, ho, hx]
  go_simp
theorem ex_box6 {ρ : Operand → Value} {o : Oper} {x : Operand} {v : Nat} {w : World} (ho : o.op = .box 24 x) (hx : ρ x = N v) :
    (execOp ρ o).run Tryd.prog w = .ok (.value (.pointer (some ⟨w.heap.size, 0, none⟩))) (w.alloc (.cells (cells6 v).toArray 24)) := by
  simp only [execOp, ho, hx]
  go_simp
theorem ex_store6 {ρ : Operand → Value} {o : Oper} {x y : Operand} {g off v : Nat} {cs : List Value} {w : World} {l : List (Nat × List Value)} (h : Mm w l) (k : Nat) (hk : l[k]? = some (g, cs)) (ho : o.op = .store 24 x y) (hx : ρ x = PT g off) (hy : ρ y = N v) (hc : off + 6 ≤ cs.length) :
    (execOp ρ o).run Tryd.prog w = .ok .skip (w.setCells g off (cells6 v)) := by
  have hm := List.mem_of_getElem? hk
  have hq : ∀ k, k < 6 → ∃ u, w.cell? ⟨g, off + k, none⟩ = some u ∧ w.frozen? ⟨g, off + k, none⟩ = false := fun k hk => by
    have e : cs[off + k]? = some (cs[off + k]'(by omega)) := List.getElem?_eq_getElem _
    exact ⟨_, h.cell hm e, h.free hm e⟩
  obtain ⟨u0, c0, f0⟩ := hq 0 (by decide)
  obtain ⟨u1, c1, f1⟩ := hq 1 (by decide)
  obtain ⟨u2, c2, f2⟩ := hq 2 (by decide)
  obtain ⟨u3, c3, f3⟩ := hq 3 (by decide)
  obtain ⟨u4, c4, f4⟩ := hq 4 (by decide)
  obtain ⟨u5, c5, f5⟩ := hq 5 (by decide)
  clear h hm hc hk hq
  rw [Nat.add_zero] at c0 f0
  simp only [execOp, ho, hx, hy]
  go_simp
  simp [World.setCells]
theorem ex_storeI {ρ : Operand → Value} {o : Oper} {x y : Operand} {g off : Nat} {ik : IntKind} {v : Int} {t : TypeId} {cs : List Value} {w : World} {l : List (Nat × List Value)} (h : Mm w l) (k : Nat) (hk : l[k]? = some (g, cs)) (ho : o.op = .store t x y) (hs : ∀ w, (sizeOf t).run Tryd.prog w = .ok 1 w) (hx : ρ x = PT g off) (hy : ρ y = .int ik v) (hc : off < cs.length) :
    (execOp ρ o).run Tryd.prog w = .ok .skip (w.setCells g off [.int ik v]) := by
  have hm := List.mem_of_getElem? hk
  have e : cs[off]? = some (cs[off]'hc) := List.getElem?_eq_getElem _
  have c0 := h.cell hm e
  have f0 := h.free hm e
  clear h hm hk
  simp only [execOp, ho, hx, hy]
  go_simp
  simp [World.setCells]
theorem ex_storeB {ρ : Operand → Value} {o : Oper} {x y : Operand} {g off : Nat} {v : Bool} {t : TypeId} {cs : List Value} {w : World} {l : List (Nat × List Value)} (h : Mm w l) (k : Nat) (hk : l[k]? = some (g, cs)) (ho : o.op = .store t x y) (hs : ∀ w, (sizeOf t).run Tryd.prog w = .ok 1 w) (hx : ρ x = PT g off) (hy : ρ y = .bool v) (hc : off < cs.length) :
    (execOp ρ o).run Tryd.prog w = .ok .skip (w.setCells g off [.bool v]) := by
  have hm := List.mem_of_getElem? hk
  have e : cs[off]? = some (cs[off]'hc) := List.getElem?_eq_getElem _
  have c0 := h.cell hm e
  have f0 := h.free hm e
  clear h hm hk
  simp only [execOp, ho, hx, hy]
  go_simp
  simp [World.setCells]
theorem Mm.one {w : World} {l : List (Nat × List Value)} (h : Mm w l) (k : Nat) {p : Nat × List Value} (hk : l[k]? = some p) : Mm w [p] :=
  ⟨fun q hq => by rw [List.mem_singleton.1 hq]; exact h.blk p (List.mem_of_getElem? hk), List.pairwise_singleton _ _⟩
theorem Mm.get {w : World} {l : List (Nat × List Value)} (h : Mm w l) (k : Nat) {g : Nat} {cs : List Value} (hk : l[k]? = some (g, cs)) (j : Nat) {v : Value} (hj : cs[j]? = some v) : w.cell? ⟨g, j, none⟩ = some v := h.cell (List.mem_of_getElem? hk) hj
/-- A call of a function in place of which the model has a law. -/
theorem ex_extern {P : Program} {ρ : Operand → Value} {o : Oper} {f : FuncId} {xs : Array Operand} {ts : Array TypeId} {args : Array Value} {v : Value} {w : World} (ho : o.op = .call { callee := .value (.func f), args := xs, argTypes := ts }) (hc : (callFunc f args).run P w = .ok (.value v) w) (hf : ρ (.func f) = .func (.func f) #[] #[]) (hx : xs.map ρ = args) :
    (execOp ρ o).run P w = .ok (.value v) w := by
  subst hx
  simp only [execOp, ho, resolve, hf]
  simp [go_sem, Deferred.ofValue, invoke, hc]

/-! The laws of regions, as a walk uses them. -/
section
variable {P : Program} {Q : Exit → Act → World → Prop} {full : Array Oper} {a : Act} {w : World}
theorem take_arr (full : Array Oper) (p : Nat) : full.extract 0 p = (full.toList.take p).toArray := by
  apply Array.toList_inj.1
  simp [List.extract_eq_take_drop]
theorem walk_any {id : Nat} (hm : P.follows .mixedOrders = true) (p : Nat) (ks : List Kind) (S : World → Prop) (pre : List Oper) (F : (Nat → Nat) → Act) (hpre : full.toList.take p = pre)
    (hF : ∀ γ, fill γ 0 pre ks a = F γ) (hor : (orderly pre.toArray ks a.tmps.size && guarded pre.toArray p && chained full p && decide (p ≤ full.size)) = true) (hL : LaidOk ks ks) (hS : ∀ w', Below w.heap.size w w' → S w')
    (hops : AllOk P pre.toArray S F pre ks)
    (hend : ∀ γ w' l, Mem ks w l γ w' → (∀ i, i < p → l.getD i false = true) → wpOps P full Q (List.range' p (full.size - p)) (F γ) w') :
    (Code.region id full true).wp P Q a w := by
  subst hpre
  rw [← take_arr] at hor hops
  refine region_any hm p ks S F (fun γ => ?_) hor hL hS ?_ hend
  · rw [take_arr]; exact hF γ
  · have e : (full.extract 0 p).toList = full.toList.take p := by rw [take_arr]
    rw [e]; exact hops
theorem walk_seq {id : Nat} (p : Nat) (ks : List Kind) (S : World → Prop) (pre : List Oper) (F : (Nat → Nat) → Act) (hpre : full.toList.take p = pre)
    (hF : ∀ γ, fill γ 0 pre ks a = F γ) (hor : (orderly pre.toArray ks a.tmps.size && guarded pre.toArray p && decide (p ≤ full.size)) = true) (hL : LaidOk ks ks) (hS : ∀ w', Below w.heap.size w w' → S w')
    (hops : AllOk P pre.toArray S F pre ks)
    (hend : ∀ γ w' l, Mem ks w l γ w' → (∀ i, i < p → l.getD i false = true) → wpOps P full Q (List.range' p (full.size - p)) (F γ) w') :
    (Code.region id full false).wp P Q a w := by
  subst hpre
  rw [← take_arr] at hor hops
  refine region_seq p ks S F (fun γ => ?_) hor hL hS ?_ hend
  · rw [take_arr]; exact hF γ
  · have e : (full.extract 0 p).toList = full.toList.take p := by rw [take_arr]
    rw [e]; exact hops
theorem AllOk.cons {ops : Array Oper} {S : World → Prop} {F : (Nat → Nat) → Act} {o : Oper} {os : List Oper} {k : Kind} {ks : List Kind} (h : KindOk P ops S F o k) (hs : AllOk P ops S F os ks) : AllOk P ops S F (o :: os) (k :: ks) := ⟨h, hs⟩
theorem rest_at {p m : Nat} {l : List Nat} (h : List.range' p m = l) (hw : wpOps P full Q l a w) : wpOps P full Q (List.range' p m) a w := by rw [h]; exact hw
theorem then_normal {K : Act → World → Prop} (h : K a w) : Exit.then K Q .normal a w := h
theorem then_ret {K : Act → World → Prop} (h : Q .ret a w) : Exit.then K Q .ret a w := h
theorem then_exit {K : Act → World → Prop} {id : Nat} (h : Q (.exit id) a w) : Exit.then K Q (.exit id) a w := h
theorem block_ret {id : Nat} (h : Q .ret a w) : Exit.inBlock id Q .ret a w := h
theorem rest_set {i d : Nat} {r : List Nat} {o : Oper} {v : Value} {w' : World} (ho : full[i]? = some o) (hd : o.dst = some d) (hw : Region.wanted o (yielded full a.tmps) = true) (hx : (execOp a.eval o).run P w = .ok (.value v) w') (h : wpOps P full Q r (a.put (some d) v) w') : wpOps P full Q (i :: r) a w :=
  rest_value ho hw hx (by rw [hd]; exact h)
theorem rest_store {i : Nat} {r : List Nat} {o : Oper} {w' : World} (ho : full[i]? = some o) (hd : o.dst = none) (hw : Region.wanted o (yielded full a.tmps) = true) (hx : (execOp a.eval o).run P w = .ok .skip w') (h : wpOps P full Q r a w') : wpOps P full Q (i :: r) a w :=
  rest_skip ho hw hx (by rw [hd]; exact h)
theorem rest_enter {i d : Nat} {r : List Nat} {o : Oper} {f : FuncId} {args : Array Value} {R : Value → World → Prop} (ho : full[i]? = some o) (hd : o.dst = some d) (hw : Region.wanted o (yielded full a.tmps) = true) (hx : (execOp a.eval o).run P w = .ok (.enter f args) w)
    (hc : Calls P f args w (fun e w' => ∃ v, e = .returned v ∧ R v w')) (h : ∀ v w', R v w' → wpOps P full Q r (a.put (some d) v) w') : wpOps P full Q (i :: r) a w :=
  rest_call ho hw hx hc (fun v w' hr => by rw [hd]; exact h v w' hr)
theorem rest_enter0 {i : Nat} {r : List Nat} {o : Oper} {f : FuncId} {args : Array Value} {R : Value → World → Prop} (ho : full[i]? = some o) (hd : o.dst = none) (hw : Region.wanted o (yielded full a.tmps) = true) (hx : (execOp a.eval o).run P w = .ok (.enter f args) w)
    (hc : Calls P f args w (fun e w' => ∃ v, e = .returned v ∧ R v w')) (h : ∀ v w', R v w' → wpOps P full Q r a w') : wpOps P full Q (i :: r) a w :=
  rest_call ho hw hx hc (fun v w' hr => by rw [hd]; exact h v w' hr)
theorem block_exit {id : Nat} (h : Q .normal a w) : Exit.inBlock id Q (.exit id) a w := by simp only [Exit.inBlock, if_true]; exact h
theorem block_normal {id : Nat} (h : Q .normal a w) : Exit.inBlock id Q .normal a w := h
/-- A loop, by what is known at each round's beginning. -/
theorem loop_ghost {α : Type} {c : Code} (I : α → Act → World → Prop) (μ : α → Nat) (x₀ : α) (h₀ : I x₀ a w)
    (round : ∀ x a w, I x a w → c.wp P (Exit.then (fun a' w' => ∃ x', I x' a' w' ∧ μ x' < μ x) Q) a w) : (Code.loop c).wp P Q a w := by
  have least : ∀ (n : Nat) (a : Act) (w : World) (x : α), μ x = n → I x a w → ∃ y, I y a w ∧ ∀ z, I z a w → μ y ≤ μ z := by
    intro n
    induction n using Nat.strongRecOn with
    | _ n ih =>
      intro a w x hn hx
      by_cases h : ∃ z, I z a w ∧ μ z < μ x
      · obtain ⟨z, hz, hlt⟩ := h
        exact ih (μ z) (by omega) a w z rfl hz
      · refine ⟨x, hx, fun z hz => ?_⟩
        rcases Nat.lt_or_ge (μ z) (μ x) with h' | h'
        · exact absurd ⟨z, hz, h'⟩ h
        · exact h'
  have pick : ∀ (a : Act) (w : World), ∃ m : Nat, ∀ x, I x a w → (∃ y, I y a w ∧ μ y = m) ∧ m ≤ μ x := by
    intro a w
    by_cases h : ∃ x, I x a w
    · obtain ⟨x, hx⟩ := h
      obtain ⟨y, hy, hmin⟩ := least _ a w x rfl hx
      exact ⟨μ y, fun z hz => ⟨⟨y, hy, rfl⟩, hmin z hz⟩⟩
    · exact ⟨0, fun x hx => absurd ⟨x, hx⟩ h⟩
  refine wp_loop (fun a w => ∃ x, I x a w) (fun a w => Classical.choose (pick a w)) ⟨x₀, h₀⟩ ?_
  rintro a w ⟨x, hx⟩
  obtain ⟨⟨y, hy, hm⟩, hle⟩ := Classical.choose_spec (pick a w) x hx
  refine Code.wp_mono (fun e a' w' h => ?_) (round y a w hy)
  cases e with
  | normal =>
    obtain ⟨x', hx', hlt⟩ := h
    refine ⟨⟨x', hx'⟩, ?_⟩
    have := (Classical.choose_spec (pick a' w') x' hx').2
    show Classical.choose (pick a' w') < Classical.choose (pick a w)
    omega
  | _ => exact h
end
end Rg
end Go.Proofs.YtoagmdgmbkpghabDoor
