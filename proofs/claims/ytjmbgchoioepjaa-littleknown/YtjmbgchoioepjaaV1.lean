/- A map of points -/
import Derived.Test.YtjmbgchoioepjaaU7
import Derived.Test.YtjmbgchoioepjaaR4
import Derived.MapKept
namespace Go.Proofs.Ytjmbgchoioepjaa
open Go.RowKit
namespace Rg

abbrev ent (a : P3) (k : Int) (n : Nat) : MapEntry := ⟨V (pc a), .int .i64 k, n⟩
theorem check_pt (e : Bool) (a : P3) (w : World) : (Instr.checkKey e 10000 25 (V (pc a))).run Try.prog w = .ok () w := by kernel_rfl
theorem eq_pt (a b : P3) (w : World) : (Op.equal 25 (V (pc a)) (V (pc b))).run Try.prog w = .ok (decide (a = b)) w := by
  by_cases h : a = b
  · subst h
    rw [decide_eq_true rfl]
    exact eq_self a.1 a.2.1 a.2.2 w
  · rw [decide_eq_false h]
    exact eq_not a.1 a.2.1 b.1 b.2.1 a.2.2 b.2.2 h w
theorem find_0 (a : P3) (w : World) : (Instr.findKey 25 (V (pc a)) []).run Try.prog w = .ok none w := by kernel_rfl
theorem find_ask (a b : P3) (k : Int) (n : Nat) (r : List MapEntry) (w : World) : (Instr.findKey 25 (V (pc a)) (ent b k n :: r)).run Try.prog w = (Instr.findAsking 25 (V (pc a)) (ent b k n :: r)).run Try.prog w := by kernel_rfl
theorem find_1 (a b : P3) (k : Int) (n : Nat) (w : World) : (Instr.findKey 25 (V (pc a)) [ent b k n]).run Try.prog w = .ok (if a = b then some (0, .int .i64 k) else none) w := by
  rw [find_ask]
  unfold Instr.findAsking
  simp only [Sem.run_bind, eq_pt, Result.andThen_ok]
  by_cases h : a = b
  · simp [h]
  · simp [h, Instr.findAsking]
theorem find_2 (a b : P3) (k k' : Int) (n n' : Nat) (h : ¬ a = b) (w : World) : (Instr.findKey 25 (V (pc a)) [ent b k n, ent a k' n']).run Try.prog w = .ok (some (1, .int .i64 k')) w := by
  rw [find_ask]
  unfold Instr.findAsking
  simp only [Sem.run_bind, eq_pt, Result.andThen_ok]
  rw [decide_eq_false h]
  unfold Instr.findAsking
  simp [eq_pt]
theorem run_und99 (w : World) : (underlying 99).run Try.prog w = .ok (.map 25 3) w := by kernel_rfl
theorem zero_3 (w : World) : (zeroValue 3).run Try.prog w = .ok (.int .i64 0) w := by kernel_rfl
section
variable {ρ : Operand → Value} {o : Oper} {x y z : Operand} {g : Nat} {w : World} {a b : P3}
theorem ex_look {es : Array MapEntry} {c : Nat} {v : Int} {r : Option (Nat × Value)} (hb : w.heap[g]? = some (.map es c)) (hf : (Instr.findKey 25 (V (pc a)) es.toList).run Try.prog w = .ok r w) (hr : (match r with | some (_, v) => v | none => Value.int .i64 0) = .int .i64 v)
    (ho : o.op = .lookup 99 x y false) (hx : ρ x = .map (some g)) (hy : ρ y = V (pc a)) : (execOp ρ o).run Try.prog w = .ok (.value (.int .i64 v)) w := by
  have hl : (Instr.lookup 99 (.map (some g)) (V (pc a)) false).run Try.prog w = .ok (.int .i64 v) w := by
    simp only [Instr.lookup, Sem.run_bind, run_und99, Result.andThen_ok, MapKept.run_getObj_map hb, Sem.run_pure, check_pt, hf]
    cases r with
    | none =>
      have hr2 : Value.int .i64 0 = .int .i64 v := hr
      rw [← hr2]
      simp
    | some q => simp; exact hr
  simp only [execOp, ho, hx, hy]
  simp [hl]
/-- The block of a map is written. -/
def wm (w : World) (g : Nat) (es : Array MapEntry) (c : Nat) : World := { w with heap := w.heap.setIfInBounds g (.map es c) }
theorem ex_entryN {es : Array MapEntry} {c : Nat} (hb : w.heap[g]? = some (.map es c)) (hf : (Instr.findKey 25 (V (pc a)) es.toList).run Try.prog w = .ok none w)
    (ho : o.op = .mapEntry 99 x y) (hx : ρ x = .map (some g)) (hy : ρ y = V (pc a)) : (execOp ρ o).run Try.prog w = .ok (.value (.tuple #[.int .i64 0, .int .i64 (c : Int)])) (wm w g (es.push (ent a 0 c)) (c + 1)) := by
  have hl : (Instr.mapEntry 99 (.map (some g)) (V (pc a))).run Try.prog w = .ok (.tuple #[.int .i64 0, .int .i64 (c : Int)]) (wm w g (es.push (ent a 0 c)) (c + 1)) := by
    simp only [Instr.mapEntry, Sem.run_bind, run_und99, Result.andThen_ok, MapKept.run_getObj_map hb, check_pt, hf, zero_3]
    simp only [MapKept.run_setObj_map _ hb, Result.andThen_ok]
    rfl
  simp only [execOp, ho, hx, hy]
  simp [hl]
theorem same_pt (a : P3) : Instr.sameBits 10000 (V (pc a)) (V (pc a)) = true := by
  show (_ == _ && ([(U a.1, U a.1), (U a.2.1, U a.2.1), (Value.bool a.2.2, Value.bool a.2.2)].all fun q => Instr.sameBits 9999 q.1 q.2)) = true
  simp [Instr.sameBits]
theorem ex_entryS {k : Int} {n c : Nat} (hb : w.heap[g]? = some (.map #[ent a k n] c))
    (ho : o.op = .mapEntry 99 x y) (hx : ρ x = .map (some g)) (hy : ρ y = V (pc a)) : (execOp ρ o).run Try.prog w = .ok (.value (.tuple #[.int .i64 k, .int .i64 (n : Int)])) (wm w g #[ent a k n] c) := by
  have hf := find_1 a a k n w
  rw [if_pos rfl] at hf
  have hl : (Instr.mapEntry 99 (.map (some g)) (V (pc a))).run Try.prog w = .ok (.tuple #[.int .i64 k, .int .i64 (n : Int)]) (wm w g #[ent a k n] c) := by
    simp only [Instr.mapEntry, Sem.run_bind, run_und99, Result.andThen_ok, MapKept.run_getObj_map hb, check_pt, hf]
    simp only [Instr.keyThatStays]
    rw [show ((((#[ent a k n] : Array MapEntry)[0]?).map (·.key)).getD (V (pc a))) = V (pc a) from rfl, same_pt]
    simp only [if_true, Sem.run_pure, Result.andThen_ok, MapKept.run_setObj_map _ hb]
    rfl
  simp only [execOp, ho, hx, hy]
  simp [hl]
theorem ex_eStore {es es' : Array MapEntry} {c n i : Nat} {v : Value} (hb : w.heap[g]? = some (.map es c)) (hi : es.findIdx? (fun e => (e.born : Int) == (n : Int)) = some i) (he : (es.modify i fun e => { e with val := v }) = es')
    (ho : o.op = .entryStore 99 x y z) (hx : ρ x = .map (some g)) (hy : ρ y = .int .i64 (n : Int)) (hz : ρ z = v) : (execOp ρ o).run Try.prog w = .ok .skip (wm w g es' c) := by
  have hl : (Instr.entryStore 99 (.map (some g)) (.int .i64 (n : Int)) v).run Try.prog w = .ok () (wm w g es' c) := by
    simp only [Instr.entryStore, Sem.run_bind, MapKept.run_getObj_map hb, Result.andThen_ok]
    rw [show (asInt (.int .i64 (n : Int))).run Try.prog w = .ok (n : Int) w from rfl]
    simp only [Result.andThen_ok, hi, MapKept.run_setObj_map _ hb, he]
    rfl
  simp only [execOp, ho, hx, hy, hz]
  simp [hl]
theorem ex_makeM0 (ho : o.op = .makeMap 99 none) : (execOp ρ o).run Try.prog w = .ok (.value (.map (some w.heap.size))) (w.alloc (.map #[] 0)) := by
  simp only [execOp, ho, Option.map_none]
  simp [run_makeMap]
theorem wm_get (w : World) {g : Nat} (es : Array MapEntry) (c : Nat) (h : g < w.heap.size) : (wm w g es c).heap[g]? = some (.map es c) := by
  unfold wm
  simp [h]
theorem wm_other (w : World) {g k : Nat} (es : Array MapEntry) (c : Nat) (h : k ≠ g) : (wm w g es c).heap[k]? = w.heap[k]? := by
  unfold wm
  simp [Ne.symm h]
end
/-- What stays where a map of the call's own is written: what was there, and what the map holds. -/
structure Mr (g : Nat) (es : Array MapEntry) (c : Nat) (w0 w : World) : Prop where
  bl : Below w0.heap.size w0 w
  at_ : w.heap[g]? = some (.map es c)
  ge : w0.heap.size ≤ g
theorem idx_1 (a : P3) (k : Int) : (#[ent a k 0] : Array MapEntry).findIdx? (fun e => (e.born : Int) == ((0 : Nat) : Int)) = some 0 := by
  simp [List.findIdx?_cons]
theorem idx_2 (a b : P3) (k k' : Int) : (#[ent a k 0, ent b k' 1] : Array MapEntry).findIdx? (fun e => (e.born : Int) == ((1 : Nat) : Int)) = some 1 := by
  simp [List.findIdx?_cons]
section
variable {g c : Nat} {es : Array MapEntry} {w0 w w' : World} {L : List (Nat × List Value)}
theorem Mr.size (h : Mr g es c w0 w) : w0.heap.size ≤ w.heap.size := h.bl.size
theorem Mr.lt (h : Mr g es c w0 w) : g < w.heap.size := (Array.getElem?_eq_some_iff.1 h.at_).1
theorem Mr.grow (h : Mr g es c w0 w) (hb : Below w.heap.size w w') : Mr g es c w0 w' := ⟨h.bl.trans (hb.mono h.bl.size), (hb.block g h.lt).trans h.at_, h.ge⟩
theorem Mr.made (h : Below w0.heap.size w0 w) : Mr w.heap.size #[] 0 w0 (w.alloc (.map #[] 0)) := ⟨h.alloc h.size _, by show (w.heap.push _)[w.heap.size]? = _; simp, h.size⟩
theorem Mm.wm (hm : Mm w L) (h : Mr g es c w0 w) (es' : Array MapEntry) (c' : Nat) : Mm (wm w g es' c') L := by
  refine ⟨fun q hq => ?_, hm.nd⟩
  obtain ⟨h1, h2⟩ := hm.blk q hq
  have hs : (Rg.wm w g es' c').heap.size = w.heap.size := by unfold Rg.wm; simp
  refine ⟨by rw [hs]; exact h1, fun j v hv => ?_⟩
  obtain ⟨h3, h4⟩ := h2 j v hv
  have hne : q.1 ≠ g := fun e => by
    unfold World.cell? at h3
    simp only at h3
    rw [e, h.at_] at h3
    cases h3
  unfold World.cell? World.frozen? at *
  simp only at *
  rw [wm_other w es' c' hne]
  exact ⟨h3, h4⟩
theorem Mr.wm (h : Mr g es c w0 w) (es' : Array MapEntry) (c' : Nat) : Mr g es' c' w0 (Rg.wm w g es' c') := by
  refine ⟨⟨h.bl.os, h.bl.tape, h.bl.output, ?_, fun k hk => ?_⟩, wm_get w es' c' h.lt, h.ge⟩
  · have hs : (Rg.wm w g es' c').heap.size = w.heap.size := by unfold Rg.wm; simp
    rw [hs]; exact h.bl.size
  · have := h.ge
    rw [wm_other w es' c' (by omega)]
    exact h.bl.block k hk
end
/-! A region whose order is open, taken order by order. -/
section
variable {P : Program} {Q : Exit → Act → World → Prop} {ops : Array Oper} {a : Act} {w : World}
theorem any_ready {fuel : Nat} {l : Array Bool} (rs : List Nat) (hr : Region.ready .any ops l = rs) (h0 : rs ≠ []) (h : ∀ i ∈ rs, wpOp P ops Q i (wpAny P .any ops Q fuel (l.setIfInBounds i true)) a w) : wpAny P .any ops Q (fuel + 1) l a w :=
  ⟨fun e => absurd (hr.symm.trans e) h0, fun i hi => h i (hr ▸ hi)⟩
theorem op_val {i d : Nat} {K : Act → World → Prop} {o : Oper} {v : Value} {w' : World} (ho : ops[i]? = some o) (hd : o.dst = some d) (hw : Region.wanted o (yielded ops a.tmps) = true) (hx : (execOp a.eval o).run P w = .ok (.value v) w') (h : K (a.put (some d) v) w') : wpOp P ops Q i K a w := by
  refine wpOp_step ho (fun K' hK => ?_)
  rw [if_pos hw]
  unfold Oper.wp
  rw [hx]
  exact hK _ _ (by rw [hd]; exact h)
theorem op_skip {i : Nat} {K : Act → World → Prop} {o : Oper} {w' : World} (ho : ops[i]? = some o) (hd : o.dst = none) (hw : Region.wanted o (yielded ops a.tmps) = true) (hx : (execOp a.eval o).run P w = .ok .skip w') (h : K a w') : wpOp P ops Q i K a w := by
  refine wpOp_step ho (fun K' hK => ?_)
  rw [if_pos hw]
  unfold Oper.wp
  rw [hx]
  exact hK _ _ (by rw [hd]; exact h)
theorem region_k {id n : Nat} (F : Act) (R : World → Prop) (hm : P.follows .mixedOrders = true) (hn : ops.size = n) (h : wpAny P .any ops (fun e a w => e = .normal ∧ a = F ∧ R w) n (Array.replicate n false) a w.drew) (hk : ∀ w2, R w2 → Q .normal F w2) : (Code.region id ops true).wp P Q a w := by
  subst hn
  refine Code.wp_mono (fun e a' w' h' => ?_) (wp_region_any hm h)
  obtain ⟨rfl, rfl, h3⟩ := h'
  exact hk _ h3
end
end Rg
end Go.Proofs.Ytjmbgchoioepjaa
