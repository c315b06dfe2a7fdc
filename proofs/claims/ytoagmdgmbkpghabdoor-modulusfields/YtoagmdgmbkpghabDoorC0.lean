/- Numbers in memory, by the list; the operations of a region on numbers of six words. -/
import Derived.Test.YtoagmdgmbkpghabDoorB0
import Derived.Test.YtoagmdgmbkpghabDoorA1
namespace Go.Proofs.YtoagmdgmbkpghabDoor
open Go.RowKit

abbrev O6 (v : Nat) : Obj := .cells #[.int .u64 (wd v 0), .int .u64 (wd v 1), .int .u64 (wd v 2), .int .u64 (wd v 3), .int .u64 (wd v 4), .int .u64 (wd v 5)] 24
abbrev Z6 : Obj := .cells #[.int .u64 0, .int .u64 0, .int .u64 0, .int .u64 0, .int .u64 0, .int .u64 0] 24
/-- The blocks of the list hold its numbers. -/
def Rws (wr : World) (l : List (Nat × Nat)) : Prop := ∀ g v, (g, v) ∈ l → g < wr.heap.size ∧ Row wr g 6 (wd v)
theorem Rws.nil (w : World) : Rws w [] := fun _ _ h => by cases h
theorem Rws.below {wr w1 : World} {l : List (Nat × Nat)} (h : Rws wr l) (hb : Below wr.heap.size wr w1) : Rws w1 l :=
  fun g v hm => ⟨Nat.lt_of_lt_of_le (h g v hm).1 hb.size, Row.below hb (h g v hm).2 (h g v hm).1⟩
theorem Rws.alloc {wr : World} {l : List (Nat × Nat)} (h : Rws wr l) (v : Nat) {g : Nat} (hg : g = wr.heap.size) : Rws (wr.alloc (O6 v)) ((g, v) :: l) := by
  intro g' v' hm
  rcases List.mem_cons.1 hm with h1 | h1
  · injection h1 with h2 h3
    subst h2 h3 hg
    exact ⟨by simp, Row.new wr _ 24 rfl (six_lt rfl)⟩
  · exact ⟨by simp; have := (h g' v' h1).1; omega, (h g' v' h1).2.alloc (h g' v' h1).1 _⟩
theorem Rws.drew {wr : World} {l : List (Nat × Nat)} (h : Rws wr l) : Rws wr.drew l := fun g v hm => ⟨(h g v hm).1, (h g v hm).2.drew⟩
theorem Rws.at {wr : World} {l : List (Nat × Nat)} (h : Rws wr l) {g v : Nat} (hm : (g, v) ∈ l) : g < wr.heap.size ∧ wr.cell? ⟨g, 0, none⟩ = some (.int .u64 (wd v 0)) ∧ wr.cell? ⟨g, 1, none⟩ = some (.int .u64 (wd v 1)) ∧ wr.cell? ⟨g, 2, none⟩ = some (.int .u64 (wd v 2)) ∧ wr.cell? ⟨g, 3, none⟩ = some (.int .u64 (wd v 3)) ∧ wr.cell? ⟨g, 4, none⟩ = some (.int .u64 (wd v 4)) ∧ wr.cell? ⟨g, 5, none⟩ = some (.int .u64 (wd v 5)) :=
  ⟨(h g v hm).1, (h g v hm).2.reads⟩

abbrev cells6 (v : Nat) : List Value := [.int .u64 (wd v 0), .int .u64 (wd v 1), .int .u64 (wd v 2), .int .u64 (wd v 3), .int .u64 (wd v 4), .int .u64 (wd v 5)]
abbrev zero6 : List Value := [.int .u64 0, .int .u64 0, .int .u64 0, .int .u64 0, .int .u64 0, .int .u64 0]
theorem Blk.row {w : World} {g v : Nat} (h : Blk w g (cells6 v)) : Row w g 6 (wd v) := fun j hj => by
  match j, hj with
  | 0, _ => exact h 0 _ rfl
  | 1, _ => exact h 1 _ rfl
  | 2, _ => exact h 2 _ rfl
  | 3, _ => exact h 3 _ rfl
  | 4, _ => exact h 4 _ rfl
  | 5, _ => exact h 5 _ rfl
theorem Rws.cons {wr : World} {l : List (Nat × Nat)} (h : Rws wr l) {g v : Nat} (hb : Blk wr g (cells6 v) ∧ g < wr.heap.size) : Rws wr ((g, v) :: l) := by
  intro g' v' hm
  rcases List.mem_cons.1 hm with e | hm
  · injection e with e1 e2
    subst e1 e2
    exact ⟨hb.2, hb.1.row⟩
  · exact h g' v' hm
theorem exec_load6 {ρ : Operand → Value} {o : Oper} {x : Operand} {g v : Nat} {w : World} {l : List (Nat × Nat)} (h : Rws w l) (hm : (g, v) ∈ l) (ho : o.op = .load 24 x) (hx : ρ x = .pointer (some ⟨g, 0, none⟩)) :
    (execOp ρ o).run Tryd.prog w = .ok (.value (N v)) w := by
  obtain ⟨h0, c0, c1, c2, c3, c4, c5⟩ := h.at hm
  clear h hm
  simp only [execOp, ho, hx]
  go_simp
theorem exec_made6 {ρ : Operand → Value} {o : Oper} {w : World} (ho : o.op = .alloc 24) :
    (execOp ρ o).run Tryd.prog w = .ok (.value (.pointer (some ⟨w.heap.size, 0, none⟩))) (w.alloc (.cells zero6.toArray 24)) := by
  simp only [execOp, ho]
  go_simp
theorem exec_laid6 {ρ : Operand → Value} {o : Oper} {x y : Operand} {g v : Nat} {w : World} (h : Blk w g zero6) (ho : o.op = .store 24 x y) (hx : ρ x = .pointer (some ⟨g, 0, none⟩)) (hy : ρ y = N v) :
    (execOp ρ o).run Tryd.prog w = .ok .skip (w.setCells g 0 (cells6 v)) := by
  obtain ⟨c0, f0⟩ := h 0 _ rfl
  obtain ⟨c1, f1⟩ := h 1 _ rfl
  obtain ⟨c2, f2⟩ := h 2 _ rfl
  obtain ⟨c3, f3⟩ := h 3 _ rfl
  obtain ⟨c4, f4⟩ := h 4 _ rfl
  obtain ⟨c5, f5⟩ := h 5 _ rfl
  clear h
  simp only [execOp, ho, hx, hy]
  go_simp
  simp [World.setCells]
theorem exec_call {P : Program} {ρ : Operand → Value} {o : Oper} {f : FuncId} {xs : Array Operand} {ts : Array TypeId} {args : Array Value} {w : World} (ho : o.op = .call { callee := .value (.func f), args := xs, argTypes := ts }) (hc : ∀ args w, (callFunc f args).run P w = .ok (.enter f args) w) (hf : ρ (.func f) = .func (.func f) #[] #[]) (hx : xs.map ρ = args) :
    (execOp ρ o).run P w = .ok (.enter f args) w := by
  subst hx
  simp only [execOp, ho, resolve, hf]
  simp [go_sem, Deferred.ofValue, invoke, hc]
theorem call33 : ∀ args w, (callFunc 33 args).run Tryd.prog w = .ok (.enter 33 args) w := by intro args w; go_simp
theorem call10 : ∀ args w, (callFunc 10 args).run Tryd.prog w = .ok (.enter 10 args) w := by intro args w; go_simp
theorem call26 : ∀ args w, (callFunc 26 args).run Tryd.prog w = .ok (.enter 26 args) w := by intro args w; go_simp
theorem call34 : ∀ args w, (callFunc 34 args).run Tryd.prog w = .ok (.enter 34 args) w := by intro args w; go_simp
theorem call32 : ∀ args w, (callFunc 32 args).run Tryd.prog w = .ok (.enter 32 args) w := by intro args w; go_simp
theorem call22 : ∀ args w, (callFunc 22 args).run Tryd.prog w = .ok (.enter 22 args) w := by intro args w; go_simp
theorem call11 : ∀ args w, (callFunc 11 args).run Tryd.prog w = .ok (.enter 11 args) w := by intro args w; go_simp
theorem AllOk.cons {P : Program} {ops : Array Oper} {S : World → Prop} {F : (Nat → Nat) → Act} {o : Oper} {os : List Oper} {k : Kind} {ks : List Kind} (h : KindOk P ops S F o k) (hs : AllOk P ops S F os ks) : AllOk P ops S F (o :: os) (k :: ks) := ⟨h, hs⟩
/-- The law, with the frame behind the region written out. -/
theorem region_law {P : Program} {ops : Array Oper} {Q : Exit → Act → World → Prop} {id : Nat} {a : Act} {w : World} (hm : P.follows .mixedOrders = true) (ks : List Kind) (S : World → Prop) (F : (Nat → Nat) → Act)
    (hF : ∀ γ, fill γ 0 ops.toList ks a = F γ) (hor : orderly ops ks a.tmps.size = true) (hL : LaidOk ks ks) (hS : ∀ w', Below w.heap.size w w' → S w') (hops : AllOk P ops S F ops.toList ks)
    (hend : ∀ γ w' l, Mem ks w l γ w' → (∀ i, i < ops.size → l.getD i false = true) → Q .normal (F γ) w') : (Code.region id ops true).wp P Q a w := by
  obtain rfl : (fun γ => fill γ 0 ops.toList ks a) = F := funext hF
  exact region_inv hm ks S hor hL hS hops hend
end Go.Proofs.YtoagmdgmbkpghabDoor
